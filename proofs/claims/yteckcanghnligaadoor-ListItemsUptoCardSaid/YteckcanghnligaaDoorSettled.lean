/- DERIVED. What the reference's settled returns, by induction over the value. Condition: at most 2^40 values. -/
import Derived.Test.YteckcanghnligaaDoorSetIn
import Derived.RegionTactic
import Derived.Deep.RegionHeld3
import Derived.BigRegion
namespace Go.Proofs.YteckcanghnligaaDoor
set_option linter.unusedVariables false
open Go.RowKit
theorem svRes2 {fn : Func} {p : Tmp} (h : fn.results = #[.cell p 25]) (tmps : Array Value) (w : World) (N : Nat) (a : Sv)
    (hp : tmps.getD p undef = .pointer (some ⟨N, 0, none⟩)) (hr : w.rangeAt N 0 a.cs.toList) : (results fn tmps).run Tryd.prog w = .ok a.val w := by
  have hp' : tmps[p]?.getD undef = .pointer (some ⟨N, 0, none⟩) := by simpa using hp
  simp [results, h, hp', asAddr, sv_load hr]
theorem block_setCells' (b : Nat) : ∀ (vs : List Value) (o : Nat) (w : World) (k : Nat), k ≠ b → (w.setCells b o vs).heap[k]? = w.heap[k]?
  | [], _, _, _, _ => rfl
  | v :: r, o, w, k, hk => by rw [World.setCells, block_setCells' b r (o + 1) _ k hk]; exact Below.heap_setCell _ _ _ _ hk
/-- The row that is handed back. -/
theorem SetIn.fin {w wr : World} {B0 : Nat} {q : Int} {bo : Bool} {i : Int} {t : ByteArray} {A2 : Option Addr} {n2 c2 : Nat} {items : Vals} {j : Nat} {A' : Option Addr} {c' : Nat} {xs : List Value}
    (h : SetIn w B0 q bo i t A2 n2 c2 items j (.slice A' j c') xs wr) (hB : B0 ≤ w.heap.size) (hj : j = items.len) (cs : List Value) :
    items.settle.AtP (wr.setCells (w.heap.size + 1) 0 cs) (PB B0 w.heap.size (wr.setCells (w.heap.size + 1) 0 cs).heap.size) A' j := by
  have hl : items.settle.len = j := by rw [Vals.settle_len, hj]
  have hz := h.size
  rcases Nat.eq_zero_or_pos j with h0 | hp
  · cases hd : items.settle with
    | nil => exact h0
    | cons => rw [hd] at hl; simp only [Vals.len] at hl; omega
  · obtain ⟨g, hg, -⟩ := h.els 0 hp
    have hgl := h.row.lt g hg
    have hA' : A' = some ⟨g, 0, none⟩ := by
      rcases h.row.2 with ⟨e, _⟩ | ⟨g', cap0, cur, e, _⟩
      · cases e; simp [Value.ownBlock] at hg
      · cases e; simp [Value.ownBlock] at hg; rw [hg]
    subst hA'
    rw [← hl]
    have hk : ∀ b, b ≠ w.heap.size + 1 → (wr.setCells (w.heap.size + 1) 0 cs).heap[b]? = wr.heap[b]? := fun b hb => block_setCells' _ cs 0 wr b hb
    have hsz : (wr.setCells (w.heap.size + 1) 0 cs).heap.size = wr.heap.size := size_setCells' _ cs 0 wr
    refine Vals.AtP.of_els (p := fun b => b < B0 ∨ (w.heap.size + 3 ≤ b ∧ b < wr.heap.size ∧ b ≠ g)) ?_ ?_ items.settle 0 (fun m hm => ?_)
    · unfold PB; rw [hsz]; omega
    · intro b hb
      unfold PB
      rw [hsz]
      rcases hb with hb | hb
      · exact .inl hb
      · exact .inr (by omega)
    · obtain ⟨g', hg', hel⟩ := h.els m (by omega)
      rw [hg] at hg'
      obtain rfl := Option.some.inj hg'
      rw [Nat.zero_add]
      exact hel.keep (fun jj _ => World.cell?_of_block (hk g (by omega))) (fun x hx => World.cell?_of_block (hk x.block (by rcases hx with hx | hx <;> omega))) (fun b hb => hb)
theorem own_slice {w : World} {base sz n : Nat} {e : TypeId} {v : Value} {xs : List Value} (h : w.ownsRow base e sz v n xs) : ∃ A c, v = .slice A n c ∧ n ≤ c ∧ c ≤ maxLen := by
  rcases h.2 with ⟨rfl, rfl⟩ | ⟨g, cap, cur, rfl, _, _, h1, h2, _⟩
  · exact ⟨none, 0, rfl, Nat.le_refl _, Nat.zero_le _⟩
  · exact ⟨_, cap, rfl, h1, h2⟩
theorem sk_wf {k : Int} (h : (Lit.int .i64 k).wf = true) : (Lit.int .i64 (sk k)).wf = true := by
  unfold sk
  split
  · rfl
  · exact h
theorem vCells_one (k : Int) (bo : Bool) (i : Int) (t : ByteArray) (A1 : Option Addr) (n1 c1 : Nat) (A2 : Option Addr) (n2 c2 : Nat) : ∀ v, v ∈ vCells k bo i t A1 n1 c1 A2 n2 c2 → v.oneCell' = true := by
  intro v hv
  simp only [vCells, List.mem_cons, List.not_mem_nil, or_false] at hv
  rcases hv with rfl | rfl | rfl | rfl | rfl | rfl <;> rfl
set_option maxRecDepth 100000 in
set_option maxHeartbeats 3200000 in
theorem settled_gen (B0 : Nat) (k : Int) (bo : Bool) (i : Int) (t : ByteArray) (A1 : Option Addr) (n1 c1 : Nat) (A2 : Option Addr) (n2 c2 : Nat) (items : Vals) (keys : List ByteArray) (w : World) (hB : B0 ≤ w.heap.size)
    (hv : VOk w B0 k i t A1 n1 c1 A2 n2 c2 items keys) (hbig : items.nodes ≤ 1099511627776)
    (ih : ∀ (j : Nat) (k : Int) (bo : Bool) (i : Int) (t : ByteArray) (it : Vals) (ks : List ByteArray) (rest : Vals), j < n1 → items.drop j = .cons k bo i t it ks rest →
      ∀ (A1 : Option Addr) (n1 c1 : Nat) (A2 : Option Addr) (n2 c2 : Nat) (wX : World), B0 ≤ wX.heap.size → VOk wX B0 k i t A1 n1 c1 A2 n2 c2 it ks →
        Calls Tryd.prog 12 #[.agg #[.int .i64 k, .bool bo, .int .i64 i, .string t, .slice A1 n1 c1, .slice A2 n2 c2]] wX (SetPost B0 k bo i t n1 A2 n2 c2 it wX)) :
    Calls Tryd.prog 12 #[.agg #[.int .i64 k, .bool bo, .int .i64 i, .string t, .slice A1 n1 c1, .slice A2 n2 c2]] w (SetPost B0 k bo i t n1 A2 n2 c2 items w) := by
  have IH := Lib.hid ih; clear ih
  have HA := Lib.hid hv.at_
  have hn : n1 ≤ items.nodes := by rw [hv.at_.len_eq]; exact Vals.len_le items
  obtain ⟨i0, hi, hz0, hz1, hz2⟩ := info_parts valInfo6
  clear hv
  rcases (show (k = 7 ∧ sk k = 3) ∨ (k = 8 ∧ sk k = 3) ∨ ((k == 7) = false ∧ (k == 8) = false ∧ sk k = k) by
    unfold sk
    by_cases h7 : k = 7
    · exact .inl ⟨h7, by rw [if_pos (.inl h7)]⟩
    · by_cases h8 : k = 8
      · exact .inr (.inl ⟨h8, by rw [if_pos (.inr h8)]⟩)
      · exact .inr (.inr ⟨by simpa using h7, by simpa using h8, by rw [if_neg (by simp [h7, h8])]⟩)) with ⟨rfl, hsk⟩ | ⟨rfl, hsk⟩ | ⟨e7, e8, hsk⟩
  · go_enter Tryd.func12, Tryd.ntmps12
    go_wp2_with fail
    go_loopw [20] (fun i' wr => ∃ (j : Nat) (u : Value) (xs : List Value), j ≤ n1 ∧ i' = .int .i64 j ∧ SetIn w B0 3 bo i t A2 n2 c2 items j u xs wr) (fun i' _ => n1 - (intOf i').toNat)
    case atStart => exact ⟨0, _, _, Nat.zero_le _, rfl, setIn_start w B0 _ 3 bo i t A2 n2 c2 items⟩
    case round =>
      obtain ⟨j, u, xs, hj, rfl, hin⟩ := hrel
      have hwsz := hin.size
      by_cases hlt : j < n1
      · obtain ⟨b, off, k1, bo1, i1, t1, B1, m1, d1, B2, m2, d2, it, ks, r, rfl, e1, e2, E⟩ := HA.out.el j hlt
        have E' := E.below (hin.old.mono hB)
        obtain ⟨hlb, x0, x1, x2, x3, x4, x5, hok⟩ := E'
        obtain ⟨_, _, _, _, _, _, _, hok0⟩ := E
        have hsb : b < wr.heap.size := by omega
        obtain ⟨wr1, hwr1⟩ : ∃ wr1, wr.alloc (.cells #[.int .i64 k1, .bool bo1, .int .i64 i1, .string t1, .slice B1 m1 d1, .slice B2 m2 d2] 25) = wr1 := ⟨_, rfl⟩
        have hb1 : Below wr.heap.size wr wr1 := by rw [← hwr1]; exact (Below.refl _ _).alloc (Nat.le_refl _) _
        have hs1 : wr1.heap.size = wr.heap.size + 1 := by rw [← hwr1]; simp
        have hbox := BoxAt.new wr k1 bo1 i1 t1 (.slice B1 m1 d1) (.slice B2 m2 d2)
        rw [hwr1] at hbox
        have hfacts : ∀ w', Below (wr.heap.size + 1) wr1 w' → w'.cell? ⟨w.heap.size + 1 + 1, 4, none⟩ = some u ∧ w'.frozen? ⟨w.heap.size + 1 + 1, 4, none⟩ = false ∧ w'.cell? ⟨wr.heap.size, 0, none⟩ = some (.int .i64 k1) ∧ w'.cell? ⟨wr.heap.size, 1, none⟩ = some (.bool bo1) ∧ w'.cell? ⟨wr.heap.size, 2, none⟩ = some (.int .i64 i1) ∧ w'.cell? ⟨wr.heap.size, 3, none⟩ = some (.string t1) ∧ w'.cell? ⟨wr.heap.size, 4, none⟩ = some (.slice B1 m1 d1) ∧ w'.cell? ⟨wr.heap.size, 5, none⟩ = some (.slice B2 m2 d2) := fun w' hb => by
          have ho : BoxAt w' (w.heap.size + 1 + 1) 3 bo i t u (.slice A2 n2 c2) := (hb.block _ (by omega)).trans ((hb1.block _ (by omega)).trans hin.out)
          exact ⟨ho.cells.2.2.2.2.1, ho.frozen 4, (hbox.keep hb (by omega)).cells⟩
        have hcall : ∀ wX, Below (wr.heap.size + 1) wr1 wX → Calls Tryd.prog 12 #[.agg #[.int .i64 k1, .bool bo1, .int .i64 i1, .string t1, .slice B1 m1 d1, .slice B2 m2 d2]] wX (fun e w' => ∃ (A' : Option Addr) (c' : Nat), e = .returned (.agg #[.int .i64 (sk k1), .bool bo1, .int .i64 i1, .string t1, .slice A' m1 c', .slice B2 m2 d2]) ∧
            (m1 ≤ c' ∧ c' ≤ maxLen ∧ it.settle.AtP w' (PB B0 wX.heap.size w'.heap.size) A' m1 ∧ Below wX.heap.size wX w' ∧ Below wr.heap.size wr wX ∧ wr.heap.size + 1 ≤ wX.heap.size) ∧ Below (wr.heap.size + 1) wr1 w' ∧ w'.cell? ⟨w.heap.size + 1 + 1, 4, none⟩ = some u ∧ w'.frozen? ⟨w.heap.size + 1 + 1, 4, none⟩ = false ∧ w'.cell? ⟨wr.heap.size, 0, none⟩ = some (.int .i64 k1) ∧ w'.cell? ⟨wr.heap.size, 1, none⟩ = some (.bool bo1) ∧ w'.cell? ⟨wr.heap.size, 2, none⟩ = some (.int .i64 i1) ∧ w'.cell? ⟨wr.heap.size, 3, none⟩ = some (.string t1) ∧ w'.cell? ⟨wr.heap.size, 4, none⟩ = some (.slice B1 m1 d1) ∧ w'.cell? ⟨wr.heap.size, 5, none⟩ = some (.slice B2 m2 d2)) := fun wX hX => by
          have hXs := hX.size
          refine (IH.out j k1 bo1 i1 t1 it ks r hlt e1 B1 m1 d1 B2 m2 d2 wX (by omega) (VOk.keep (fun p hp => (hX.mono (Nat.le_refl _)).cell (by omega) |>.trans (by rw [hb1.cell (by omega)])) (Nat.le_refl _) hok)).mono ?_
          rintro e w' ⟨A', c', rfl, g1, g2, g3, hb2⟩
          have hbw := hX.trans (hb2.mono (by omega))
          exact ⟨A', c', rfl, ⟨g1, g2, g3, hb2, hb1.trans (hX.mono (by omega)), by omega⟩, hbw, hfacts w' hbw⟩
        have HCL := Lib.hid hcall
        have hrowk : ∀ w', Below (wr.heap.size + 1) wr1 w' → w'.ownsRow (w.heap.size + 3) 25 6 u j xs := fun w' hb => own_keep hin.row (fun g hg => by
          have h1 := hin.row.lt g hg
          exact (hb.block g (by omega)).trans (hb1.block g (by omega)))
        have HROW := Lib.hid hrowk
        have hub := fun g hg => hin.row.lt g hg
        have HUB := Lib.hid hub
        have HOK := Lib.hid hok0
        have HE1 := Lib.hid e1
        have HIN := Lib.hid hin
        obtain ⟨hc, hf, y0, y1, y2, y3, y4, y5⟩ := hfacts wr1 (Below.refl _ _)
        have HS1 := Lib.hid hs1
        have HFX := Lib.hid (fun w' hb => (hfacts w' hb).2.2)
        have hneux : u.ownBlock ≠ some wr.heap.size := fun e => by have := (hub _ e).2; omega
        have HSET := Lib.hid (fun (w' : World) (v : Value) (h : w'.cell? ⟨wr.heap.size, 0, none⟩ = some (.int .i64 k1) ∧ w'.cell? ⟨wr.heap.size, 1, none⟩ = some (.bool bo1) ∧ w'.cell? ⟨wr.heap.size, 2, none⟩ = some (.int .i64 i1) ∧ w'.cell? ⟨wr.heap.size, 3, none⟩ = some (.string t1) ∧ w'.cell? ⟨wr.heap.size, 4, none⟩ = some (.slice B1 m1 d1) ∧ w'.cell? ⟨wr.heap.size, 5, none⟩ = some (.slice B2 m2 d2)) => (show (w'.setCell ⟨w.heap.size + 1 + 1, 4, none⟩ v).cell? ⟨wr.heap.size, 0, none⟩ = some (.int .i64 k1) ∧ (w'.setCell ⟨w.heap.size + 1 + 1, 4, none⟩ v).cell? ⟨wr.heap.size, 1, none⟩ = some (.bool bo1) ∧ (w'.setCell ⟨w.heap.size + 1 + 1, 4, none⟩ v).cell? ⟨wr.heap.size, 2, none⟩ = some (.int .i64 i1) ∧ (w'.setCell ⟨w.heap.size + 1 + 1, 4, none⟩ v).cell? ⟨wr.heap.size, 3, none⟩ = some (.string t1) ∧ (w'.setCell ⟨w.heap.size + 1 + 1, 4, none⟩ v).cell? ⟨wr.heap.size, 4, none⟩ = some (.slice B1 m1 d1) ∧ (w'.setCell ⟨w.heap.size + 1 + 1, 4, none⟩ v).cell? ⟨wr.heap.size, 5, none⟩ = some (.slice B2 m2 d2) from by
          have hk : ∀ jj, (w'.setCell ⟨w.heap.size + 1 + 1, 4, none⟩ v).cell? ⟨wr.heap.size, jj, none⟩ = w'.cell? ⟨wr.heap.size, jj, none⟩ := fun jj => World.cell?_of_block (Below.heap_setCell _ _ _ _ (by show wr.heap.size ≠ w.heap.size + 1 + 1; omega))
          exact ⟨(hk 0).trans h.1, (hk 1).trans h.2.1, (hk 2).trans h.2.2.1, (hk 3).trans h.2.2.2.1, (hk 4).trans h.2.2.2.2.1, (hk 5).trans h.2.2.2.2.2⟩))
        have hneu : u.ownBlock ≠ some (w.heap.size + 1 + 1) := fun e => by have := (hub _ e).1; omega
        clear hcall hrowk hfacts hub hok0 e1 hin hbox hb1 hs1 hok
        go_upto_region 8 with (fail)
        go_region_law (first
              | (go_simp; go_at_call 12; with_reducible refine Calls.mono (HCL.out _ (by first | exact (Below.refl _ _).drew | exact Below.refl _ _)) ?_; rintro e w2 ⟨A', c', rfl, hg2, hb2, hc2, hf2, z0, z1, z2, z3, z4, z5⟩; have hc2a : (w2.alloc (.cells #[.int .i64 (sk k1), .bool bo1, .int .i64 i1, .string t1, .slice A' m1 c', .slice B2 m2 d2] 25)).cell? ⟨w.heap.size + 1 + 1, 4, none⟩ = some u := (((Below.refl _ w2).alloc (Nat.le_refl _) _).cell (p := ⟨w.heap.size + 1 + 1, 4, none⟩) (by have h1 := hb2.size; have h2 := HS1.out; show w.heap.size + 1 + 1 < _; omega)).trans hc2)
              | (refine step_append_lies _ (by rfl) _ _ _ (by rfl) (w.heap.size + 3) 25 i0 _ 6 88 Tryd.underlying22 hi hz0 hz1 hz2 rfl (by omega) u j xs (by rfl) ((HROW.out _ hb2).alloc _) ⟨w2.heap.size, 0, none⟩ 1 1 (vCells (sk k1) bo1 i1 t1 A' m1 c' B2 m2 d2) (by rfl) (by rfl) (World.news_of_block (heap_alloc_new w2 _)) (vCells_one _ _ _ _ _ _ _ _ _ _) (by omega) (by unfold maxLen; omega) (by omega) (by have h1 := hb2.size; have h2 := HS1.out; simp; omega) (w2.heap.size + 1) (by simp) ?_
                 intro gg cap2 w3 hown3 hgrow3 hat3 hlt3
                 have hs2 := hb2.size
                 have hs1' := HS1.out
                 have hfar : ∀ b, b < w2.heap.size → u.ownBlock ≠ some b → w3.heap[b]? = w2.heap[b]? := fun b hb hne => (hgrow3.block b (by simp; omega) (Ne.symm hne)).trans (Below.heap_alloc _ _ _ hb)
                 have hc3 : w3.cell? ⟨w.heap.size + 1 + 1, 4, none⟩ = some u := (World.cell?_of_block (hfar (w.heap.size + 1 + 1) (by omega) hneu)).trans hc2
                 have hf3 : w3.frozen? ⟨w.heap.size + 1 + 1, 4, none⟩ = false := (World.frozen?_of_block (hfar (w.heap.size + 1 + 1) (by omega) hneu)).trans hf2
                 have hx3 : ∀ jj, w3.cell? ⟨wr.heap.size, jj, none⟩ = w2.cell? ⟨wr.heap.size, jj, none⟩ := fun jj => World.cell?_of_block (hfar wr.heap.size (by omega) hneux)
                 have t0 := (hx3 0).trans z0
                 have t1' := (hx3 1).trans z1
                 have t2 := (hx3 2).trans z2
                 have t3 := (hx3 3).trans z3
                 have t4 := (hx3 4).trans z4
                 have t5 := (hx3 5).trans z5))
        all_goals (
          obtain ⟨g1, g2, g3, g4, g5, g6⟩ := hg2
          have hrel := HIN.out.step hB HE1.out g5 g4 g6 g1 g2 g3 ⟨HOK.out.nc2, HOK.out.cm2⟩ (sk_wf HOK.out.kwf) HOK.out.iwf HOK.out.ts HOK.out.ks (wA := w2.alloc _) (fun b hb => Below.heap_alloc _ _ _ hb) (by simp) ((Below.refl _ _).alloc (Nat.le_refl _) _) hown3 hgrow3 (hat3.imp id (fun e => by rw [e]; simp)) hlt3
          have HREL := Lib.hid hrel
          clear hrel g1 g2 g3 g4 g5 g6 hb2 hown3 hgrow3 hat3 hlt3 hfar hx3 t0 t1' t2 t3 t4 t5 z0 z1 z2 z3 z4 z5 hc2 hf2 hc3 hf3 hc2a y0 y1 y2 y3 y4 y5 x0 x1 x2 x3 x4 x5
          go_wp2_with fail
          go_roundw
          case rel => exact ⟨j + 1, _, _, by omega, by go_num, HREL.out⟩
          case measure => simp [intOf]; omega)
      · obtain rfl : j = n1 := by omega
        obtain ⟨A', c', rfl, hjc, hcm⟩ := own_slice hin.row
        have hout : BoxAt wr (w.heap.size + 1 + 1) 3 bo i t (.slice A' j c') (.slice A2 n2 c2) := hin.out
        obtain ⟨y0, y1, y2, y3, y4, y5⟩ := hout.cells
        have HT := Lib.hid (svThere (a := Sv.zero) hin.res)
        have HAT := Lib.hid (hin.fin hB HA.out.len_eq #[Value.int .i64 3, .bool bo, .int .i64 i, .string t, .slice A' j c', .slice A2 n2 c2].toList)
        have HOLD := Lib.hid (below_setCells' (show w.heap.size ≤ w.heap.size + 1 by omega) #[Value.int .i64 3, .bool bo, .int .i64 i, .string t, .slice A' j c', .slice A2 n2 c2].toList 0 hin.old)
        have HRG := Lib.hid (sv_set wr (w.heap.size + 1) ⟨3, bo, i, t, A', j, c', A2, n2, c2, .nil, []⟩ _ rfl HT.out)
        obtain ⟨W9, hW9⟩ : ∃ W9, wr.setCells (w.heap.size + 1) 0 #[Value.int .i64 3, .bool bo, .int .i64 i, .string t, .slice A' j c', .slice A2 n2 c2].toList = W9 := ⟨_, rfl⟩
        have HW9 := Lib.hid hW9
        have HRG2 := Lib.hid (show W9.rangeAt (w.heap.size + 1) 0 (Sv.cs ⟨3, bo, i, t, A', j, c', A2, n2, c2, .nil, []⟩).toList from by rw [← hW9]; exact HRG.out)
        have HAT2 := Lib.hid (show items.settle.AtP W9 (PB B0 w.heap.size W9.heap.size) A' j from by rw [← hW9]; exact HAT.out)
        have HOLD2 := Lib.hid (show Below w.heap.size w W9 from by rw [← hW9]; exact HOLD.out)
        clear hin hout hW9 HAT HOLD HRG
        go_wp2_with (refine wpList_store_mid rfl 25 (.tmp 2) (.tmp 32) rfl (w.heap.size + 1) 0 #[Value.int .i64 3, .bool bo, .int .i64 i, .string t, .slice A' j c', .slice A2 n2 c2] rfl rfl HT.out sv_size (by simp [Value.oneCell']) ?_; rw [HW9.out])
        refine bodyPost_ret (v := (Sv.mk 3 bo i t A' j c' A2 n2 c2 .nil []).val) ?_ rfl ⟨A', c', by rw [hsk]; rfl, hjc, hcm, HAT2.out, HOLD2.out⟩
        exact svRes2 rfl _ _ (w.heap.size + 1) _ rfl HRG2.out
  · go_enter Tryd.func12, Tryd.ntmps12
    go_wp2_with fail
    go_loopw [20] (fun i' wr => ∃ (j : Nat) (u : Value) (xs : List Value), j ≤ n1 ∧ i' = .int .i64 j ∧ SetIn w B0 3 bo i t A2 n2 c2 items j u xs wr) (fun i' _ => n1 - (intOf i').toNat)
    case atStart => exact ⟨0, _, _, Nat.zero_le _, rfl, setIn_start w B0 _ 3 bo i t A2 n2 c2 items⟩
    case round =>
      obtain ⟨j, u, xs, hj, rfl, hin⟩ := hrel
      have hwsz := hin.size
      by_cases hlt : j < n1
      · obtain ⟨b, off, k1, bo1, i1, t1, B1, m1, d1, B2, m2, d2, it, ks, r, rfl, e1, e2, E⟩ := HA.out.el j hlt
        have E' := E.below (hin.old.mono hB)
        obtain ⟨hlb, x0, x1, x2, x3, x4, x5, hok⟩ := E'
        obtain ⟨_, _, _, _, _, _, _, hok0⟩ := E
        have hsb : b < wr.heap.size := by omega
        obtain ⟨wr1, hwr1⟩ : ∃ wr1, wr.alloc (.cells #[.int .i64 k1, .bool bo1, .int .i64 i1, .string t1, .slice B1 m1 d1, .slice B2 m2 d2] 25) = wr1 := ⟨_, rfl⟩
        have hb1 : Below wr.heap.size wr wr1 := by rw [← hwr1]; exact (Below.refl _ _).alloc (Nat.le_refl _) _
        have hs1 : wr1.heap.size = wr.heap.size + 1 := by rw [← hwr1]; simp
        have hbox := BoxAt.new wr k1 bo1 i1 t1 (.slice B1 m1 d1) (.slice B2 m2 d2)
        rw [hwr1] at hbox
        have hfacts : ∀ w', Below (wr.heap.size + 1) wr1 w' → w'.cell? ⟨w.heap.size + 1 + 1, 4, none⟩ = some u ∧ w'.frozen? ⟨w.heap.size + 1 + 1, 4, none⟩ = false ∧ w'.cell? ⟨wr.heap.size, 0, none⟩ = some (.int .i64 k1) ∧ w'.cell? ⟨wr.heap.size, 1, none⟩ = some (.bool bo1) ∧ w'.cell? ⟨wr.heap.size, 2, none⟩ = some (.int .i64 i1) ∧ w'.cell? ⟨wr.heap.size, 3, none⟩ = some (.string t1) ∧ w'.cell? ⟨wr.heap.size, 4, none⟩ = some (.slice B1 m1 d1) ∧ w'.cell? ⟨wr.heap.size, 5, none⟩ = some (.slice B2 m2 d2) := fun w' hb => by
          have ho : BoxAt w' (w.heap.size + 1 + 1) 3 bo i t u (.slice A2 n2 c2) := (hb.block _ (by omega)).trans ((hb1.block _ (by omega)).trans hin.out)
          exact ⟨ho.cells.2.2.2.2.1, ho.frozen 4, (hbox.keep hb (by omega)).cells⟩
        have hcall : ∀ wX, Below (wr.heap.size + 1) wr1 wX → Calls Tryd.prog 12 #[.agg #[.int .i64 k1, .bool bo1, .int .i64 i1, .string t1, .slice B1 m1 d1, .slice B2 m2 d2]] wX (fun e w' => ∃ (A' : Option Addr) (c' : Nat), e = .returned (.agg #[.int .i64 (sk k1), .bool bo1, .int .i64 i1, .string t1, .slice A' m1 c', .slice B2 m2 d2]) ∧
            (m1 ≤ c' ∧ c' ≤ maxLen ∧ it.settle.AtP w' (PB B0 wX.heap.size w'.heap.size) A' m1 ∧ Below wX.heap.size wX w' ∧ Below wr.heap.size wr wX ∧ wr.heap.size + 1 ≤ wX.heap.size) ∧ Below (wr.heap.size + 1) wr1 w' ∧ w'.cell? ⟨w.heap.size + 1 + 1, 4, none⟩ = some u ∧ w'.frozen? ⟨w.heap.size + 1 + 1, 4, none⟩ = false ∧ w'.cell? ⟨wr.heap.size, 0, none⟩ = some (.int .i64 k1) ∧ w'.cell? ⟨wr.heap.size, 1, none⟩ = some (.bool bo1) ∧ w'.cell? ⟨wr.heap.size, 2, none⟩ = some (.int .i64 i1) ∧ w'.cell? ⟨wr.heap.size, 3, none⟩ = some (.string t1) ∧ w'.cell? ⟨wr.heap.size, 4, none⟩ = some (.slice B1 m1 d1) ∧ w'.cell? ⟨wr.heap.size, 5, none⟩ = some (.slice B2 m2 d2)) := fun wX hX => by
          have hXs := hX.size
          refine (IH.out j k1 bo1 i1 t1 it ks r hlt e1 B1 m1 d1 B2 m2 d2 wX (by omega) (VOk.keep (fun p hp => (hX.mono (Nat.le_refl _)).cell (by omega) |>.trans (by rw [hb1.cell (by omega)])) (Nat.le_refl _) hok)).mono ?_
          rintro e w' ⟨A', c', rfl, g1, g2, g3, hb2⟩
          have hbw := hX.trans (hb2.mono (by omega))
          exact ⟨A', c', rfl, ⟨g1, g2, g3, hb2, hb1.trans (hX.mono (by omega)), by omega⟩, hbw, hfacts w' hbw⟩
        have HCL := Lib.hid hcall
        have hrowk : ∀ w', Below (wr.heap.size + 1) wr1 w' → w'.ownsRow (w.heap.size + 3) 25 6 u j xs := fun w' hb => own_keep hin.row (fun g hg => by
          have h1 := hin.row.lt g hg
          exact (hb.block g (by omega)).trans (hb1.block g (by omega)))
        have HROW := Lib.hid hrowk
        have hub := fun g hg => hin.row.lt g hg
        have HUB := Lib.hid hub
        have HOK := Lib.hid hok0
        have HE1 := Lib.hid e1
        have HIN := Lib.hid hin
        obtain ⟨hc, hf, y0, y1, y2, y3, y4, y5⟩ := hfacts wr1 (Below.refl _ _)
        have HS1 := Lib.hid hs1
        have HFX := Lib.hid (fun w' hb => (hfacts w' hb).2.2)
        have hneux : u.ownBlock ≠ some wr.heap.size := fun e => by have := (hub _ e).2; omega
        have HSET := Lib.hid (fun (w' : World) (v : Value) (h : w'.cell? ⟨wr.heap.size, 0, none⟩ = some (.int .i64 k1) ∧ w'.cell? ⟨wr.heap.size, 1, none⟩ = some (.bool bo1) ∧ w'.cell? ⟨wr.heap.size, 2, none⟩ = some (.int .i64 i1) ∧ w'.cell? ⟨wr.heap.size, 3, none⟩ = some (.string t1) ∧ w'.cell? ⟨wr.heap.size, 4, none⟩ = some (.slice B1 m1 d1) ∧ w'.cell? ⟨wr.heap.size, 5, none⟩ = some (.slice B2 m2 d2)) => (show (w'.setCell ⟨w.heap.size + 1 + 1, 4, none⟩ v).cell? ⟨wr.heap.size, 0, none⟩ = some (.int .i64 k1) ∧ (w'.setCell ⟨w.heap.size + 1 + 1, 4, none⟩ v).cell? ⟨wr.heap.size, 1, none⟩ = some (.bool bo1) ∧ (w'.setCell ⟨w.heap.size + 1 + 1, 4, none⟩ v).cell? ⟨wr.heap.size, 2, none⟩ = some (.int .i64 i1) ∧ (w'.setCell ⟨w.heap.size + 1 + 1, 4, none⟩ v).cell? ⟨wr.heap.size, 3, none⟩ = some (.string t1) ∧ (w'.setCell ⟨w.heap.size + 1 + 1, 4, none⟩ v).cell? ⟨wr.heap.size, 4, none⟩ = some (.slice B1 m1 d1) ∧ (w'.setCell ⟨w.heap.size + 1 + 1, 4, none⟩ v).cell? ⟨wr.heap.size, 5, none⟩ = some (.slice B2 m2 d2) from by
          have hk : ∀ jj, (w'.setCell ⟨w.heap.size + 1 + 1, 4, none⟩ v).cell? ⟨wr.heap.size, jj, none⟩ = w'.cell? ⟨wr.heap.size, jj, none⟩ := fun jj => World.cell?_of_block (Below.heap_setCell _ _ _ _ (by show wr.heap.size ≠ w.heap.size + 1 + 1; omega))
          exact ⟨(hk 0).trans h.1, (hk 1).trans h.2.1, (hk 2).trans h.2.2.1, (hk 3).trans h.2.2.2.1, (hk 4).trans h.2.2.2.2.1, (hk 5).trans h.2.2.2.2.2⟩))
        have hneu : u.ownBlock ≠ some (w.heap.size + 1 + 1) := fun e => by have := (hub _ e).1; omega
        clear hcall hrowk hfacts hub hok0 e1 hin hbox hb1 hs1 hok
        go_upto_region 8 with (fail)
        go_region_law (first
              | (go_simp; go_at_call 12; with_reducible refine Calls.mono (HCL.out _ (by first | exact (Below.refl _ _).drew | exact Below.refl _ _)) ?_; rintro e w2 ⟨A', c', rfl, hg2, hb2, hc2, hf2, z0, z1, z2, z3, z4, z5⟩; have hc2a : (w2.alloc (.cells #[.int .i64 (sk k1), .bool bo1, .int .i64 i1, .string t1, .slice A' m1 c', .slice B2 m2 d2] 25)).cell? ⟨w.heap.size + 1 + 1, 4, none⟩ = some u := (((Below.refl _ w2).alloc (Nat.le_refl _) _).cell (p := ⟨w.heap.size + 1 + 1, 4, none⟩) (by have h1 := hb2.size; have h2 := HS1.out; show w.heap.size + 1 + 1 < _; omega)).trans hc2)
              | (refine step_append_lies _ (by rfl) _ _ _ (by rfl) (w.heap.size + 3) 25 i0 _ 6 88 Tryd.underlying22 hi hz0 hz1 hz2 rfl (by omega) u j xs (by rfl) ((HROW.out _ hb2).alloc _) ⟨w2.heap.size, 0, none⟩ 1 1 (vCells (sk k1) bo1 i1 t1 A' m1 c' B2 m2 d2) (by rfl) (by rfl) (World.news_of_block (heap_alloc_new w2 _)) (vCells_one _ _ _ _ _ _ _ _ _ _) (by omega) (by unfold maxLen; omega) (by omega) (by have h1 := hb2.size; have h2 := HS1.out; simp; omega) (w2.heap.size + 1) (by simp) ?_
                 intro gg cap2 w3 hown3 hgrow3 hat3 hlt3
                 have hs2 := hb2.size
                 have hs1' := HS1.out
                 have hfar : ∀ b, b < w2.heap.size → u.ownBlock ≠ some b → w3.heap[b]? = w2.heap[b]? := fun b hb hne => (hgrow3.block b (by simp; omega) (Ne.symm hne)).trans (Below.heap_alloc _ _ _ hb)
                 have hc3 : w3.cell? ⟨w.heap.size + 1 + 1, 4, none⟩ = some u := (World.cell?_of_block (hfar (w.heap.size + 1 + 1) (by omega) hneu)).trans hc2
                 have hf3 : w3.frozen? ⟨w.heap.size + 1 + 1, 4, none⟩ = false := (World.frozen?_of_block (hfar (w.heap.size + 1 + 1) (by omega) hneu)).trans hf2
                 have hx3 : ∀ jj, w3.cell? ⟨wr.heap.size, jj, none⟩ = w2.cell? ⟨wr.heap.size, jj, none⟩ := fun jj => World.cell?_of_block (hfar wr.heap.size (by omega) hneux)
                 have t0 := (hx3 0).trans z0
                 have t1' := (hx3 1).trans z1
                 have t2 := (hx3 2).trans z2
                 have t3 := (hx3 3).trans z3
                 have t4 := (hx3 4).trans z4
                 have t5 := (hx3 5).trans z5))
        all_goals (
          obtain ⟨g1, g2, g3, g4, g5, g6⟩ := hg2
          have hrel := HIN.out.step hB HE1.out g5 g4 g6 g1 g2 g3 ⟨HOK.out.nc2, HOK.out.cm2⟩ (sk_wf HOK.out.kwf) HOK.out.iwf HOK.out.ts HOK.out.ks (wA := w2.alloc _) (fun b hb => Below.heap_alloc _ _ _ hb) (by simp) ((Below.refl _ _).alloc (Nat.le_refl _) _) hown3 hgrow3 (hat3.imp id (fun e => by rw [e]; simp)) hlt3
          have HREL := Lib.hid hrel
          clear hrel g1 g2 g3 g4 g5 g6 hb2 hown3 hgrow3 hat3 hlt3 hfar hx3 t0 t1' t2 t3 t4 t5 z0 z1 z2 z3 z4 z5 hc2 hf2 hc3 hf3 hc2a y0 y1 y2 y3 y4 y5 x0 x1 x2 x3 x4 x5
          go_wp2_with fail
          go_roundw
          case rel => exact ⟨j + 1, _, _, by omega, by go_num, HREL.out⟩
          case measure => simp [intOf]; omega)
      · obtain rfl : j = n1 := by omega
        obtain ⟨A', c', rfl, hjc, hcm⟩ := own_slice hin.row
        have hout : BoxAt wr (w.heap.size + 1 + 1) 3 bo i t (.slice A' j c') (.slice A2 n2 c2) := hin.out
        obtain ⟨y0, y1, y2, y3, y4, y5⟩ := hout.cells
        have HT := Lib.hid (svThere (a := Sv.zero) hin.res)
        have HAT := Lib.hid (hin.fin hB HA.out.len_eq #[Value.int .i64 3, .bool bo, .int .i64 i, .string t, .slice A' j c', .slice A2 n2 c2].toList)
        have HOLD := Lib.hid (below_setCells' (show w.heap.size ≤ w.heap.size + 1 by omega) #[Value.int .i64 3, .bool bo, .int .i64 i, .string t, .slice A' j c', .slice A2 n2 c2].toList 0 hin.old)
        have HRG := Lib.hid (sv_set wr (w.heap.size + 1) ⟨3, bo, i, t, A', j, c', A2, n2, c2, .nil, []⟩ _ rfl HT.out)
        obtain ⟨W9, hW9⟩ : ∃ W9, wr.setCells (w.heap.size + 1) 0 #[Value.int .i64 3, .bool bo, .int .i64 i, .string t, .slice A' j c', .slice A2 n2 c2].toList = W9 := ⟨_, rfl⟩
        have HW9 := Lib.hid hW9
        have HRG2 := Lib.hid (show W9.rangeAt (w.heap.size + 1) 0 (Sv.cs ⟨3, bo, i, t, A', j, c', A2, n2, c2, .nil, []⟩).toList from by rw [← hW9]; exact HRG.out)
        have HAT2 := Lib.hid (show items.settle.AtP W9 (PB B0 w.heap.size W9.heap.size) A' j from by rw [← hW9]; exact HAT.out)
        have HOLD2 := Lib.hid (show Below w.heap.size w W9 from by rw [← hW9]; exact HOLD.out)
        clear hin hout hW9 HAT HOLD HRG
        go_wp2_with (refine wpList_store_mid rfl 25 (.tmp 2) (.tmp 32) rfl (w.heap.size + 1) 0 #[Value.int .i64 3, .bool bo, .int .i64 i, .string t, .slice A' j c', .slice A2 n2 c2] rfl rfl HT.out sv_size (by simp [Value.oneCell']) ?_; rw [HW9.out])
        refine bodyPost_ret (v := (Sv.mk 3 bo i t A' j c' A2 n2 c2 .nil []).val) ?_ rfl ⟨A', c', by rw [hsk]; rfl, hjc, hcm, HAT2.out, HOLD2.out⟩
        exact svRes2 rfl _ _ (w.heap.size + 1) _ rfl HRG2.out
  · go_enter Tryd.func12, Tryd.ntmps12
    go_wp2_with fail
    go_loopw [20] (fun i' wr => ∃ (j : Nat) (u : Value) (xs : List Value), j ≤ n1 ∧ i' = .int .i64 j ∧ SetIn w B0 k bo i t A2 n2 c2 items j u xs wr) (fun i' _ => n1 - (intOf i').toNat)
    case atStart => exact ⟨0, _, _, Nat.zero_le _, rfl, setIn_start w B0 _ k bo i t A2 n2 c2 items⟩
    case round =>
      obtain ⟨j, u, xs, hj, rfl, hin⟩ := hrel
      have hwsz := hin.size
      by_cases hlt : j < n1
      · obtain ⟨b, off, k1, bo1, i1, t1, B1, m1, d1, B2, m2, d2, it, ks, r, rfl, e1, e2, E⟩ := HA.out.el j hlt
        have E' := E.below (hin.old.mono hB)
        obtain ⟨hlb, x0, x1, x2, x3, x4, x5, hok⟩ := E'
        obtain ⟨_, _, _, _, _, _, _, hok0⟩ := E
        have hsb : b < wr.heap.size := by omega
        obtain ⟨wr1, hwr1⟩ : ∃ wr1, wr.alloc (.cells #[.int .i64 k1, .bool bo1, .int .i64 i1, .string t1, .slice B1 m1 d1, .slice B2 m2 d2] 25) = wr1 := ⟨_, rfl⟩
        have hb1 : Below wr.heap.size wr wr1 := by rw [← hwr1]; exact (Below.refl _ _).alloc (Nat.le_refl _) _
        have hs1 : wr1.heap.size = wr.heap.size + 1 := by rw [← hwr1]; simp
        have hbox := BoxAt.new wr k1 bo1 i1 t1 (.slice B1 m1 d1) (.slice B2 m2 d2)
        rw [hwr1] at hbox
        have hfacts : ∀ w', Below (wr.heap.size + 1) wr1 w' → w'.cell? ⟨w.heap.size + 1 + 1, 4, none⟩ = some u ∧ w'.frozen? ⟨w.heap.size + 1 + 1, 4, none⟩ = false ∧ w'.cell? ⟨wr.heap.size, 0, none⟩ = some (.int .i64 k1) ∧ w'.cell? ⟨wr.heap.size, 1, none⟩ = some (.bool bo1) ∧ w'.cell? ⟨wr.heap.size, 2, none⟩ = some (.int .i64 i1) ∧ w'.cell? ⟨wr.heap.size, 3, none⟩ = some (.string t1) ∧ w'.cell? ⟨wr.heap.size, 4, none⟩ = some (.slice B1 m1 d1) ∧ w'.cell? ⟨wr.heap.size, 5, none⟩ = some (.slice B2 m2 d2) := fun w' hb => by
          have ho : BoxAt w' (w.heap.size + 1 + 1) k bo i t u (.slice A2 n2 c2) := (hb.block _ (by omega)).trans ((hb1.block _ (by omega)).trans hin.out)
          exact ⟨ho.cells.2.2.2.2.1, ho.frozen 4, (hbox.keep hb (by omega)).cells⟩
        have hcall : ∀ wX, Below (wr.heap.size + 1) wr1 wX → Calls Tryd.prog 12 #[.agg #[.int .i64 k1, .bool bo1, .int .i64 i1, .string t1, .slice B1 m1 d1, .slice B2 m2 d2]] wX (fun e w' => ∃ (A' : Option Addr) (c' : Nat), e = .returned (.agg #[.int .i64 (sk k1), .bool bo1, .int .i64 i1, .string t1, .slice A' m1 c', .slice B2 m2 d2]) ∧
            (m1 ≤ c' ∧ c' ≤ maxLen ∧ it.settle.AtP w' (PB B0 wX.heap.size w'.heap.size) A' m1 ∧ Below wX.heap.size wX w' ∧ Below wr.heap.size wr wX ∧ wr.heap.size + 1 ≤ wX.heap.size) ∧ Below (wr.heap.size + 1) wr1 w' ∧ w'.cell? ⟨w.heap.size + 1 + 1, 4, none⟩ = some u ∧ w'.frozen? ⟨w.heap.size + 1 + 1, 4, none⟩ = false ∧ w'.cell? ⟨wr.heap.size, 0, none⟩ = some (.int .i64 k1) ∧ w'.cell? ⟨wr.heap.size, 1, none⟩ = some (.bool bo1) ∧ w'.cell? ⟨wr.heap.size, 2, none⟩ = some (.int .i64 i1) ∧ w'.cell? ⟨wr.heap.size, 3, none⟩ = some (.string t1) ∧ w'.cell? ⟨wr.heap.size, 4, none⟩ = some (.slice B1 m1 d1) ∧ w'.cell? ⟨wr.heap.size, 5, none⟩ = some (.slice B2 m2 d2)) := fun wX hX => by
          have hXs := hX.size
          refine (IH.out j k1 bo1 i1 t1 it ks r hlt e1 B1 m1 d1 B2 m2 d2 wX (by omega) (VOk.keep (fun p hp => (hX.mono (Nat.le_refl _)).cell (by omega) |>.trans (by rw [hb1.cell (by omega)])) (Nat.le_refl _) hok)).mono ?_
          rintro e w' ⟨A', c', rfl, g1, g2, g3, hb2⟩
          have hbw := hX.trans (hb2.mono (by omega))
          exact ⟨A', c', rfl, ⟨g1, g2, g3, hb2, hb1.trans (hX.mono (by omega)), by omega⟩, hbw, hfacts w' hbw⟩
        have HCL := Lib.hid hcall
        have hrowk : ∀ w', Below (wr.heap.size + 1) wr1 w' → w'.ownsRow (w.heap.size + 3) 25 6 u j xs := fun w' hb => own_keep hin.row (fun g hg => by
          have h1 := hin.row.lt g hg
          exact (hb.block g (by omega)).trans (hb1.block g (by omega)))
        have HROW := Lib.hid hrowk
        have hub := fun g hg => hin.row.lt g hg
        have HUB := Lib.hid hub
        have HOK := Lib.hid hok0
        have HE1 := Lib.hid e1
        have HIN := Lib.hid hin
        obtain ⟨hc, hf, y0, y1, y2, y3, y4, y5⟩ := hfacts wr1 (Below.refl _ _)
        have HS1 := Lib.hid hs1
        have HFX := Lib.hid (fun w' hb => (hfacts w' hb).2.2)
        have hneux : u.ownBlock ≠ some wr.heap.size := fun e => by have := (hub _ e).2; omega
        have HSET := Lib.hid (fun (w' : World) (v : Value) (h : w'.cell? ⟨wr.heap.size, 0, none⟩ = some (.int .i64 k1) ∧ w'.cell? ⟨wr.heap.size, 1, none⟩ = some (.bool bo1) ∧ w'.cell? ⟨wr.heap.size, 2, none⟩ = some (.int .i64 i1) ∧ w'.cell? ⟨wr.heap.size, 3, none⟩ = some (.string t1) ∧ w'.cell? ⟨wr.heap.size, 4, none⟩ = some (.slice B1 m1 d1) ∧ w'.cell? ⟨wr.heap.size, 5, none⟩ = some (.slice B2 m2 d2)) => (show (w'.setCell ⟨w.heap.size + 1 + 1, 4, none⟩ v).cell? ⟨wr.heap.size, 0, none⟩ = some (.int .i64 k1) ∧ (w'.setCell ⟨w.heap.size + 1 + 1, 4, none⟩ v).cell? ⟨wr.heap.size, 1, none⟩ = some (.bool bo1) ∧ (w'.setCell ⟨w.heap.size + 1 + 1, 4, none⟩ v).cell? ⟨wr.heap.size, 2, none⟩ = some (.int .i64 i1) ∧ (w'.setCell ⟨w.heap.size + 1 + 1, 4, none⟩ v).cell? ⟨wr.heap.size, 3, none⟩ = some (.string t1) ∧ (w'.setCell ⟨w.heap.size + 1 + 1, 4, none⟩ v).cell? ⟨wr.heap.size, 4, none⟩ = some (.slice B1 m1 d1) ∧ (w'.setCell ⟨w.heap.size + 1 + 1, 4, none⟩ v).cell? ⟨wr.heap.size, 5, none⟩ = some (.slice B2 m2 d2) from by
          have hk : ∀ jj, (w'.setCell ⟨w.heap.size + 1 + 1, 4, none⟩ v).cell? ⟨wr.heap.size, jj, none⟩ = w'.cell? ⟨wr.heap.size, jj, none⟩ := fun jj => World.cell?_of_block (Below.heap_setCell _ _ _ _ (by show wr.heap.size ≠ w.heap.size + 1 + 1; omega))
          exact ⟨(hk 0).trans h.1, (hk 1).trans h.2.1, (hk 2).trans h.2.2.1, (hk 3).trans h.2.2.2.1, (hk 4).trans h.2.2.2.2.1, (hk 5).trans h.2.2.2.2.2⟩))
        have hneu : u.ownBlock ≠ some (w.heap.size + 1 + 1) := fun e => by have := (hub _ e).1; omega
        clear hcall hrowk hfacts hub hok0 e1 hin hbox hb1 hs1 hok
        go_upto_region 8 with (fail)
        go_region_law (first
              | (go_simp; go_at_call 12; with_reducible refine Calls.mono (HCL.out _ (by first | exact (Below.refl _ _).drew | exact Below.refl _ _)) ?_; rintro e w2 ⟨A', c', rfl, hg2, hb2, hc2, hf2, z0, z1, z2, z3, z4, z5⟩; have hc2a : (w2.alloc (.cells #[.int .i64 (sk k1), .bool bo1, .int .i64 i1, .string t1, .slice A' m1 c', .slice B2 m2 d2] 25)).cell? ⟨w.heap.size + 1 + 1, 4, none⟩ = some u := (((Below.refl _ w2).alloc (Nat.le_refl _) _).cell (p := ⟨w.heap.size + 1 + 1, 4, none⟩) (by have h1 := hb2.size; have h2 := HS1.out; show w.heap.size + 1 + 1 < _; omega)).trans hc2)
              | (refine step_append_lies _ (by rfl) _ _ _ (by rfl) (w.heap.size + 3) 25 i0 _ 6 88 Tryd.underlying22 hi hz0 hz1 hz2 rfl (by omega) u j xs (by rfl) ((HROW.out _ hb2).alloc _) ⟨w2.heap.size, 0, none⟩ 1 1 (vCells (sk k1) bo1 i1 t1 A' m1 c' B2 m2 d2) (by rfl) (by rfl) (World.news_of_block (heap_alloc_new w2 _)) (vCells_one _ _ _ _ _ _ _ _ _ _) (by omega) (by unfold maxLen; omega) (by omega) (by have h1 := hb2.size; have h2 := HS1.out; simp; omega) (w2.heap.size + 1) (by simp) ?_
                 intro gg cap2 w3 hown3 hgrow3 hat3 hlt3
                 have hs2 := hb2.size
                 have hs1' := HS1.out
                 have hfar : ∀ b, b < w2.heap.size → u.ownBlock ≠ some b → w3.heap[b]? = w2.heap[b]? := fun b hb hne => (hgrow3.block b (by simp; omega) (Ne.symm hne)).trans (Below.heap_alloc _ _ _ hb)
                 have hc3 : w3.cell? ⟨w.heap.size + 1 + 1, 4, none⟩ = some u := (World.cell?_of_block (hfar (w.heap.size + 1 + 1) (by omega) hneu)).trans hc2
                 have hf3 : w3.frozen? ⟨w.heap.size + 1 + 1, 4, none⟩ = false := (World.frozen?_of_block (hfar (w.heap.size + 1 + 1) (by omega) hneu)).trans hf2
                 have hx3 : ∀ jj, w3.cell? ⟨wr.heap.size, jj, none⟩ = w2.cell? ⟨wr.heap.size, jj, none⟩ := fun jj => World.cell?_of_block (hfar wr.heap.size (by omega) hneux)
                 have t0 := (hx3 0).trans z0
                 have t1' := (hx3 1).trans z1
                 have t2 := (hx3 2).trans z2
                 have t3 := (hx3 3).trans z3
                 have t4 := (hx3 4).trans z4
                 have t5 := (hx3 5).trans z5))
        all_goals (
          obtain ⟨g1, g2, g3, g4, g5, g6⟩ := hg2
          have hrel := HIN.out.step hB HE1.out g5 g4 g6 g1 g2 g3 ⟨HOK.out.nc2, HOK.out.cm2⟩ (sk_wf HOK.out.kwf) HOK.out.iwf HOK.out.ts HOK.out.ks (wA := w2.alloc _) (fun b hb => Below.heap_alloc _ _ _ hb) (by simp) ((Below.refl _ _).alloc (Nat.le_refl _) _) hown3 hgrow3 (hat3.imp id (fun e => by rw [e]; simp)) hlt3
          have HREL := Lib.hid hrel
          clear hrel g1 g2 g3 g4 g5 g6 hb2 hown3 hgrow3 hat3 hlt3 hfar hx3 t0 t1' t2 t3 t4 t5 z0 z1 z2 z3 z4 z5 hc2 hf2 hc3 hf3 hc2a y0 y1 y2 y3 y4 y5 x0 x1 x2 x3 x4 x5
          go_wp2_with fail
          go_roundw
          case rel => exact ⟨j + 1, _, _, by omega, by go_num, HREL.out⟩
          case measure => simp [intOf]; omega)
      · obtain rfl : j = n1 := by omega
        obtain ⟨A', c', rfl, hjc, hcm⟩ := own_slice hin.row
        have hout : BoxAt wr (w.heap.size + 1 + 1) k bo i t (.slice A' j c') (.slice A2 n2 c2) := hin.out
        obtain ⟨y0, y1, y2, y3, y4, y5⟩ := hout.cells
        have HT := Lib.hid (svThere (a := Sv.zero) hin.res)
        have HAT := Lib.hid (hin.fin hB HA.out.len_eq #[Value.int .i64 k, .bool bo, .int .i64 i, .string t, .slice A' j c', .slice A2 n2 c2].toList)
        have HOLD := Lib.hid (below_setCells' (show w.heap.size ≤ w.heap.size + 1 by omega) #[Value.int .i64 k, .bool bo, .int .i64 i, .string t, .slice A' j c', .slice A2 n2 c2].toList 0 hin.old)
        have HRG := Lib.hid (sv_set wr (w.heap.size + 1) ⟨k, bo, i, t, A', j, c', A2, n2, c2, .nil, []⟩ _ rfl HT.out)
        obtain ⟨W9, hW9⟩ : ∃ W9, wr.setCells (w.heap.size + 1) 0 #[Value.int .i64 k, .bool bo, .int .i64 i, .string t, .slice A' j c', .slice A2 n2 c2].toList = W9 := ⟨_, rfl⟩
        have HW9 := Lib.hid hW9
        have HRG2 := Lib.hid (show W9.rangeAt (w.heap.size + 1) 0 (Sv.cs ⟨k, bo, i, t, A', j, c', A2, n2, c2, .nil, []⟩).toList from by rw [← hW9]; exact HRG.out)
        have HAT2 := Lib.hid (show items.settle.AtP W9 (PB B0 w.heap.size W9.heap.size) A' j from by rw [← hW9]; exact HAT.out)
        have HOLD2 := Lib.hid (show Below w.heap.size w W9 from by rw [← hW9]; exact HOLD.out)
        clear hin hout hW9 HAT HOLD HRG
        go_wp2_with (refine wpList_store_mid rfl 25 (.tmp 2) (.tmp 32) rfl (w.heap.size + 1) 0 #[Value.int .i64 k, .bool bo, .int .i64 i, .string t, .slice A' j c', .slice A2 n2 c2] rfl rfl HT.out sv_size (by simp [Value.oneCell']) ?_; rw [HW9.out])
        refine bodyPost_ret (v := (Sv.mk k bo i t A' j c' A2 n2 c2 .nil []).val) ?_ rfl ⟨A', c', by rw [hsk]; rfl, hjc, hcm, HAT2.out, HOLD2.out⟩
        exact svRes2 rfl _ _ (w.heap.size + 1) _ rfl HRG2.out
theorem settled_any (B0 N : Nat) : ∀ (k : Int) (bo : Bool) (i : Int) (t : ByteArray) (A1 : Option Addr) (n1 c1 : Nat) (A2 : Option Addr) (n2 c2 : Nat) (items : Vals) (keys : List ByteArray) (w : World), B0 ≤ w.heap.size → VOk w B0 k i t A1 n1 c1 A2 n2 c2 items keys → items.nodes ≤ N → items.nodes ≤ 1099511627776 →
    Calls Tryd.prog 12 #[.agg #[.int .i64 k, .bool bo, .int .i64 i, .string t, .slice A1 n1 c1, .slice A2 n2 c2]] w (SetPost B0 k bo i t n1 A2 n2 c2 items w) := by
  induction N with
  | zero =>
    intro k bo i t A1 n1 c1 A2 n2 c2 items keys w hB hv hN hbig
    have h1 := Vals.len_le items
    have h2 := hv.at_.len_eq
    exact settled_gen B0 k bo i t A1 n1 c1 A2 n2 c2 items keys w hB hv hbig fun _ _ _ _ _ _ _ _ h => absurd h (by omega)
  | succ N ih =>
    intro k bo i t A1 n1 c1 A2 n2 c2 items keys w hB hv hN hbig
    refine settled_gen B0 k bo i t A1 n1 c1 A2 n2 c2 items keys w hB hv hbig fun j k' bo' i' t' it ks r hj he A1' n1' c1' A2' n2' c2' wX hBX hv' => ?_
    have h1 := Vals.nodes_drop j items
    rw [he] at h1
    simp only [Vals.nodes] at h1
    exact ih k' bo' i' t' A1' n1' c1' A2' n2' c2' it ks wX hBX hv' (by omega) (by omega)
end Go.Proofs.YteckcanghnligaaDoor
