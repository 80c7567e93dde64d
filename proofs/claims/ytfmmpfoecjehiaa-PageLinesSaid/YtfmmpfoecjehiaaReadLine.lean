/- DERIVED. What readLine of package page returns. Condition: strings of at most 20000 bytes. -/
import Derived.Test.YtfmmpfoecjehiaaReadArg
import Derived.Deep.AppendLies
import Derived.Maps.AppendAt
import Derived.Lib.SmallJoins
namespace Go.Proofs.Ytfmmpfoecjehiaa
set_option linter.unusedVariables false
set_option linter.unusedSimpArgs false
open Go.RowKit
/-- The cells of arguments. -/
def acells (gs : List (L8 × L8)) : List Value := (gs.map fun a => [Value.string (bs a.1), Value.string (bs a.2)]).flatten
theorem acells_snoc (gs : List (L8 × L8)) (a : L8 × L8) : acells (gs ++ [a]) = acells gs ++ [.string (bs a.1), .string (bs a.2)] := by simp [acells]
def pcells (nm : L8) (v : Value) (e : Bool) : Array Value := #[.string ⟨#[]⟩, .string (bs nm), v, .bool e, .slice none 0 0]
/-- What has been read: all arguments, and that the rest is to be read. -/
def RInv (l rest : L8) (done : List (L8 × L8)) : Prop := ∀ x e, PA l x e ↔ ∃ gs, x = done ++ gs ∧ PA rest gs e
theorem RInv.start (l : L8) : RInv l l [] := fun x e => ⟨fun h => ⟨x, rfl, h⟩, fun ⟨gs, h, hp⟩ => by simpa using h ▸ hp⟩
theorem pa_inv {rest : L8} {gs : List (L8 × L8)} {e : Bool} (h : PA rest gs e) (h1 : rest ≠ eO) (h2 : rest ≠ eW) : ∃ n v r gs', ra rest = some (n, v, r) ∧ gs = (n, v) :: gs' ∧ PA r gs' e := by
  cases h with
  | fin => exact absurd rfl (ne_suf h1 h2 e)
  | step _ _ h hr => exact ⟨_, _, _, _, h, rfl, hr⟩
theorem RInv.step {l rest n v r : L8} {done : List (L8 × L8)} (h : RInv l rest done) (h1 : rest ≠ eO) (h2 : rest ≠ eW) (hr : ra rest = some (n, v, r)) : RInv l r (done ++ [(n, v)]) := fun x e => by
  rw [h x e]
  constructor
  · rintro ⟨gs, rfl, hp⟩
    obtain ⟨n', v', r', gs', hr', rfl, hp'⟩ := pa_inv hp h1 h2
    rw [hr] at hr'
    cases hr'
    exact ⟨gs', by simp, hp'⟩
  · rintro ⟨gs, rfl, hp⟩
    exact ⟨(n, v) :: gs, by simp, PA.step h1 h2 hr hp⟩
theorem RInv.none {l rest : L8} {done : List (L8 × L8)} (h : RInv l rest done) (h1 : rest ≠ eO) (h2 : rest ≠ eW) (hr : ra rest = none) : ∀ x e, ¬ PA l x e := fun x e hp => by
  obtain ⟨gs, _, hp'⟩ := (h x e).1 hp
  obtain ⟨_, _, _, _, hr', _⟩ := pa_inv hp' h1 h2
  rw [hr] at hr'
  cases hr'
theorem RInv.fin {l rest : L8} {done : List (L8 × L8)} {e : Bool} (h : RInv l rest done) (hr : rest = suf e) : PA l done e := (h done e).2 ⟨[], by simp, hr ▸ PA.fin e⟩
theorem ra_less {x n v r : L8} (h : ra x = some (n, v, r)) : r.length < x.length := by
  obtain ⟨c, p, rfl, _, _⟩ := argW_of_ra h
  simp
  omega
theorem argInfo : (Try.prog.info? 43).map (fun i => (i.zero, i.size, i.bytes)) = some (some (Value.agg #[.string ⟨#[]⟩, .string ⟨#[]⟩]), 2, 32) := by kernel_rfl
/-- What readLine returns. -/
def RlPost (l : L8) (w : World) (e : Ending) (w' : World) : Prop :=
  ((∃ gs o A c, 0 < lead nmC l ∧ lead nmC l ≤ 20 ∧ PA (l.drop (lead nmC l)) gs o ∧ e = .returned (.tuple #[.agg (pcells (l.take (lead nmC l)) (.slice A (gs.take 13).length c) o), .bool true]) ∧ w'.ownsRow (w.heap.size + 1) 43 2 (.slice A (gs.take 13).length c) (gs.take 13).length (acells (gs.take 13))) ∨
   ((∀ gs o, ¬ (0 < lead nmC l ∧ lead nmC l ≤ 20 ∧ PA (l.drop (lead nmC l)) gs o)) ∧ e = .returned (.tuple #[.agg (pcells [] (.slice none 0 0) false), .bool false]))) ∧ Below w.heap.size w w'
theorem own_val {w : World} {base : Nat} {e : TypeId} {size : Nat} {v : Value} {n : Nat} {xs : List Value} (h : w.ownsRow base e size v n xs) : ∃ A c, v = .slice A n c := by
  rcases h.2 with ⟨rfl, rfl⟩ | ⟨g, cap, cur, rfl, _⟩
  · exact ⟨_, _, rfl⟩
  · exact ⟨_, _, rfl⟩
theorem own_below {w w' : World} {base : Nat} {e : TypeId} {size : Nat} {v : Value} {n : Nat} {xs : List Value} (h : w.ownsRow base e size v n xs) (hb : Below w.heap.size w w') : w'.ownsRow base e size v n xs := by
  refine h.kept (row := none) ⟨hb.os, hb.tape, hb.output, hb.size, fun q hq _ => hb.block q hq⟩ ?_
  cases hv : v.ownBlock with
  | none => exact .inl rfl
  | some g => exact .inr (by simp)
/-- The block of a part that is put together. -/
def PBox (w : World) (b : Nat) (nm : L8) (v : Value) (e : Bool) : Prop := w.heap[b]? = some (.cells (pcells nm v e) 25 (0, 0))
theorem PBox.cells {w : World} {b : Nat} {nm : L8} {v : Value} {e : Bool} (h : PBox w b nm v e) : w.cell? ⟨b, 0, none⟩ = some (.string ⟨#[]⟩) ∧ w.cell? ⟨b, 1, none⟩ = some (.string (bs nm)) ∧ w.cell? ⟨b, 2, none⟩ = some v ∧ w.cell? ⟨b, 3, none⟩ = some (.bool e) ∧ w.cell? ⟨b, 4, none⟩ = some (.slice none 0 0) :=
  ⟨Lib.cell_of_heap h 0, Lib.cell_of_heap h 1, Lib.cell_of_heap h 2, Lib.cell_of_heap h 3, Lib.cell_of_heap h 4⟩
theorem PBox.free {w : World} {b : Nat} {nm : L8} {v : Value} {e : Bool} (h : PBox w b nm v e) (j : Nat) : w.frozen? ⟨b, j, none⟩ = false := Lib.frozen_of_heap h j
theorem PBox.new (w : World) (nm : L8) (v : Value) (e : Bool) : PBox (w.alloc (.cells (pcells nm v e) 25)).drew w.heap.size nm v e := heap_alloc_new w _
theorem PBox.keep {w w' : World} {B b : Nat} {nm : L8} {v : Value} {e : Bool} (h : PBox w b nm v e) (hb : Below B w w') (hB : b < B) : PBox w' b nm v e := (hb.block b hB).trans h
theorem own_set {w : World} {base sz n b j : Nat} {e : TypeId} {v u : Value} {xs : List Value} (h : w.ownsRow base e sz v n xs) (hb : b < base) : (w.setCell ⟨b, j, none⟩ u).ownsRow base e sz v n xs := by
  refine ⟨h.1, ?_⟩
  rcases h.2 with h0 | ⟨g, cap, cur, hv, h1, h2, h3⟩
  · exact .inl h0
  · exact .inr ⟨g, cap, cur, hv, h1, (Below.heap_setCell _ _ _ _ (by show g ≠ b; omega)).trans h2, h3⟩
theorem below_setN {B b j : Nat} {w w' : World} {u : Value} (h : Below B w w') (hb : B ≤ b) : Below B w (w'.setCell ⟨b, j, none⟩ u) := h.setCell (p := ⟨b, j, none⟩) hb u
theorem PBox.grow {w6 w7 : World} {base b : Nat} {nm : L8} {v v' : Value} {e : Bool} {o : Obj} (h : PBox w6 b nm v e) (hg : (w6.alloc o).grownBy w7 v'.ownBlock) (hlt : ∀ k, v'.ownBlock = some k → base ≤ k) (hb : b < base) : PBox w7 b nm v e := by
  have hs : b < w6.heap.size := (Array.getElem?_eq_some_iff.1 h).1
  refine (hg.block b (by simp; omega) (fun hk => ?_)).trans ((Below.heap_alloc _ _ _ hs).trans h)
  have := hlt b hk.symm
  omega
theorem PBox.put {w : World} {b : Nat} {nm : L8} {v u : Value} {e : Bool} (h : PBox w b nm v e) : PBox (w.setCell ⟨b, 2, none⟩ u) b nm u e := Go.Joins.block_setCell h u
theorem two_set {w : World} {b : Nat} {x y u v : Value} {t : TypeId} (h : w.heap[b]? = some (.cells #[x, y] t (0, 0))) : ((w.setCell ⟨b, 0, none⟩ u).setCell ⟨b, 1, none⟩ v).heap[b]? = some (.cells #[u, v] t (0, 0)) :=
  Go.Joins.block_setCell (Go.Joins.block_setCell h u) v
theorem toList_bs (l : L8) : (bs l).toList = l := by simp
def sizeV : Value → Nat
  | .string s => s.size
  | _ => 0
theorem take13_more {done : List (L8 × L8)} {a : L8 × L8} (h : ¬ (done.take 13).length ≤ 12) : (done ++ [a]).take 13 = done.take 13 := by
  rw [List.length_take] at h
  exact List.take_append_of_le_length (by omega)
theorem take13_next {done : List (L8 × L8)} {a : L8 × L8} (h : (done.take 13).length ≤ 12) : (done ++ [a]).take 13 = done.take 13 ++ [a] := by
  rw [List.length_take] at h
  rw [List.take_of_length_le (by simp; omega), List.take_of_length_le (by omega)]
theorem rlPost_of {l nm rest0 : L8} {n k : Nat} {done : List (L8 × L8)} {o : Bool} {A : Option Addr} {c : Nat} {w w' : World} (hn : lead nmC l = n) (h1 : l.take n = nm) (h2 : l.drop n = rest0) (hp : 0 < n) (h20 : n ≤ 20) (hpa : PA rest0 done o) (hk : k = (done.take 13).length)
    (ho : w'.ownsRow (w.heap.size + 1) 43 2 (.slice A k c) k (acells (done.take 13))) (hb : Below w.heap.size w w') : RlPost l w (.returned (.tuple #[.agg (pcells nm (.slice A k c) o), .bool true])) w' := by
  subst hn h1 h2 hk
  exact ⟨.inl ⟨done, o, A, c, hp, h20, hpa, rfl, ho⟩, hb⟩
set_option maxRecDepth 100000 in
set_option maxHeartbeats 4000000 in
theorem readLine_any (s : ByteArray) (w : World) (hs : s.size ≤ 20000) :
    Calls Try.prog 14 #[.string s] w (RlPost (bl s) w) := by
  have hld := fun wX => leadName_any s wX (by omega)
  have hle := lead_le nmC (bl s)
  rw [bl_len] at hle
  have hx0 := ext0_bs s (lead nmC (bl s))
  have hx1 := ext_bs s (lead nmC (bl s))
  obtain ⟨n, hn⟩ : ∃ n, lead nmC (bl s) = n := ⟨_, rfl⟩
  rw [hn] at hld hle hx0 hx1
  have HN := Lib.hid hn; clear hn
  have HL := Lib.hid hld; clear hld
  have n0 : (0 : Int) ≤ (n : Int) := by omega
  have n1 : (n : Int) ≤ (s.size : Int) := by omega
  by_cases h0 : n = 0
  · have HR := Lib.hid (show ∀ gs o, ¬ (0 < lead nmC (bl s) ∧ lead nmC (bl s) ≤ 20 ∧ PA ((bl s).drop (lead nmC (bl s))) gs o) by intro gs o h; have := HN.out; omega)
    subst h0
    clear hx0 hx1
    go_enter Try.func14, Try.ntmps14
    go_wp2_with (go_at_call 32; refine (HL.out _).mono ?_; rintro e w9 ⟨rfl, rfl⟩)
    refine bodyPost_ret (v := .tuple #[.agg (pcells [] (.slice none 0 0) false), .bool false]) (by simp [results, Try.results14, go_sem, pcells]; try rfl) rfl ⟨.inr ⟨HR.out, rfl⟩, ?_⟩
    first | exact (Below.refl _ _).alloc (Nat.le_refl _) _ | exact ((Below.refl _ _).alloc (Nat.le_refl _) _).setCell (by simp) _
  · have d1 : ((n : Int) == 0) = false := by simpa using h0
    by_cases h20 : (20 : Int) < (n : Int)
    · have HR := Lib.hid (show ∀ gs o, ¬ (0 < lead nmC (bl s) ∧ lead nmC (bl s) ≤ 20 ∧ PA ((bl s).drop (lead nmC (bl s))) gs o) by intro gs o h; have := HN.out; omega)
      clear hx0 hx1
      go_enter Try.func14, Try.ntmps14
      go_wp2_with (go_at_call 32; refine (HL.out _).mono ?_; rintro e w9 ⟨rfl, rfl⟩)
      all_goals first
        | (exfalso; omega)
        | (refine bodyPost_ret (v := .tuple #[.agg (pcells [] (.slice none 0 0) false), .bool false]) (by simp [results, Try.results14, go_sem, pcells]; try rfl) rfl ⟨.inr ⟨HR.out, rfl⟩, ?_⟩
           first | exact (Below.refl _ _).alloc (Nat.le_refl _) _ | exact ((Below.refl _ _).alloc (Nat.le_refl _) _).setCell (by simp) _)
    · have d2 : decide ((20 : Int) < (n : Int)) = false := decide_eq_false h20
      have hlr : ((bl s).drop n).length ≤ 20000 := by rw [List.length_drop, bl_len]; omega
      have HLR := Lib.hid hlr; clear hlr
      have hpos : 0 < n := by omega
      have h20n : n ≤ 20 := by omega
      obtain ⟨i0, hi, hz0, hz1, hz2⟩ := info_parts argInfo
      go_enter Try.func14, Try.ntmps14
      go_wp2_with (go_at_call 32; refine (HL.out _).mono ?_; rintro e w9 ⟨rfl, rfl⟩)
      go_region
      have hbx0 := PBox.new w ((bl s).take n) (.slice none 0 0) false
      have hb00 : Below w.heap.size w (w.alloc (.cells (pcells ((bl s).take n) (.slice none 0 0) false) 25)).drew := ((Below.refl _ _).alloc (Nat.le_refl _) _).drew
      have HB00 := Lib.hid (And.intro hbx0 hb00); clear hbx0 hb00 hx0 hx1
      generalize hnm : (bl s).take n = nm at HB00
      generalize hrest : (bl s).drop n = rest0 at HLR
      have HNM := Lib.hid (And.intro hnm hrest)
      clear hnm hrest
      go_wp2_with fail
      go_loopw [0] (fun t wr => ∃ (rest : L8) (done : List (L8 × L8)) (k : Nat) (A : Option Addr) (c : Nat), t = .string (bs rest) ∧ rest.length ≤ 20000 ∧ RInv rest0 rest done ∧ k = (done.take 13).length ∧ PBox wr w.heap.size nm (.slice A k c) false ∧ wr.ownsRow (w.heap.size + 1) 43 2 (.slice A k c) k (acells (done.take 13)) ∧ Below w.heap.size w wr) (fun t _ => sizeV t)
      case atStart => exact ⟨rest0, [], 0, none, 0, rfl, HLR.out, RInv.start _, rfl, HB00.out.1, World.ownsRow_nil _ _ _ _, HB00.out.2⟩
      case round =>
        obtain ⟨rest, done, k, A, c, rfl, hrl, hinv, hkd, hbx, hown, hbw⟩ := hrel
        have hw := hbw.size
        have hwlt : w.heap.size < wr.heap.size := (Array.getElem?_eq_some_iff.1 hbx).1
        obtain ⟨y0, y1, y2, y3, y4⟩ := hbx.cells
        have z0 := hbx.free 0
        have z1 := hbx.free 1
        have z2 := hbx.free 2
        have z3 := hbx.free 3
        have z4 := hbx.free 4
        have HBX := Lib.hid hbx; clear hbx
        have HOWN := Lib.hid hown; clear hown
        have HINV := Lib.hid hinv; clear hinv
        have HKD := Lib.hid hkd; clear hkd
        have HBW := Lib.hid hbw; clear hbw
        obtain ⟨S, hS⟩ : ∃ S, bs rest = S := ⟨_, rfl⟩
        have hSl : S.toList = rest := by rw [← hS]; exact toList_bs rest
        by_cases h1 : rest = eO
        · have q1 : S.toList = [32, 62, 125] := hSl.trans h1
          rw [hS]
          have HPA := Lib.hid (HINV.out.fin (e := true) h1)
          clear hS hSl h1
          go_wp2_with fail
          refine bodyPost_ret (v := .tuple #[.agg (pcells nm (.slice A k c) true), .bool true]) (by simp [results, Try.results14, go_sem, pcells, y0, y1, y2, y3, y4, q1]; try rfl) rfl ?_
          refine rlPost_of HN.out HNM.out.1 HNM.out.2 hpos h20n HPA.out HKD.out ?_ ?_
          · repeat (first | with_reducible exact HOWN.out | with_reducible refine own_set ?_ (Nat.lt_succ_self _))
          · repeat (first | with_reducible exact HBW.out | with_reducible refine below_setN ?_ (Nat.le_refl _))
        · by_cases h2 : rest = eW
          · have q1 : S.toList = [32, 47, 62, 125] := hSl.trans h2
            rw [hS]
            have HPA := Lib.hid (HINV.out.fin (e := false) h2)
            clear hS hSl h1 h2
            go_wp2_with fail
            refine bodyPost_ret (v := .tuple #[.agg (pcells nm (.slice A k c) false), .bool true]) (by simp [results, Try.results14, go_sem, pcells, y0, y1, y2, y3, y4, q1]; try rfl) rfl ?_
            refine rlPost_of HN.out HNM.out.1 HNM.out.2 hpos h20n HPA.out HKD.out ?_ ?_
            · repeat (first | with_reducible exact HOWN.out | with_reducible refine own_set ?_ (Nat.lt_succ_self _))
            · repeat (first | with_reducible exact HBW.out | with_reducible refine below_setN ?_ (Nat.le_refl _))
          · have q1 : (S.toList == [32, 62, 125]) = false := by
              rw [hSl]
              cases h : (rest == ([32, 62, 125] : List UInt8)) with
              | false => rfl
              | true => exact absurd (eq_of_beq h) h1
            have q3 : (S.toList == [32, 47, 62, 125]) = false := by
              rw [hSl]
              cases h : (rest == ([32, 47, 62, 125] : List UInt8)) with
              | false => rfl
              | true => exact absurd (eq_of_beq h) h2
            have n1 : ¬ S.toList = [32, 62, 125] := by rw [hSl]; exact h1
            have n3 : ¬ S.toList = [32, 47, 62, 125] := by rw [hSl]; exact h2
            have hSz : S.size ≤ 20000 := by rw [← hS, bs_size]; exact hrl
            have hra := fun wX => readArg_any S wX hSz
            have hbl : bl S = rest := by subst hS; exact bl_bs rest
            rw [hbl] at hra
            have HRA := Lib.hid hra
            have HNE := Lib.hid (And.intro h1 h2)
            rw [hS]
            have HS := Lib.hid hS
            clear hS hSl hra hbl h1 h2
            go_wp2_with fail
            obtain ⟨W2, hW2⟩ : ∃ W2, wr.alloc (.cells #[.string ⟨#[]⟩, .string ⟨#[]⟩] 43) = W2 := ⟨_, rfl⟩
            rw [hW2]
            have hb2 : Below wr.heap.size wr W2 := by rw [← hW2]; exact (Below.refl _ _).alloc (Nat.le_refl _) _
            have hs2 : W2.heap.size = wr.heap.size + 1 := by rw [← hW2]; simp
            have x0 : W2.cell? ⟨wr.heap.size, 0, none⟩ = some (.string ⟨#[]⟩) ∧ W2.cell? ⟨wr.heap.size, 1, none⟩ = some (.string ⟨#[]⟩) ∧ W2.frozen? ⟨wr.heap.size, 0, none⟩ = false ∧ W2.frozen? ⟨wr.heap.size, 1, none⟩ = false := by
              rw [← hW2]
              exact ⟨Lib.cell_of_heap (heap_alloc_new wr _) 0, Lib.cell_of_heap (heap_alloc_new wr _) 1, Lib.frozen_of_heap (heap_alloc_new wr _) 0, Lib.frozen_of_heap (heap_alloc_new wr _) 1⟩
            have hbk2 : W2.heap[wr.heap.size]? = some (.cells #[.string ⟨#[]⟩, .string ⟨#[]⟩] 43 (0, 0)) := by rw [← hW2]; exact heap_alloc_new wr _
            clear hW2
            refine (HRA.out W2).mono ?_
            rintro e w5 ⟨hres, hb5⟩
            have hbk5 := (hb5.block wr.heap.size (by omega)).trans hbk2
            have hbr5 : Below wr.heap.size wr w5 := hb2.trans (hb5.mono (by omega))
            have hsz5 := hb5.size
            obtain ⟨x0, x1, xf0, xf1⟩ := x0
            have t0 := (hb5.cell (p := ⟨wr.heap.size, 0, none⟩) (by show wr.heap.size < _; omega)).trans x0
            have t1 := (hb5.cell (p := ⟨wr.heap.size, 1, none⟩) (by show wr.heap.size < _; omega)).trans x1
            have tf0 := (hb5.frozen (p := ⟨wr.heap.size, 0, none⟩) (by show wr.heap.size < _; omega)).trans xf0
            have tf1 := (hb5.frozen (p := ⟨wr.heap.size, 1, none⟩) (by show wr.heap.size < _; omega)).trans xf1
            have hbx5 := HBX.out.keep hbr5 hwlt
            obtain ⟨y0, y1, y2, y3, y4⟩ := hbx5.cells
            have z0 := hbx5.free 0
            have z1 := hbx5.free 1
            have z2 := hbx5.free 2
            have z3 := hbx5.free 3
            have z4 := hbx5.free 4
            have HBX5 := Lib.hid hbx5; clear hbx5
            have HBR5 := Lib.hid hbr5
            have HSZ5 := Lib.hid (And.intro hs2 hsz5)
            clear hb5 hb2 x0 x1 xf0 xf1
            cases hra2 : ra rest with
            | none =>
              rw [hra2] at hres
              obtain ⟨a1, a2, a3, rfl⟩ := hres
              have HR := Lib.hid (HINV.out.none HNE.out.1 HNE.out.2 hra2)
              clear hra2
              go_wp2_with fail
              refine bodyPost_ret (v := .tuple #[.agg (pcells [] (.slice none 0 0) false), .bool false]) (by simp [results, Try.results14, go_sem, pcells, y0, y1, y2, y3, y4]; try rfl) rfl ⟨.inr ⟨fun x o h => ?_, rfl⟩, ?_⟩
              · obtain ⟨_, _, hp⟩ := h
                rw [HN.out, HNM.out.2] at hp
                exact HR.out x o hp
              · have hbF : Below w.heap.size w w5 := HBW.out.trans (HBR5.out.mono hw)
                repeat (first | with_reducible exact hbF | with_reducible refine below_setN ?_ (Nat.le_refl _) | with_reducible refine below_setN ?_ hw)
            | some x =>
              obtain ⟨an, av, ar⟩ := x
              rw [hra2] at hres
              have hres2 : e = .returned (.tuple #[.agg #[.string (bs an), .string (bs av)], .string (bs ar), .bool true]) := hres
              subst hres2
              have HR := Lib.hid (HINV.out.step HNE.out.1 HNE.out.2 hra2)
              have HLS := Lib.hid (ra_less hra2)
              clear hra2 hres
              by_cases hk12 : k ≤ 12
              · have hk12i : (k : Int) ≤ 12 := by omega
                have hbF : Below wr.heap.size wr ((w5.setCell ⟨wr.heap.size, 0, none⟩ (.string (bs an))).setCell ⟨wr.heap.size, 1, none⟩ (.string (bs av))) := (HBR5.out.setCell (p := ⟨wr.heap.size, 0, none⟩) (Nat.le_refl _) _).setCell (p := ⟨wr.heap.size, 1, none⟩) (Nat.le_refl _) _
                have hsz6 : ((w5.setCell ⟨wr.heap.size, 0, none⟩ (.string (bs an))).setCell ⟨wr.heap.size, 1, none⟩ (.string (bs av))).heap.size = w5.heap.size := by simp
                obtain ⟨w6, hw6⟩ : ∃ w6, (w5.setCell ⟨wr.heap.size, 0, none⟩ (.string (bs an))).setCell ⟨wr.heap.size, 1, none⟩ (.string (bs av)) = w6 := ⟨_, rfl⟩
                have HNW := Lib.hid (World.news_of_block (heap_alloc_new w6 (.cells #[.string (bs an), .string (bs av)] 43)))
                rw [hw6] at hbF hsz6
                have HO6 := Lib.hid (own_below HOWN.out hbF)
                have HBF := Lib.hid hbF
                have HS6 := Lib.hid hsz6
                have hsle : wr.heap.size + 1 ≤ w6.heap.size := by have := HSZ5.out; omega
                have hbx6 := HBX.out.keep hbF hwlt
                have v2 := (hbx6.cells).2.2.1
                have vz2 := hbx6.free 2
                have HBX6 := Lib.hid hbx6
                have c0 : w6.cell? ⟨wr.heap.size, 0, none⟩ = some (.string (bs an)) := by
                  rw [← hw6]
                  exact Lib.cell_of_heap (cs := #[.string (bs an), .string (bs av)]) (two_set hbk5) 0
                have c1 : w6.cell? ⟨wr.heap.size, 1, none⟩ = some (.string (bs av)) := by
                  rw [← hw6]
                  exact Lib.cell_of_heap (cs := #[.string (bs an), .string (bs av)]) (two_set hbk5) 1
                clear hbF hsz6 hbx6
                go_wp2_with (at_builtin; go_loud (refine wpList_append_lies _ rfl _ _ 22 rfl (w.heap.size + 1) 43 i0 _ 2 32 Try.underlying22 hi hz0 hz1 hz2 rfl (by decide) (.slice A k c) k (acells (done.take 13)) rfl (HO6.out.alloc _) ⟨w6.heap.size, 0, none⟩ 1 1 [.string (bs an), .string (bs av)] rfl rfl HNW.out (by simp [Value.oneCell']) (by omega) (by unfold maxLen; omega) (by omega) (by simp; omega) (w6.heap.size + 1) (by simp) ?_; intro gg cap2 w7 hown' hgrow hat3 hlt2; have hb7 := HBX6.out.grow (base := w.heap.size + 1) hgrow (fun q hq => (HO6.out.lt q hq).1) (Nat.lt_succ_self _); have u2 := (hb7.cells).2.2.1; have uf2 := hb7.free 2; have HB7 := Lib.hid hb7; clear hb7))
                go_roundw
                case rel =>
                  have hkd : (done.take 13).length ≤ 12 := by have := HKD.out; omega
                  have htk := take13_next (a := (an, av)) hkd
                  have hbG : Below w.heap.size w w7 := (HBW.out.trans ((HBF.out.alloc (by omega) _).mono hw)).grown hgrow (by simp; have := HS6.out; omega) (fun q hq => Nat.le_of_lt (HO6.out.lt q hq).1)
                  refine ⟨ar, done ++ [(an, av)], k + 1, some ⟨gg, 0, none⟩, cap2, rfl, by have := HLS.out; omega, HR.out, by rw [htk, List.length_append, ← HKD.out]; rfl, HB7.out.put, ?_, below_setN hbG (Nat.le_refl _)⟩
                  rw [htk, acells_snoc]
                  exact own_set hown' (Nat.lt_succ_self _)
                case measure =>
                  have := HLS.out
                  have h1 : S.size = rest.length := by rw [← HS.out, bs_size]
                  show (bs ar).size < S.size
                  rw [bs_size, h1]
                  exact this
              · have hk12i : ¬ (k : Int) ≤ 12 := by omega
                go_wp2_with fail
                go_roundw
                case rel =>
                  have hkd : ¬ (done.take 13).length ≤ 12 := by have := HKD.out; omega
                  have hbF : Below wr.heap.size wr ((w5.setCell ⟨wr.heap.size, 0, none⟩ (.string (bs an))).setCell ⟨wr.heap.size, 1, none⟩ (.string (bs av))) := (HBR5.out.setCell (p := ⟨wr.heap.size, 0, none⟩) (Nat.le_refl _) _).setCell (p := ⟨wr.heap.size, 1, none⟩) (Nat.le_refl _) _
                  exact ⟨ar, done ++ [(an, av)], k, A, c, rfl, by have := HLS.out; omega, HR.out, by rw [take13_more hkd]; exact HKD.out, HBX.out.keep hbF hwlt, by rw [take13_more hkd]; exact own_below HOWN.out hbF, HBW.out.trans (hbF.mono hw)⟩
                case measure =>
                  have := HLS.out
                  have h1 : S.size = rest.length := by rw [← HS.out, bs_size]
                  show (bs ar).size < S.size
                  rw [bs_size, h1]
                  exact this
end Go.Proofs.Ytfmmpfoecjehiaa
