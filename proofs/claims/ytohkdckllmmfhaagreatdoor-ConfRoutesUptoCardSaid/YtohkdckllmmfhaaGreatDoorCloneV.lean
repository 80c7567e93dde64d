/- DERIVED. What conf's clone returns: the same value in new memory, by induction over the value. Condition: the value is right, and has at most 2^40 values. -/
import Derived.Test.YtohkdckllmmfhaaGreatDoorAppNew
import Derived.Test.YtohkdckllmmfhaaGreatDoorFollow
import Derived.Deep.RegionHeld3
import Derived.Deep.Cut
import Derived.Deep.CutRange
namespace Go.Proofs.YtohkdckllmmfhaaGreatDoor
open Go.RowKit
set_option linter.unusedVariables false
theorem svSet5 {w : World} {N : Nat} {a : Sv} (h : w.heap[N]? = some a.box) (A : Option Addr) (n c : Nat) : (w.setCell ⟨N, 5, none⟩ (.slice A n c)).heap[N]? = some ({ a with A2 := A, n2 := n, c2 := c } : Sv).box :=
  heap_setCell_same w N 5 _ _ (.slice A n c) h
theorem svSet4 {w : World} {N : Nat} {a : Sv} (h : w.heap[N]? = some a.box) (A : Option Addr) (n c : Nat) : (w.setCell ⟨N, 4, none⟩ (.slice A n c)).heap[N]? = some ({ a with A1 := A, n1 := n, c1 := c } : Sv).box :=
  heap_setCell_same w N 4 _ _ (.slice A n c) h
/-- The same value, in new memory. -/
def CloneV (s : Sv) (w : World) (e : Ending) (w' : World) : Prop :=
  ∃ a : Sv, e = .returned a.val ∧ a.row = s.row ∧ a.okP w' (fun b => w.heap.size ≤ b ∧ b < w'.heap.size) ∧ Below w.heap.size w w'
theorem grown_below {w w' : World} (h : w.grownBy w' none) : Below w.heap.size w w' := (Below.refl _ _).grown h (Nat.le_refl _) (fun k hk => by cases hk)
/-- What is known when the keys have been copied. -/
theorem clone_keys (s : Sv) (w : World) (hs : s.okB w w.heap.size) (v1 : Value) (w1 : World)
    (ho : w1.ownsRow ((w.alloc s.box).alloc Sv.zero.box).heap.size 9 1 v1 s.n2 (s.keys.map Value.string)) (hg : ((w.alloc s.box).alloc Sv.zero.box).grownBy w1 none) :
    ∃ A c, v1 = .slice A s.n2 c ∧ w1.cell? ⟨w.heap.size, 5, none⟩ = some (.slice s.A2 s.n2 s.c2) ∧ w1.frozen? ⟨w.heap.size, 5, none⟩ = false ∧
      Hid (s.n2 ≤ c ∧ c ≤ maxLen ∧ KeysP w1 (fun b => w.heap.size + 2 ≤ b ∧ b < w1.heap.size) s.keys A s.n2 ∧ w1.heap[w.heap.size]? = some s.box ∧ w1.heap[w.heap.size + 1]? = some Sv.zero.box ∧ Below w.heap.size w w1 ∧ w.heap.size + 2 ≤ w1.heap.size) := by
  have hz : ((w.alloc s.box).alloc Sv.zero.box).heap.size = w.heap.size + 2 := by simp
  have hb := grown_below hg
  rw [hz] at hb ho
  obtain ⟨h1, h2, h3, h4⟩ := svTwo1 hb
  obtain ⟨A, c, rfl, g1, g2, g3⟩ := keys_own hs.ks.1 hs.ks.2.1 ho
  exact ⟨A, c, rfl, (svCells h3).2.2.2.2.2, svFree h3 5, Lib.hid ⟨g1, g2, g3, h3, h4, h1, h2⟩⟩
/-- What is known when the items have been copied, too. -/
theorem clone_items (s : Sv) (w : World) (hs : s.okB w w.heap.size) (A2 : Option Addr) (c2 : Nat) (wp : World)
    (hk : KeysP wp (fun b => w.heap.size + 2 ≤ b ∧ b < wp.heap.size) s.keys A2 s.n2) (hb0 : wp.heap[w.heap.size]? = some ({ s with A2 := A2, c2 := c2 } : Sv).box) (hb1 : wp.heap[w.heap.size + 1]? = some Sv.zero.box) (hbw : Below w.heap.size w wp) (hsz : w.heap.size + 2 ≤ wp.heap.size)
    (xs : List Value) (hxl : xs.length = s.n1 * 6) (hxc : ∀ g o, s.A1 = some ⟨g, o, none⟩ → w.rangeAt g o xs) (v1 : Value) (w1 : World)
    (ho : w1.ownsRow wp.heap.size 25 6 v1 s.n1 xs) (hg : wp.grownBy w1 none) :
    ∃ A c, v1 = .slice A s.n1 c ∧ w1.cell? ⟨w.heap.size, 4, none⟩ = some (.slice s.A1 s.n1 s.c1) ∧ w1.frozen? ⟨w.heap.size, 4, none⟩ = false ∧
      Hid (s.n1 ≤ c ∧ c ≤ maxLen ∧ KeysP w1 (fun b => w.heap.size + 2 ≤ b ∧ b < wp.heap.size) s.keys A2 s.n2 ∧ w1.heap[w.heap.size]? = some ({ s with A2 := A2, c2 := c2 } : Sv).box ∧ w1.heap[w.heap.size + 1]? = some Sv.zero.box ∧ Below w.heap.size w w1 ∧ wp.heap.size ≤ w1.heap.size ∧
        (s.n1 = 0 ∨ ∃ g, A = some ⟨g, 0, none⟩ ∧ wp.heap.size ≤ g ∧ g < w1.heap.size ∧ w1.there g 0 (s.n1 * 6) ∧ ∀ j, j < s.n1 → ElV w1 (fun b => b < w.heap.size) g (0 + j * 6) (s.items.drop j))) := by
  have hb := grown_below hg
  have e0 := (hb.block w.heap.size (by omega)).trans hb0
  have e1 := (hb.block (w.heap.size + 1) (by omega)).trans hb1
  have hbw1 := hbw.trans (hb.mono (by omega))
  have hk1 : KeysP w1 (fun b => w.heap.size + 2 ≤ b ∧ b < wp.heap.size) s.keys A2 s.n2 := hk.keep (fun x hx => hb.cell hx.2) (fun b h => h)
  have hc4 := (svCells e0).2.2.2.2.1
  have hlt := ho.lt
  have hszz := hb.size
  rcases ho.2 with ⟨rfl, h0⟩ | ⟨g, cap, cur, rfl, hgb, hh, hnc, hcm, hcs, htk⟩
  · exact ⟨none, 0, by rw [h0], hc4, svFree e0 4, Lib.hid ⟨by omega, Nat.zero_le _, hk1, e0, e1, hbw1, by omega, .inl h0⟩⟩
  · refine ⟨some ⟨g, 0, none⟩, cap, rfl, hc4, svFree e0 4, Lib.hid ⟨hnc, hcm, hk1, e0, e1, hbw1, by omega, ?_⟩⟩
    by_cases h0 : s.n1 = 0
    · exact .inl h0
    · refine .inr ⟨g, rfl, hgb, (hlt g rfl).2, fun j hj => ?_, fun j hj => ?_⟩
      · rw [Nat.zero_add]
        refine ⟨?_, ho.frozenAt j⟩
        rw [ho.cellAt j hj, List.getElem?_eq_getElem (by omega)]
        rfl
      · obtain ⟨gs, os, hA, hgs⟩ := hs.at_.base (by omega)
        have hA' : s.items.AtP w (· < w.heap.size) (some ⟨gs, os, none⟩) s.n1 := by rw [← hA]; exact Vals.AtP.of_at hs.at_
        obtain ⟨hgp, he⟩ := hA'.els j hj
        have hxr := hxc gs os hA
        cases hd : s.items.drop j with
        | nil => rw [hd] at he; exact he
        | cons k bo i t it ks r =>
          rw [hd] at he
          obtain ⟨B1, m1, d1, B2, m2, d2, hr, hv⟩ := he
          refine ⟨B1, m1, d1, B2, m2, d2, fun q v hq => ?_, hv.keep (fun x hx => hbw1.cell hx) (fun b h => h)⟩
          have hq6 : q < 6 := by have := (List.getElem?_eq_some_iff.1 hq).1; simpa [vCells] using this
          have hx1 := hr q v hq
          have hlx : j * 6 + q < xs.length := by omega
          have hx2 := hxr (j * 6 + q) _ (List.getElem?_eq_getElem hlx)
          rw [show os + (j * 6 + q) = os + j * 6 + q by omega, hx1] at hx2
          rw [show 0 + j * 6 + q = j * 6 + q by omega, ho.cellAt _ (by omega), List.getElem?_eq_getElem hlx]
          exact hx2.symm
theorem svRes1 {fn : Func} {p : Tmp} (h : fn.results = #[.cell p 25]) (tmps : Array Value) (w : World) (N : Nat) (a : Sv)
    (hp : tmps.getD p undef = .pointer (some ⟨N, 0, none⟩)) (hr : w.rangeAt N 0 a.cs.toList) : (results fn tmps).run Tryz.prog w = .ok a.val w := by
  have hp' : tmps[p]?.getD undef = .pointer (some ⟨N, 0, none⟩) := by simpa using hp
  simp [results, h, hp', asAddr, sv_load hr]
theorem keep7 {w' : World} {B0 R g o : Nat} {v : Value} {a0 a1 a2 a3 a4 a5 a6 : Option Value} (h0 : g ≠ B0) (h1 : g ≠ R)
    (h : w'.cell? ⟨B0, 4, none⟩ = a6 ∧ w'.cell? ⟨R, 0, none⟩ = a0 ∧ w'.cell? ⟨R, 1, none⟩ = a1 ∧ w'.cell? ⟨R, 2, none⟩ = a2 ∧ w'.cell? ⟨R, 3, none⟩ = a3 ∧ w'.cell? ⟨R, 4, none⟩ = a4 ∧ w'.cell? ⟨R, 5, none⟩ = a5) :
    (w'.setCell ⟨g, o, none⟩ v).cell? ⟨B0, 4, none⟩ = a6 ∧ (w'.setCell ⟨g, o, none⟩ v).cell? ⟨R, 0, none⟩ = a0 ∧ (w'.setCell ⟨g, o, none⟩ v).cell? ⟨R, 1, none⟩ = a1 ∧ (w'.setCell ⟨g, o, none⟩ v).cell? ⟨R, 2, none⟩ = a2 ∧ (w'.setCell ⟨g, o, none⟩ v).cell? ⟨R, 3, none⟩ = a3 ∧ (w'.setCell ⟨g, o, none⟩ v).cell? ⟨R, 4, none⟩ = a4 ∧ (w'.setCell ⟨g, o, none⟩ v).cell? ⟨R, 5, none⟩ = a5 := by
  have e : ∀ b q, g ≠ b → (w'.setCell ⟨g, o, none⟩ v).cell? ⟨b, q, none⟩ = w'.cell? ⟨b, q, none⟩ := fun b q hb => World.cell?_of_block (Below.heap_setCell _ _ _ _ (show b ≠ g from fun h => hb h.symm))
  rw [e B0 4 h0, e R 0 h1, e R 1 h1, e R 2 h1, e R 3 h1, e R 4 h1, e R 5 h1]
  exact h
theorem heap_setCells' (b : Nat) : ∀ (vs : List Value) (o : Nat) (w : World) (k : Nat), k ≠ b → (w.setCells b o vs).heap[k]? = w.heap[k]?
  | [], _, _, _, _ => rfl
  | v :: r, o, w, k, h => by
    rw [World.setCells, heap_setCells' b r (o + 1) _ k h]
    exact Below.heap_setCell _ _ _ _ h
/-- The end of clone: what is stored where the result lies. -/
theorem clone_end (a : Sv) (w wr : World) (hw : w.heap.size + 2 ≤ wr.heap.size) (hb : Below w.heap.size w wr) (h1 : wr.heap[w.heap.size + 1]? = some Sv.zero.box) (hv : a.okP wr (fun b => w.heap.size + 2 ≤ b ∧ b < wr.heap.size)) (w' : World) (hw' : wr.setCells (w.heap.size + 1) 0 a.cs.toList = w') :
    w'.rangeAt (w.heap.size + 1) 0 a.cs.toList ∧ a.okP w' (fun b => w.heap.size ≤ b ∧ b < w'.heap.size) ∧ Below w.heap.size w w' := by
  subst hw'
  refine ⟨sv_set wr _ a _ rfl (svThere h1), ?_, below_setCells' (by omega) _ _ hb⟩
  refine VP.keep (fun x hx => World.cell?_setCells_out _ _ _ _ _ (fun hb _ => by have := hx.1; omega)) (fun b hb => ⟨by omega, ?_⟩) hv
  rw [size_setCells']
  exact hb.2
set_option maxRecDepth 100000 in
set_option maxHeartbeats 3200000 in
theorem cloneV_gen (s : Sv) (w : World) (ih : ∀ (e : Sv) (wX : World), e.items.nodes < s.items.nodes → Fine e.row 1099511627776 → e.okB wX wX.heap.size → Calls Tryz.prog 20 #[e.val] wX (CloneV e wX)) (hf : Fine s.row 1099511627776) (hs : s.okB w w.heap.size) :
    Calls Tryz.prog 20 #[s.val] w (CloneV s w) := by
    obtain ⟨hg, hky, hn2⟩ := hf.good hs (Nat.le_refl _)
    have hn1 : s.n1 ≤ 1099511627776 := by
      have h1 := hf.many
      have h2 := Vals.len_le s.items
      have h3 := hs.at_.len_eq
      simp only [Sv.row, Vals.nodes] at h1
      omega
    have IH := Lib.hid ih; clear ih
    have HS := Lib.hid hs
    have HFI := Lib.hid hf
    obtain ⟨kc1, kc2, kc3, kc4⟩ := keys_cells (KeysP.of_at hs.ks)
    obtain ⟨xs, xc1, xc2, xc3, xc4, xc5⟩ := items_cells (Vals.AtP.of_at hs.at_)
    have KC1 := Lib.hid kc1
    have KC2 := Lib.hid kc2
    have KC4 := Lib.hid kc4
    have XC1 := Lib.hid xc1
    have XC2 := Lib.hid xc2
    have XC4 := Lib.hid xc4
    have HT0 := svTwo1 (Below.refl _ ((w.alloc s.box).alloc Sv.zero.box))
    have HW2 := svTwo w s Sv.zero
    have hkc3 : ∀ ad, s.A2 = some ad → ∀ j u, (s.keys.map Value.string)[j]? = some u → ((w.alloc s.box).alloc Sv.zero.box).cell? (ad.add j) = some u := by
      intro ad had j u hu
      have h := kc3 ad had j u hu
      rw [← h]
      refine HW2.cell ?_
      obtain ⟨b, o, e, hb, _⟩ := (KeysP.of_at hs.ks).2.2 (by
        rcases Nat.eq_zero_or_pos s.n2 with h0 | h0
        · rw [h0] at kc1; rw [List.eq_nil_of_length_eq_zero (by omega : (s.keys.map Value.string).length = 0)] at hu; simp at hu
        · exact h0)
      rw [e] at had
      cases had
      rw [Addr.add_mid]
      exact hb
    have KC3 := Lib.hid hkc3
    clear hkc3
    have F1 := Lib.hid (clone_keys s w hs)
    have F2 := Lib.hid (clone_items s w hs)
    have hzz : ((w.alloc s.box).alloc Sv.zero.box).heap.size = w.heap.size + 2 := by simp
    obtain ⟨y0, y1, y2, y3, y4, y5⟩ := svCells HT0.2.2.1
    obtain ⟨i0, hi, hz0, hz1, hz2⟩ := info_parts str_info
    obtain ⟨j0, hj, hj0, hj1, hj2⟩ := info_parts val_info
    clear hf hs hg hky kc1 kc2 kc3 kc4 xc1 xc2 xc4 HT0 hzz HW2
    unfold Sv.box at F1 KC3 y0 y1 y2 y3 y4 y5
    have hz : Sv.zero = ⟨0, false, 0, ⟨#[]⟩, none, 0, 0, none, 0, 0, .nil, []⟩ := rfl
    rw [hz] at F1 KC3 y0 y1 y2 y3 y4 y5
    dsimp only at F1 KC3 y0 y1 y2 y3 y4 y5
    clear hz
    unfold Sv.val
    go_enter Tryz.func20, Tryz.ntmps20
    go_upto_region 2 with (at_builtin; refine wpList_append_new _ rfl _ _ 23 rfl 9 i0 _ 1 16 Tryz.underlying23 hi hz0 hz1 hz2 rfl (by decide) rfl s.A2 s.n2 s.c2 (s.keys.map Value.string) rfl KC1.out KC2.out KC3.out KC4.out (by unfold maxLen; omega) (by omega) ?_; intro v1 w1 ho1 hg1; have hq1 := F1.out v1 w1 ho1 hg1; clear ho1 hg1; obtain ⟨A2', c2', rfl, z5, f5, HQ1⟩ := hq1)
    obtain ⟨p1, p2, p3, p4, p5, p6, p7⟩ := HQ1.out
    have q4 := svSet5 p4 A2' s.n2 c2'
    have q5 : (w1.setCell ⟨w.heap.size, 5, none⟩ (.slice A2' s.n2 c2')).heap[w.heap.size + 1]? = some Sv.zero.box := (Below.heap_setCell _ _ _ _ (by simp)).trans p5
    have q6 : Below w.heap.size w (w1.setCell ⟨w.heap.size, 5, none⟩ (.slice A2' s.n2 c2')) := p6.setCell (p := ⟨w.heap.size, 5, none⟩) (Nat.le_refl _) _
    have qs : (w1.setCell ⟨w.heap.size, 5, none⟩ (.slice A2' s.n2 c2')).heap.size = w1.heap.size := by simp
    have q3 : KeysP (w1.setCell ⟨w.heap.size, 5, none⟩ (.slice A2' s.n2 c2')) (fun b => w.heap.size + 2 ≤ b ∧ b < (w1.setCell ⟨w.heap.size, 5, none⟩ (.slice A2' s.n2 c2')).heap.size) s.keys A2' s.n2 :=
      p3.keep (fun x hx => World.cell?_of_block (Below.heap_setCell _ _ _ _ (by have := hx.1; show x.block ≠ w.heap.size; omega))) (fun b h => ⟨h.1, by rw [qs]; exact h.2⟩)
    clear HQ1 F1 KC1 KC2 KC3 KC4 z5 f5 p4 p5 p6 p3 y0 y1 y2 y3 y4 y5
    generalize w1.setCell ⟨w.heap.size, 5, none⟩ (.slice A2' s.n2 c2') = wp at q3 q4 q5 q6 qs ⊢
    have q7 : w.heap.size + 2 ≤ wp.heap.size := by omega
    have F3 := Lib.hid (F2.out A2' c2' wp q3 q4 q5 q6 q7 xs XC1.out xc5)
    have HP := Lib.hid (And.intro p1 p2)
    have hxc : ∀ ad, s.A1 = some ad → ∀ j u, xs[j]? = some u → wp.cell? (ad.add j) = some u := by
      intro ad had j u hu
      have h := xc3 ad had j u hu
      rw [← h]
      obtain ⟨b, o, e, hb⟩ := HS.out.at_.base (by
        rcases Nat.eq_zero_or_pos s.n1 with h0 | h0
        · have := XC1.out; rw [h0] at this; rw [List.eq_nil_of_length_eq_zero (by omega : xs.length = 0)] at hu; simp at hu
        · exact h0)
      rw [e] at had
      cases had
      refine q6.cell ?_
      rw [Addr.add_mid]
      exact hb
    have XC3 := Lib.hid hxc
    obtain ⟨y0, y1, y2, y3, y4, y5⟩ := svCells q4
    dsimp only at y0 y1 y2 y3 y4 y5
    clear hxc xc3 xc5 F2 q3 q4 q5 q6 qs p1 p2 p7
    go_upto_region 3 with (at_builtin; refine wpList_append_new _ rfl _ _ 22 rfl 25 j0 _ 6 88 Tryz.underlying22 hj hj0 hj1 hj2 rfl (by decide) rfl s.A1 s.n1 s.c1 xs rfl XC1.out XC2.out XC3.out XC4.out (by unfold maxLen; omega) (by omega) ?_; intro v1 w2 ho1 hg1; have hq1 := F3.out v1 w2 ho1 hg1; clear ho1 hg1; obtain ⟨A1', c1', rfl, z4, f4, HQ2⟩ := hq1)
    obtain ⟨p1, p2, p3, p4, p5, p6, p7, p8⟩ := HQ2.out
    have q4 := svSet4 p4 A1' s.n1 c1'
    dsimp only at q4
    have qs : (w2.setCell ⟨w.heap.size, 4, none⟩ (.slice A1' s.n1 c1')).heap.size = w2.heap.size := by simp
    have qk : ∀ b, b ≠ w.heap.size → (w2.setCell ⟨w.heap.size, 4, none⟩ (.slice A1' s.n1 c1')).heap[b]? = w2.heap[b]? := fun b hb => Below.heap_setCell _ _ _ _ hb
    have q5 := (qk (w.heap.size + 1) (by simp)).trans p5
    have q6 : Below w.heap.size w (w2.setCell ⟨w.heap.size, 4, none⟩ (.slice A1' s.n1 c1')) := p6.setCell (p := ⟨w.heap.size, 4, none⟩) (Nat.le_refl _) _
    have q3 : KeysP (w2.setCell ⟨w.heap.size, 4, none⟩ (.slice A1' s.n1 c1')) (fun b => w.heap.size + 2 ≤ b ∧ b < wp.heap.size) s.keys A2' s.n2 :=
      p3.keep (fun x hx => World.cell?_of_block (qk _ (by have := hx.1; omega))) (fun b h => h)
    have q8 : s.n1 = 0 ∨ ∃ g, A1' = some ⟨g, 0, none⟩ ∧ wp.heap.size ≤ g ∧ g < w2.heap.size ∧ (w2.setCell ⟨w.heap.size, 4, none⟩ (.slice A1' s.n1 c1')).there g 0 (s.n1 * 6) ∧ ∀ j, j < s.n1 → ElV (w2.setCell ⟨w.heap.size, 4, none⟩ (.slice A1' s.n1 c1')) (fun b => b < w.heap.size) g (0 + j * 6) (s.items.drop j) := by
      rcases p8 with h | ⟨g, h1, h2, h3, h4, h5⟩
      · exact .inl h
      · refine .inr ⟨g, h1, h2, h3, fun j hj => ?_, fun j hj => (h5 j hj).keep (fun q _ => World.cell?_of_block (qk _ (by show g ≠ _; omega))) (fun x hx => World.cell?_of_block (qk _ (by omega))) (fun b hb => hb)⟩
        rw [World.cell?_of_block (w := w2) (qk g (by omega)), World.frozen?_of_block (w := w2) (qk g (by omega))]
        exact h4 j hj
    clear HQ2 F3 XC1 XC2 XC3 XC4 z4 f4 p4 p5 p6 p3 p8 qk y0 y1 y2 y3 y4 y5
    generalize w2.setCell ⟨w.heap.size, 4, none⟩ (.slice A1' s.n1 c1') = w3 at q3 q4 q5 q6 qs q8 ⊢
    rw [← qs] at q8 p7
    clear qs
    have HP2 := Lib.hid (And.intro p1 p2)
    have HQ3 := Lib.hid q3
    have HQ4 := Lib.hid q4
    have HQ5 := Lib.hid q5
    have HQ6 := Lib.hid q6
    have HSZ := Lib.hid (show w.heap.size + 2 ≤ w3.heap.size by omega)
    have HSP := Lib.hid p7
    obtain ⟨y0, y1, y2, y3, y4, y5⟩ := svCells q4
    dsimp only at y0 y1 y2 y3 y4 y5
    clear q3 q4 q5 q6 p1 p2 p7
    rcases q8 with h0 | ⟨g, rfl, hg1, hg2, hth, hel⟩
    · have hn0 : ¬ (0 : Int) < (s.n1 : Int) := by omega
      have hvp : (Sv.mk s.k s.bo s.i s.t A1' s.n1 c1' A2' s.n2 c2' s.items s.keys).okP w3 (fun b => w.heap.size + 2 ≤ b ∧ b < w3.heap.size) := by
        have hss := HS.out
        refine ⟨HP2.out.1, HP2.out.2, HP.out.1, HP.out.2, hss.kwf, hss.iwf, hss.ts, ?_, HQ3.out.keep (fun _ _ => rfl) (fun b h => ⟨h.1, Nat.lt_of_lt_of_le h.2 HSP.out⟩)⟩
        show s.items.AtP w3 _ A1' s.n1
        have h0' := hss.at_.len_eq
        rw [h0]
        cases hit : s.items with
        | nil => exact rfl
        | cons => rw [hit] at h0'; simp only [Vals.len] at h0'; omega
      obtain ⟨w4, hw4⟩ : ∃ w4, w3.setCells (w.heap.size + 1) 0 (#[Value.int .i64 s.k, .bool s.bo, .int .i64 s.i, .string s.t, .slice A1' s.n1 c1', .slice A2' s.n2 c2'] : Array Value).toList = w4 := ⟨_, rfl⟩
      obtain ⟨e1, e2, e3⟩ := clone_end _ w w3 HSZ.out HQ6.out HQ5.out hvp w4 hw4
      have HE := Lib.hid (And.intro e1 (And.intro e2 e3))
      have HW4 := Lib.hid hw4
      have HT := Lib.hid (svThere HQ5.out)
      clear hvp hw4 e1 e2 e3 h0
      go_wp2_with fail
      go_loopw [3, 4, 16] (fun _ _ i wr => i = .int .i64 0 ∧ wr = w3) (fun _ _ _ _ => 0)
      case atStart => exact ⟨rfl, rfl⟩
      case round =>
        obtain ⟨rfl, rfl⟩ := hrel
        go_upto_region 8 with (fail)
        go_wp2_with (refine wpList_store_mid rfl 25 (.tmp 2) (.tmp 28) rfl (w.heap.size + 1) 0 #[Value.int .i64 s.k, .bool s.bo, .int .i64 s.i, .string s.t, .slice A1' s.n1 c1', .slice A2' s.n2 c2'] rfl rfl HT.out sv_size (by simp [Value.oneCell']) ?_; rw [HW4.out])
        refine bodyPost_ret (v := (Sv.mk s.k s.bo s.i s.t A1' s.n1 c1' A2' s.n2 c2' s.items s.keys).val) ?_ rfl ⟨_, rfl, rfl, HE.out.2.1, HE.out.2.2⟩
        exact svRes1 rfl _ _ (w.heap.size + 1) _ rfl HE.out.1
    · have HEL := Lib.hid hel
      have HTH := Lib.hid hth
      clear hel hth
      go_wp2_with fail
      go_loopw [3, 4, 16] (fun _ _ i wr => ∃ kk : Nat, kk ≤ s.n1 ∧ i = .int .i64 kk ∧ Below w.heap.size w wr ∧ wr.heap[w.heap.size]? = some (Sv.mk s.k s.bo s.i s.t (some ⟨g, 0, none⟩) s.n1 c1' A2' s.n2 c2' s.items s.keys).box ∧ wr.heap[w.heap.size + 1]? = some Sv.zero.box ∧
          KeysP wr (fun b => w.heap.size + 2 ≤ b ∧ b < wp.heap.size) s.keys A2' s.n2 ∧ g < wr.heap.size ∧ wr.there g 0 (s.n1 * 6) ∧ (∀ j, j < kk → ElV wr (fun b => w.heap.size + 2 ≤ b ∧ b ≠ g ∧ b < wr.heap.size) g (0 + j * 6) (s.items.drop j)) ∧ (∀ j, kk ≤ j → j < s.n1 → ElV wr (fun b => b < w.heap.size) g (0 + j * 6) (s.items.drop j))) (fun _ _ i _ => s.n1 - (intOf i).toNat)
      case atStart => exact ⟨0, Nat.zero_le _, rfl, HQ6.out, HQ4.out, HQ5.out, HQ3.out, hg2, HTH.out, fun j hj => absurd hj (Nat.not_lt_zero _), fun j _ hj => HEL.out j hj⟩
      case round =>
        obtain ⟨kk, hkk, rfl, hbw, hb0, hb1, hky, hgr, hthr, hdone, htodo⟩ := hrel
        clear HQ3 HQ4 HQ5 HQ6 HEL HTH HSZ
        have HBW := Lib.hid hbw
        have HB0 := Lib.hid hb0
        have HB1 := Lib.hid hb1
        have HKY := Lib.hid hky
        have HTHR := Lib.hid hthr
        have HDONE := Lib.hid hdone
        have HTODO := Lib.hid htodo
        clear y0 y1 y2 y3 y4 y5
        obtain ⟨y0, y1, y2, y3, y4, y5⟩ := svCells hb0
        dsimp only at y0 y1 y2 y3 y4 y5
        clear hbw hb0 hb1 hky hthr hdone htodo
        by_cases hlt : kk < s.n1
        · have hek := HTODO.out kk (Nat.le_refl _) hlt
          obtain ⟨k1, bo1, i1, t1, it, ks, r, hd⟩ : ∃ k1 bo1 i1 t1 it ks r, s.items.drop kk = .cons k1 bo1 i1 t1 it ks r := by
            cases hd : s.items.drop kk with
            | nil => rw [hd] at hek; exact hek.elim
            | cons k1 bo1 i1 t1 it ks r => exact ⟨k1, bo1, i1, t1, it, ks, r, rfl⟩
          rw [hd] at hek
          obtain ⟨B1, m1, d1, B2, m2, d2, hr, hv⟩ := hek
          have HV := Lib.hid (VP.to_ok hv)
          have x0 := hr 0 _ rfl
          have x1 := hr 1 _ rfl
          have x2 := hr 2 _ rfl
          have x3 := hr 3 _ rfl
          have x4 := hr 4 _ rfl
          have x5 := hr 5 _ rfl
          simp only [Nat.zero_add, Nat.add_zero] at x0 x1 x2 x3 x4 x5
          have hnd := Vals.nodes_drop kk s.items
          rw [hd] at hnd
          simp only [Vals.nodes] at hnd
          have hfe : Fine (Sv.mk k1 bo1 i1 t1 B1 m1 d1 B2 m2 d2 it ks).row 1099511627776 := by
            have h1 := err_one kk s.items (valErr_of HFI.out.err).2.1
            rw [Vals.one_drop kk s.items hd] at h1
            refine ⟨h1, ?_⟩
            have h2 := HFI.out.many
            simp only [Sv.row, Vals.nodes] at h2 ⊢
            omega
          have HD := Lib.hid hd
          have hit : it.nodes < s.items.nodes := by omega
          clear hr hv hd hnd
          obtain ⟨o, ho⟩ : ∃ o, o = (Sv.mk k1 bo1 i1 t1 B1 m1 d1 B2 m2 d2 it ks).box := ⟨_, rfl⟩
          have hi0 : Below (wr.heap.size + 1) (wr.alloc o) (wr.alloc o) := Below.refl _ _
          have hn0 : (wr.alloc o).heap[wr.heap.size]? = some (Sv.mk k1 bo1 i1 t1 B1 m1 d1 B2 m2 d2 it ks).box := by rw [ho]; exact svNew wr _
          have hwo : Below wr.heap.size wr (wr.alloc o) := (Below.refl _ _).alloc (Nat.le_refl _) o
          have hzo : (wr.alloc o).heap.size = wr.heap.size + 1 := by simp
          have hcall : ∀ wX, Below (wr.heap.size + 1) (wr.alloc o) wX → Calls Tryz.prog 20 #[(Sv.mk k1 bo1 i1 t1 B1 m1 d1 B2 m2 d2 it ks).val] wX (CloneV (Sv.mk k1 bo1 i1 t1 B1 m1 d1 B2 m2 d2 it ks) wX) := fun wX hX => by
            have hbX : Below wr.heap.size wr wX := hwo.trans (hX.mono (by omega))
            have h1 := HBW.out.size
            exact IH.out (Sv.mk k1 bo1 i1 t1 B1 m1 d1 B2 m2 d2 it ks) wX hit hfe (VOk.more (Nat.le_trans h1 hbX.size) (VOk.below (hbX.mono h1) HV.out))
          have HC := Lib.hid hcall
          have HWO := Lib.hid hwo
          have HZO := Lib.hid hzo
          obtain ⟨z0, z1, z2, z3, z4, z5⟩ := svCells hn0
          have y4a := (hwo.cell (p := ⟨w.heap.size, 4, none⟩) (show w.heap.size < wr.heap.size by omega)).trans y4
          have HI0 := Lib.hid hi0
          clear hcall hfe hit hwo hzo hi0 hn0
          unfold Sv.box at ho
          dsimp only at ho z0 z1 z2 z3 z4 z5
          subst ho
          unfold Sv.val at HC
          dsimp only at HC
          have hyy : ∀ wX, Below (wr.heap.size + 1) (wr.alloc (Obj.cells #[.int .i64 k1, .bool bo1, .int .i64 i1, .string t1, .slice B1 m1 d1, .slice B2 m2 d2] 25)) wX → wX.cell? ⟨w.heap.size, 4, none⟩ = some (.slice (some ⟨g, 0, none⟩) s.n1 c1') := fun wX hX => (hX.cell (p := ⟨w.heap.size, 4, none⟩) (show w.heap.size < wr.heap.size + 1 by omega)).trans y4a
          have hzz : ∀ wX, Below (wr.heap.size + 1) (wr.alloc (Obj.cells #[.int .i64 k1, .bool bo1, .int .i64 i1, .string t1, .slice B1 m1 d1, .slice B2 m2 d2] 25)) wX → wX.heap[wr.heap.size]? = some (Sv.mk k1 bo1 i1 t1 B1 m1 d1 B2 m2 d2 it ks).box := fun wX hX => (hX.block wr.heap.size (by omega)).trans (svNew wr (Sv.mk k1 bo1 i1 t1 B1 m1 d1 B2 m2 d2 it ks))
          have hpost : ∀ wX, Below (wr.heap.size + 1) (wr.alloc (Obj.cells #[.int .i64 k1, .bool bo1, .int .i64 i1, .string t1, .slice B1 m1 d1, .slice B2 m2 d2] 25)) wX → Calls Tryz.prog 20 #[.agg #[.int .i64 k1, .bool bo1, .int .i64 i1, .string t1, .slice B1 m1 d1, .slice B2 m2 d2]] wX fun e w' =>
              (∃ a : Sv, e = .returned (.agg #[.int .i64 a.k, .bool a.bo, .int .i64 a.i, .string a.t, .slice a.A1 a.n1 a.c1, .slice a.A2 a.n2 a.c2]) ∧ Hid (a.row = (Sv.mk k1 bo1 i1 t1 B1 m1 d1 B2 m2 d2 it ks).row) ∧ Hid (a.okP w' (fun b => wr.heap.size + 1 ≤ b ∧ b < w'.heap.size))) ∧ Hid (Below (wr.heap.size + 1) (wr.alloc (Obj.cells #[.int .i64 k1, .bool bo1, .int .i64 i1, .string t1, .slice B1 m1 d1, .slice B2 m2 d2] 25)) w') ∧
              w'.cell? ⟨w.heap.size, 4, none⟩ = some (.slice (some ⟨g, 0, none⟩) s.n1 c1') ∧ w'.cell? ⟨wr.heap.size, 0, none⟩ = some (.int .i64 k1) ∧ w'.cell? ⟨wr.heap.size, 1, none⟩ = some (.bool bo1) ∧ w'.cell? ⟨wr.heap.size, 2, none⟩ = some (.int .i64 i1) ∧ w'.cell? ⟨wr.heap.size, 3, none⟩ = some (.string t1) ∧ w'.cell? ⟨wr.heap.size, 4, none⟩ = some (.slice B1 m1 d1) ∧ (w'.cell? ⟨wr.heap.size, 5, none⟩ = some (.slice B2 m2 d2) ∧ w'.cell? ⟨g, kk * 6, none⟩ = some (.int .i64 k1) ∧ w'.cell? ⟨g, kk * 6 + 1, none⟩ = some (.bool bo1) ∧ w'.cell? ⟨g, kk * 6 + 2, none⟩ = some (.int .i64 i1) ∧ w'.cell? ⟨g, kk * 6 + 3, none⟩ = some (.string t1) ∧ w'.cell? ⟨g, kk * 6 + 4, none⟩ = some (.slice B1 m1 d1) ∧ w'.cell? ⟨g, kk * 6 + 5, none⟩ = some (.slice B2 m2 d2) ∧ w'.frozen? ⟨g, kk * 6, none⟩ = false ∧ w'.frozen? ⟨g, kk * 6 + 1, none⟩ = false ∧ w'.frozen? ⟨g, kk * 6 + 2, none⟩ = false ∧ w'.frozen? ⟨g, kk * 6 + 3, none⟩ = false ∧ w'.frozen? ⟨g, kk * 6 + 4, none⟩ = false ∧ w'.frozen? ⟨g, kk * 6 + 5, none⟩ = false) := fun wX hX => by
            refine (HC.out wX hX).mono ?_
            rintro e w' ⟨a, rfl, hrow, hok, hb⟩
            have hsX := hX.size
            rw [HZO.out] at hsX
            have hb' := hX.trans (hb.mono hsX)
            obtain ⟨b0, b1, b2, b3, b4, b5⟩ := svCells (hzz _ hb')
            have cg : ∀ q, w'.cell? ⟨g, q, none⟩ = wr.cell? ⟨g, q, none⟩ := fun q => (hb'.cell (p := ⟨g, q, none⟩) (show g < wr.heap.size + 1 by omega)).trans (HWO.out.cell (p := ⟨g, q, none⟩) hgr)
            have fg : ∀ q, q < 6 → w'.frozen? ⟨g, kk * 6 + q, none⟩ = false := fun q hq => by
              have h1 := (hb'.frozen (p := ⟨g, kk * 6 + q, none⟩) (show g < wr.heap.size + 1 by omega)).trans (HWO.out.frozen (p := ⟨g, kk * 6 + q, none⟩) hgr)
              have h2 := (HTHR.out (kk * 6 + q) (by omega)).2
              rw [Nat.zero_add] at h2
              exact h1.trans h2
            exact ⟨⟨a, rfl, Lib.hid hrow, Lib.hid (hok.keep (fun _ _ => rfl) (fun b h => ⟨by omega, h.2⟩))⟩, Lib.hid hb', hyy _ hb', b0, b1, b2, b3, b4, b5, (cg _).trans x0, (cg _).trans x1, (cg _).trans x2, (cg _).trans x3, (cg _).trans x4, (cg _).trans x5, fg 0 (by omega), fg 1 (by omega), fg 2 (by omega), fg 3 (by omega), fg 4 (by omega), fg 5 (by omega)⟩
          have HPOST := Lib.hid hpost
          clear hyy hzz hpost HC
          go_upto_region 6 with (fail)
          have hi1 := HI0.out
          have hng0 : g ≠ w.heap.size := by omega
          have hng1 : g ≠ wr.heap.size := by omega
          go_region_held3 (fun w' => w'.cell? ⟨w.heap.size, 4, none⟩ = some (.slice (some ⟨g, 0, none⟩) s.n1 c1') ∧ w'.cell? ⟨wr.heap.size, 0, none⟩ = some (.int .i64 k1) ∧ w'.cell? ⟨wr.heap.size, 1, none⟩ = some (.bool bo1) ∧ w'.cell? ⟨wr.heap.size, 2, none⟩ = some (.int .i64 i1) ∧ w'.cell? ⟨wr.heap.size, 3, none⟩ = some (.string t1) ∧ w'.cell? ⟨wr.heap.size, 4, none⟩ = some (.slice B1 m1 d1) ∧ w'.cell? ⟨wr.heap.size, 5, none⟩ = some (.slice B2 m2 d2))
            (first
              | ((repeat (with_reducible refine keep7 hng0 hng1 ?_)); with_reducible exact ⟨u6, u0, u1, u2, u3, u4', u5⟩)
              | exact ⟨y4a, z0, z1, z2, z3, z4, z5⟩)
            ((go_at_call 20; with_reducible refine Calls.mono (HPOST.out _ (by exact hi1.drew)) ?_; rintro e w5 ⟨⟨a, rfl, HROW, HOKA⟩, HB5, u6, u0, u1, u2, u3, u4', u5, c0, c1, c2, c3, c4, c5, f0, f1, f2, f3, f4, f5⟩))
          have hwc : (((((w5.setCell ⟨g, kk * 6, none⟩ (.int .i64 a.k)).setCell ⟨g, kk * 6 + 1, none⟩ (.bool a.bo)).setCell ⟨g, kk * 6 + 2, none⟩ (.int .i64 a.i)).setCell ⟨g, kk * 6 + 3, none⟩ (.string a.t)).setCell ⟨g, kk * 6 + 4, none⟩ (.slice a.A1 a.n1 a.c1)).setCell ⟨g, kk * 6 + 5, none⟩ (.slice a.A2 a.n2 a.c2) = w5.setCells g (kk * 6) (vCells a.k a.bo a.i a.t a.A1 a.n1 a.c1 a.A2 a.n2 a.c2) := rfl
          rw [hwc]
          clear hwc c0 c1 c2 c3 c4 c5 f0 f1 f2 f3 f4 f5 u6 u0 u1 u2 u3 u4' u5
          have hb5 := HB5.out
          have hs5 := hb5.size
          rw [HZO.out] at hs5
          have hbw5 : Below wr.heap.size wr w5 := HWO.out.trans (hb5.mono (by omega))
          have ht5 : w5.there g 0 (s.n1 * 6) := there_below HTHR.out hbw5 hgr
          have htk : w5.there g (kk * 6) 6 := fun q hq => by
            have := ht5 (kk * 6 + q) (by omega)
            rwa [Nat.zero_add] at this
          obtain ⟨w6, hw6⟩ : ∃ w6, w5.setCells g (kk * 6) (vCells a.k a.bo a.i a.t a.A1 a.n1 a.c1 a.A2 a.n2 a.c2) = w6 := ⟨_, rfl⟩
          have hs6 : w6.heap.size = w5.heap.size := by rw [← hw6]; exact size_setCells' _ _ _ _
          have hout : ∀ x : Addr, (x.block = g → x.off < kk * 6 ∨ kk * 6 + 6 ≤ x.off) → w6.cell? x = w5.cell? x := fun x hx => by
            rw [← hw6]; exact World.cell?_setCells_out _ _ _ _ _ (fun hb _ => hx hb)
          have hblk : ∀ b, b ≠ g → w6.heap[b]? = w5.heap[b]? := fun b hb => by rw [← hw6]; exact heap_setCells' _ _ _ _ _ hb
          have hrg : w6.rangeAt g (kk * 6) (vCells a.k a.bo a.i a.t a.A1 a.n1 a.c1 a.A2 a.n2 a.c2) := by rw [← hw6]; exact World.rangeAt_setCells_same w5 _ _ _ htk
          have hd := HD.out
          have hrow := row_cons (k := k1) (bo := bo1) (i := i1) (t := t1) (it := it) (ks := ks) HROW.out
          have hel6 : ∀ j, j < kk + 1 → ElV w6 (fun b => w.heap.size + 2 ≤ b ∧ b ≠ g ∧ b < w6.heap.size) g (0 + j * 6) (s.items.drop j) := by
            intro j hj
            by_cases hjk : j = kk
            · subst hjk
              rw [hd, Nat.zero_add]
              obtain ⟨e1, e2, e3, e4, e5, e6⟩ := hrow
              have hok := HOKA.out
              unfold Sv.okP at hok
              rw [e1, e3, e4, e5, e6] at hok
              rw [e1, e2, e3, e4] at hrg
              refine ⟨a.A1, a.n1, a.c1, a.A2, a.n2, a.c2, hrg, hok.keep (fun x hx => hout x (fun h => by have := hx.1; omega)) (fun b hb => ⟨by have := hb.1; omega, by have := hb.1; omega, by rw [hs6]; exact hb.2⟩)⟩
            · refine (HDONE.out j (by omega)).keep (fun q hq => (hout _ (fun _ => .inl (show 0 + j * 6 + q < kk * 6 by omega))).trans (hbw5.cell (p := ⟨g, 0 + j * 6 + q, none⟩) hgr)) (fun x hx => (hout x (fun h => absurd h hx.2.1)).trans (hbw5.cell hx.2.2)) (fun b hb => ⟨hb.1, hb.2.1, by have := hb.2.2; omega⟩)
          have hto6 : ∀ j, kk + 1 ≤ j → j < s.n1 → ElV w6 (fun b => b < w.heap.size) g (0 + j * 6) (s.items.drop j) := fun j hj1 hj2 =>
            (HTODO.out j (by omega) hj2).keep (fun q hq => (hout _ (fun _ => .inr (show kk * 6 + 6 ≤ 0 + j * 6 + q by omega))).trans (hbw5.cell (p := ⟨g, 0 + j * 6 + q, none⟩) hgr)) (fun x hx => (hout x (fun h => by omega)).trans (hbw5.cell (show x.block < wr.heap.size by omega))) (fun b hb => hb)
          have hky6 : KeysP w6 (fun b => w.heap.size + 2 ≤ b ∧ b < wp.heap.size) s.keys A2' s.n2 :=
            HKY.out.keep (fun x hx => (hout x (fun h => by have := hx.2; omega)).trans (hbw5.cell (show x.block < wr.heap.size by have := hx.2; omega))) (fun b h => h)
          have hth6 : w6.there g 0 (s.n1 * 6) := by rw [← hw6]; exact World.there_setCells ht5 _ _ _
          have hb6 : Below w.heap.size w w6 := by
            rw [← hw6]; exact below_setCells' (by omega) _ _ (HBW.out.trans (hbw5.mono (by omega)))
          have h06 := (hblk w.heap.size (by omega)).trans ((hbw5.block w.heap.size (by omega)).trans HB0.out)
          have h16 := (hblk (w.heap.size + 1) (by omega)).trans ((hbw5.block (w.heap.size + 1) (by omega)).trans HB1.out)
          have hg6 : g < w6.heap.size := by omega
          rw [hw6]
          have HREL := Lib.hid (And.intro hb6 (And.intro h06 (And.intro h16 (And.intro hky6 (And.intro hg6 (And.intro hth6 (And.intro hel6 hto6)))))))
          clear hb6 h06 h16 hky6 hg6 hth6 hel6 hto6 hrow hd hrg hblk hout hs6 hw6 htk ht5 hbw5 hs5 hb5 x0 x1 x2 x3 x4 x5 y0 y1 y2 y3 y4 y5 z0 z1 z2 z3 z4 z5 y4a hi1
          go_wp2_with fail
          go_roundw
          case rel =>
            obtain ⟨g1, g2, g3, g4, g5, g6, g7, g8⟩ := HREL.out
            exact ⟨kk + 1, by omega, by go_num, g1, g2, g3, g4, g5, g6, g7, g8⟩
          case measure => simp [intOf]; omega
        · obtain rfl : kk = s.n1 := by omega
          have hss := HS.out
          have hal : s.items.AtP wr (fun b => w.heap.size + 2 ≤ b ∧ b < wr.heap.size) (some ⟨g, 0, none⟩) s.n1 := by
            have := Vals.AtP.of_els (w := wr) (p := fun b => w.heap.size + 2 ≤ b ∧ b ≠ g ∧ b < wr.heap.size) (q := fun b => w.heap.size + 2 ≤ b ∧ b < wr.heap.size) (g := g) ⟨by omega, hgr⟩ (fun b hb => ⟨hb.1, hb.2.2⟩) s.items 0 (fun j hj => HDONE.out j (by rw [hss.at_.len_eq]; exact hj))
            rw [← hss.at_.len_eq] at this
            exact this
          have hvp : (Sv.mk s.k s.bo s.i s.t (some ⟨g, 0, none⟩) s.n1 c1' A2' s.n2 c2' s.items s.keys).okP wr (fun b => w.heap.size + 2 ≤ b ∧ b < wr.heap.size) :=
            ⟨HP2.out.1, HP2.out.2, HP.out.1, HP.out.2, hss.kwf, hss.iwf, hss.ts, hal, HKY.out.keep (fun _ _ => rfl) (fun b h => ⟨h.1, by have := h.2; omega⟩)⟩
          obtain ⟨w4, hw4⟩ : ∃ w4, wr.setCells (w.heap.size + 1) 0 (#[Value.int .i64 s.k, .bool s.bo, .int .i64 s.i, .string s.t, .slice (some ⟨g, 0, none⟩) s.n1 c1', .slice A2' s.n2 c2'] : Array Value).toList = w4 := ⟨_, rfl⟩
          obtain ⟨e1, e2, e3⟩ := clone_end _ w wr (by omega) HBW.out HB1.out hvp w4 hw4
          have HE := Lib.hid (And.intro e1 (And.intro e2 e3))
          have HW4 := Lib.hid hw4
          have HT := Lib.hid (svThere HB1.out)
          clear hvp hw4 e1 e2 e3 hal hss
          go_upto_region 8 with (fail)
          go_wp2_with (refine wpList_store_mid rfl 25 (.tmp 2) (.tmp 28) rfl (w.heap.size + 1) 0 #[Value.int .i64 s.k, .bool s.bo, .int .i64 s.i, .string s.t, .slice (some ⟨g, 0, none⟩) s.n1 c1', .slice A2' s.n2 c2'] rfl rfl HT.out sv_size (by simp [Value.oneCell']) ?_; rw [HW4.out])
          refine bodyPost_ret (v := (Sv.mk s.k s.bo s.i s.t (some ⟨g, 0, none⟩) s.n1 c1' A2' s.n2 c2' s.items s.keys).val) ?_ rfl ⟨_, rfl, rfl, HE.out.2.1, HE.out.2.2⟩
          exact svRes1 rfl _ _ (w.heap.size + 1) _ rfl HE.out.1
theorem cloneV_any (N : Nat) : ∀ (s : Sv) (w : World), s.items.nodes < N → Fine s.row 1099511627776 → s.okB w w.heap.size → Calls Tryz.prog 20 #[s.val] w (CloneV s w) := by
  induction N with
  | zero => intro s w h; omega
  | succ N ih => exact fun s w hN hf hs => cloneV_gen s w (fun e wX h => ih e wX (by omega)) hf hs
end Go.Proofs.YtohkdckllmmfhaaGreatDoor
