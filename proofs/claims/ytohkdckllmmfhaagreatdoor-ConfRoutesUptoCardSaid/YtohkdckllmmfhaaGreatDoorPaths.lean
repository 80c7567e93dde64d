/- DERIVED. What longer, partTo and the reference's Route and PartOf return. Condition: of partTo and PartOf that the library's table of powers of ten is as the program's text lays it. -/
import Derived.Test.YtohkdckllmmfhaaGreatDoorFind
import Derived.Lib.AppendIntMem
namespace Go.Proofs.YtohkdckllmmfhaaGreatDoor
open Go.RowKit
set_option linter.unusedVariables false
def PowT (B : Nat) (w : World) : Prop := Lib.TabBelow Tryz.prog B w "internal/strconv.uint64pow10" .u64 Lib.pow10Tab
/-- A route with one more part. -/
def dotJ (r p : ByteArray) : ByteArray := if r = ⟨#[]⟩ then p else r ++ ⟨#[46]⟩ ++ p
/-- The part that leads to item j. -/
def partV (k : Int) (ks : List ByteArray) (j : Nat) : ByteArray := if k = 6 then ks.getD j ⟨#[]⟩ else ⟨(Lib.itoa (j : Int)).toArray⟩
theorem size_pos {r : ByteArray} (h : ¬ r = ⟨#[]⟩) : 0 < r.size := by
  rcases Nat.eq_zero_or_pos r.size with h0 | h0
  · refine absurd (ByteArray.ext (Array.eq_empty_of_size_eq_zero ?_)) h
    exact h0
  · exact h0
set_option maxRecDepth 100000 in
theorem longer_any (r p : ByteArray) (w : World) (hr : r.size ≤ 1099511627776) (hp : p.size ≤ 1099511627776) :
    Calls Tryz.prog 68 #[.string r, .string p] w fun e w' => e = .returned (.string (dotJ r p)) ∧ w = w' := by
  unfold dotJ
  by_cases h : r = ⟨#[]⟩
  · rw [if_pos h]
    subst h
    go_enter Tryz.func68, Tryz.ntmps68
    go_wp2_with fail
    go_ret
    exact ⟨rfl, rfl⟩
  · rw [if_neg h]
    have hz : r.toList.isEmpty = false := isEmpty_ne (size_pos h)
    go_enter Tryz.func68, Tryz.ntmps68
    go_wp2_with fail
    go_ret
    exact ⟨rfl, rfl⟩
set_option maxRecDepth 100000 in
theorem longerR_any (r p : ByteArray) (w : World) (hr : r.size ≤ 1099511627776) (hp : p.size ≤ 1099511627776) :
    Calls Tryz.prog 70 #[.string r, .string p] w fun e w' => e = .returned (.string (dotJ r p)) ∧ w = w' := by
  unfold dotJ
  by_cases h : r = ⟨#[]⟩
  · rw [if_pos h]
    subst h
    go_enter Tryz.func70, Tryz.ntmps70
    go_wp2_with fail
    go_ret
    exact ⟨rfl, rfl⟩
  · rw [if_neg h]
    have hz : r.toList.isEmpty = false := isEmpty_ne (size_pos h)
    go_enter Tryz.func70, Tryz.ntmps70
    go_wp2_with fail
    go_ret
    exact ⟨rfl, rfl⟩
set_option maxRecDepth 100000 in
theorem partTo_any (s : Sv) (j : Nat) (w : World) (hs : s.okB w w.heap.size) (hj : j ≤ 1099511627776) (hk : s.k = 6 → j < s.keys.length) (hn : s.n2 ≤ 1099511627776) (ht : PowT w.heap.size w) :
    Calls Tryz.prog 69 #[s.val, .int .i64 j] w fun e w' => e = .returned (.string (partV s.k s.keys j)) ∧ Below w.heap.size w w' := by
  have HI := Lib.hid (Behind.start s w)
  obtain ⟨y0, y1, y2, y3, y4, y5⟩ := HI.out.cells
  unfold partV
  unfold Sv.box at y0 y1 y2 y3 y4 y5
  unfold Sv.val
  by_cases h6 : s.k = 6
  · rw [if_pos h6]
    obtain ⟨b, o, hA, hb, hc⟩ := hs.ks.2.2 (by have := hs.ks.1; have := hk h6; omega)
    have hg : s.keys[j]? = some (s.keys.getD j ⟨#[]⟩) := by rw [List.getElem?_eq_getElem (hk h6), List.getD_eq_getElem?_getD, List.getElem?_eq_getElem (hk h6)]; rfl
    have hcell := (((Below.refl w.heap.size w).alloc (Nat.le_refl _) s.box).cell (p := ⟨b, o + j, none⟩) hb).trans (hc j _ hg)
    have hjn : j < s.n2 := by have := hs.ks.1; have := hk h6; omega
    unfold Sv.box at hcell
    generalize s.keys.getD j ⟨#[]⟩ = key at hcell
    have HB := Lib.hid HI.out.old
    rw [hA] at y5 ⊢
    unfold Sv.box at HB
    rw [hA] at hcell HB
    rw [h6] at y0 hcell HB ⊢
    clear hs hk hc hg ht
    go_enter Tryz.func69, Tryz.ntmps69
    go_wp2_with fail
    go_ret
    exact ⟨rfl, HB.out⟩
  · rw [if_neg h6]
    have k1 : (s.k == 6) = false := by simpa using h6
    have HT := Lib.hid (Tryz.strconv_Itoa (j : Int) (by omega) (by omega) (w.alloc s.box) (ht _ ((Below.refl w.heap.size w).alloc (Nat.le_refl _) s.box)))
    unfold Sv.box at HT
    clear hs hk ht hn
    go_enter Tryz.func69, Tryz.ntmps69
    go_wp2_with fail
    refine HT.out.mono ?_
    rintro e w1 ⟨rfl, kk, os, hw⟩
    have hb1 : Below w.heap.size w w1 := by rw [hw]; exact (HI.out.call (Lib.below_grow _ _ (Nat.le_refl _) _ _)).old
    clear hw
    go_wp2_with fail
    go_ret
    exact ⟨rfl, hb1⟩
set_option maxRecDepth 100000 in
theorem partOf_any (s : Sv) (j : Nat) (w : World) (hs : s.okB w w.heap.size) (hj : j ≤ 1099511627776) (hk : s.k = 6 → j < s.keys.length) (hn : s.n2 ≤ 1099511627776) (ht : PowT w.heap.size w) :
    Calls Tryz.prog 71 #[s.val, .int .i64 j] w fun e w' => e = .returned (.string (partV s.k s.keys j)) ∧ Below w.heap.size w w' := by
  have HI := Lib.hid (Behind.start s w)
  obtain ⟨y0, y1, y2, y3, y4, y5⟩ := HI.out.cells
  unfold partV
  unfold Sv.box at y0 y1 y2 y3 y4 y5
  unfold Sv.val
  by_cases h6 : s.k = 6
  · rw [if_pos h6]
    obtain ⟨b, o, hA, hb, hc⟩ := hs.ks.2.2 (by have := hs.ks.1; have := hk h6; omega)
    have hg : s.keys[j]? = some (s.keys.getD j ⟨#[]⟩) := by rw [List.getElem?_eq_getElem (hk h6), List.getD_eq_getElem?_getD, List.getElem?_eq_getElem (hk h6)]; rfl
    have hcell := (((Below.refl w.heap.size w).alloc (Nat.le_refl _) s.box).cell (p := ⟨b, o + j, none⟩) hb).trans (hc j _ hg)
    have hjn : j < s.n2 := by have := hs.ks.1; have := hk h6; omega
    unfold Sv.box at hcell
    generalize s.keys.getD j ⟨#[]⟩ = key at hcell
    have HB := Lib.hid HI.out.old
    rw [hA] at y5 ⊢
    unfold Sv.box at HB
    rw [hA] at hcell HB
    rw [h6] at y0 hcell HB ⊢
    clear hs hk hc hg ht
    go_enter Tryz.func71, Tryz.ntmps71
    go_wp2_with fail
    go_ret
    exact ⟨rfl, HB.out⟩
  · rw [if_neg h6]
    have k1 : (s.k == 6) = false := by simpa using h6
    have HT := Lib.hid (Tryz.strconv_Itoa (j : Int) (by omega) (by omega) (w.alloc s.box) (ht _ ((Below.refl w.heap.size w).alloc (Nat.le_refl _) s.box)))
    unfold Sv.box at HT
    clear hs hk ht hn
    go_enter Tryz.func71, Tryz.ntmps71
    go_wp2_with fail
    refine HT.out.mono ?_
    rintro e w1 ⟨rfl, kk, os, hw⟩
    have hb1 : Below w.heap.size w w1 := by rw [hw]; exact (HI.out.call (Lib.below_grow _ _ (Nat.le_refl _) _ _)).old
    clear hw
    go_wp2_with fail
    go_ret
    exact ⟨rfl, hb1⟩
end Go.Proofs.YtohkdckllmmfhaaGreatDoor
