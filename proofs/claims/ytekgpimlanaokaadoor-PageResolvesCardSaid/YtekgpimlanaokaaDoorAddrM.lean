/- DERIVED. Addresses as lists of parts: when one is an address, and what is above it. -/
import Derived.Test.YtekgpimlanaokaaDoorAddrL
namespace Go.Proofs.YtekgpimlanaokaaDoor
set_option linter.unusedVariables false
open Go.RowKit
def tpl (p : List UInt8) : Bool := tpartB (bP p)
theorem mid_ext (m : List UInt8) : (bP (47 :: (m ++ [47]))).extract 1 ((bP (47 :: (m ++ [47]))).size - 1) = bP m := by
  apply ByteArray.ext
  apply Array.toList_inj.1
  rw [Lib.extract_data, bP_size]
  simp
theorem padB_mid (m : List UInt8) : padB (bP (47 :: (m ++ [47]))) = (decide (m.length + 2 ≤ 200) && (pieces m).all tpl) := by
  unfold padB taddrB
  have hz : (bP (47 :: (m ++ [47]))).size = m.length + 2 := by rw [bP_size]; simp
  have h1 : ((bP (47 :: (m ++ [47]))).toList == [47]) = false := by
    apply beq_eq_false_iff_ne.2
    intro e
    have := congrArg List.length e
    simp at this
  rw [mid_ext, hz, h1]
  unfold tpathB
  rw [tparts_eq, bP_size, List.all_map]
  have he : endsB (bP (47 :: (m ++ [47]))) = true := by
    unfold endsB
    rw [hz]
    simp
  rw [he]
  have hc : (tpartB ∘ bP) = tpl := rfl
  rw [hc]
  by_cases h0 : m = []
  · subst h0
    rfl
  · have hl : 0 < m.length := by cases m with
      | nil => exact absurd rfl h0
      | cons a b => simp
    rw [decide_eq_true (show 2 < m.length + 2 by omega)]
    by_cases h2 : m.length + 2 ≤ 200
    · rw [decide_eq_true h2, decide_eq_true (show m.length ≤ 200 by omega)]
      simp
    · rw [decide_eq_false h2]
      simp
theorem adr_mid {ps : List (List UInt8)} (h : ps ≠ []) : adr ps = 47 :: (inner ps ++ [47]) := by unfold adr; rw [flat_inner ps h]
theorem padB_adr (ps : List (List UInt8)) (hsf : ∀ p ∈ ps, (47 : UInt8) ∉ p) : padB (bP (adr ps)) = (decide ((adr ps).length ≤ 200) && ps.all tpl) := by
  by_cases h : ps = []
  · subst h
    show padB (bP [47]) = _
    unfold padB taddrB
    rw [show ((bP [47]).toList == [47]) = true by simp]
    rfl
  · have hl : (adr ps).length = (inner ps).length + 2 := by rw [adr_mid h]; simp
    rw [hl, adr_mid h, padB_mid, pieces_inner ps h hsf]
theorem padB_inv (s : ByteArray) (h : padB s = true) : ∃ ps, s = bP (adr ps) ∧ (∀ p ∈ ps, (47 : UInt8) ∉ p) ∧ ps.all tpl = true ∧ (adr ps).length ≤ 200 := by
  have hs := bP_of s
  obtain ⟨l, hl⟩ : ∃ l, s.data.toList = l := ⟨_, rfl⟩
  rw [hl] at hs
  subst hs
  by_cases h1 : l = [47]
  · subst h1
    exact ⟨[], rfl, by simp, rfl, by decide⟩
  · have h' := h
    unfold padB taddrB at h'
    have hne : ((bP l).toList == [47]) = false := by
      apply beq_eq_false_iff_ne.2
      intro e
      apply h1
      simpa using e
    rw [hne] at h'
    simp only [Bool.false_or, Bool.and_eq_true, decide_eq_true_eq] at h'
    obtain ⟨h200, ⟨h2, he⟩, _⟩ := h'
    unfold endsB at he
    rw [bP_size] at h2 he
    simp only [Bool.and_eq_true, decide_eq_true_eq] at he
    obtain ⟨e0, e1⟩ := he
    have hm : ∃ m, l = 47 :: (m ++ [47]) := by
      cases l with
      | nil => simp at h2
      | cons a r =>
        simp at e0
        subst e0
        have hr : r ≠ [] := fun e => by subst e; simp at h2
        have hlast : r.getLast? = some 47 := by
          rw [List.getLast?_eq_getElem?]
          have : (47 :: r).length - 1 = (r.length - 1) + 1 := by
            cases r with
            | nil => exact absurd rfl hr
            | cons b c => simp
          rw [this] at e1
          simpa using e1
        obtain ⟨ys, rfl⟩ := List.getLast?_eq_some_iff.1 hlast
        exact ⟨ys, rfl⟩
    obtain ⟨m, rfl⟩ := hm
    have ha : adr (pieces m) = 47 :: (m ++ [47]) := by unfold adr; rw [pieces_flat]
    have hsf := fun p hp => pieces_no m p hp
    rw [← ha] at h ⊢
    rw [padB_adr _ hsf, Bool.and_eq_true, decide_eq_true_eq] at h
    exact ⟨pieces m, rfl, hsf, h.2, h.1⟩
theorem adr_suffix (ps : List (List UInt8)) : Lib.hasSuffix (adr ps) [47] = true := by
  unfold Lib.hasSuffix
  apply List.isSuffixOf_iff_suffix.2
  by_cases h : ps = []
  · subst h; exact List.suffix_refl _
  · exact ⟨47 :: inner ps, by rw [adr_mid h]; rfl⟩
theorem adr_snoc (ps : List (List UInt8)) (p : List UInt8) : adr (ps ++ [p]) = adr ps ++ (p ++ [47]) := by unfold adr; rw [flat_snoc]; rfl
theorem adr_root (ps : List (List UInt8)) : ((bP (adr ps)).toList == [47]) = ps.isEmpty := by
  cases ps with
  | nil =>
    show ((bP [47]).toList == [47]) = true
    simp
  | cons a r =>
    apply beq_eq_false_iff_ne.2
    intro e
    have := congrArg List.length e
    simp [adr, flat] at this
theorem last_in (Z p : List UInt8) (hZ : Z.getLast? = some 47) (hp : (47 : UInt8) ∉ p) : Lib.lastIndexByte (bP (Z ++ p)) 47 = (Z.length : Int) - 1 := by
  have hZ0 : 0 < Z.length := by cases Z with
    | nil => simp at hZ
    | cons a b => simp
  rw [List.getLast?_eq_getElem?] at hZ
  have hget : ∀ j : Nat, j < (Z ++ p).length → (Z ++ p)[j]? = some ((bP (Z ++ p)).data[j]!) := fun j hj => by
    have := List.getElem?_eq_getElem hj
    simp only [List.getElem!_toArray]
    rw [List.getElem!_eq_getElem?_getD, this]
    rfl
  have hzz : (bP (Z ++ p)).size = Z.length + p.length := by rw [bP_size, List.length_append]
  have h47 : ((bP (Z ++ p)).data[Z.length - 1]!) = 47 := by
    have := hget (Z.length - 1) (by rw [List.length_append]; omega)
    rw [List.getElem?_append_left (by omega), hZ] at this
    exact (Option.some.inj this).symm
  rcases Lib.lastIndexByte_spec (bP (Z ++ p)) 47 with ⟨_, h⟩ | ⟨i, h1, h2, h3, h4⟩
  · exact absurd (by rw [h47]; rfl) (h (Z.length - 1) (by omega))
  · rw [h2]
    by_cases hi : i < Z.length - 1
    · exact absurd (by rw [h47]; rfl) (h4 (Z.length - 1) hi (by omega))
    · by_cases hi2 : i < Z.length
      · omega
      · have := hget i (by rw [List.length_append]; omega)
        rw [List.getElem?_append_right (by omega)] at this
        have hc : ((bP (Z ++ p)).data[i]!) = 47 := UInt8.toNat_inj.1 (by have : (((bP (Z ++ p)).data[i]!).toNat : Int) = 47 := h3; show _ = 47; omega)
        rw [hc] at this
        exact absurd (List.mem_of_getElem? this) hp
theorem adr_last (ps : List (List UInt8)) : (adr ps).getLast? = some 47 := by
  by_cases h : ps = []
  · subst h; rfl
  · rw [adr_mid h]
    show (47 :: inner ps ++ [47]).getLast? = _
    rw [List.getLast?_append]
    rfl
theorem upB_adr (ps : List (List UInt8)) (p : List UInt8) (hp : (47 : UInt8) ∉ p) : upB (bP (adr (ps ++ [p]))) = bP (adr ps) := by
  have hc : cutB (bP (adr (ps ++ [p]))) = bP (adr ps ++ p) := by
    unfold cutB
    rw [adr_snoc, ← List.append_assoc]
    apply ByteArray.ext
    apply Array.toList_inj.1
    rw [Lib.extract_data, bP_size]
    simp only [List.drop_zero, Nat.sub_zero]
    exact List.take_left' (by simp)
  unfold upB
  rw [hc, last_in _ _ (adr_last ps) hp, show (((adr ps).length : Int) - 1 + 1).toNat = (adr ps).length by omega, bP_ext0, List.take_left]
end Go.Proofs.YtekgpimlanaokaaDoor
