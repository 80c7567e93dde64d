/- DERIVED. page.above: an address without its last part. -/
import Derived.Test.YtekgpimlanaokaaDoorSplitMk
import Derived.Lib.LastIndexByte
namespace Go.Proofs.YtekgpimlanaokaaDoor
set_option linter.unusedVariables false
open Go.RowKit
/-- An address without its last byte; without its last part. -/
def cutB (s : ByteArray) : ByteArray := s.extract 0 (s.size - 1)
def upB (s : ByteArray) : ByteArray := (cutB s).extract 0 (Lib.lastIndexByte (cutB s) 47 + 1).toNat
theorem lib_room (s : ByteArray) : -1 ≤ Lib.lastIndexByte s 47 ∧ Lib.lastIndexByte s 47 < s.size := by
  rcases Lib.lastIndexByte_spec s 47 with ⟨h, _⟩ | ⟨i, h1, h2, _⟩ <;> omega
theorem cutB_size (s : ByteArray) : (cutB s).size = s.size - 1 := by unfold cutB; simp
theorem trim_cut (s : ByteArray) (h : Lib.hasSuffix s.data.toList [47] = true) : (⟨(Lib.trimSuffix s.data.toList [47]).toArray⟩ : ByteArray) = cutB s := by
  unfold Lib.hasSuffix at h
  obtain ⟨X, hX⟩ := List.isSuffixOf_iff_suffix.1 h
  have hz : s.size = X.length + 1 := by rw [show s.size = s.data.toList.length from Array.length_toList.symm, ← hX]; simp
  have hc : cutB s = bP X := by
    unfold cutB
    apply ByteArray.ext
    apply Array.toList_inj.1
    rw [Lib.extract_data, ← hX]
    simp [hz]
  have hq : Lib.hasSuffix (X ++ [47]) [47] = true := by unfold Lib.hasSuffix; exact List.isSuffixOf_iff_suffix.2 ⟨X, rfl⟩
  rw [hc, ← hX]
  simp [Lib.trimSuffix, hq]
set_option maxRecDepth 100000 in
set_option maxHeartbeats 800000 in
theorem above_any (s : ByteArray) (w : World) (hs : s.size ≤ 200) (h : Lib.hasSuffix s.data.toList [47] = true) :
    Calls Tryd.prog 12 #[.string s] w fun e w' => e = .returned (.string (upB s)) ∧ w = w' := by
  have h1 := Tryd.strings_TrimSuffix s ⟨#[47]⟩ w (by omega)
  have ht : (⟨(Lib.trimSuffix s.data.toList (ByteArray.mk #[47]).data.toList).toArray⟩ : ByteArray) = cutB s := trim_cut s h
  rw [ht] at h1
  have hz := cutB_size s
  obtain ⟨C, hC⟩ : ∃ C, cutB s = C := ⟨_, rfl⟩
  have hU : upB s = C.extract 0 (Lib.lastIndexByte C 47 + 1).toNat := by unfold upB; rw [hC]
  rw [hC] at h1 hz
  have hr := lib_room C
  have h2 := Tryd.strings_LastIndexByte C 47 (by omega) w
  obtain ⟨y, hy⟩ : ∃ y, Lib.lastIndexByte C 47 = y := ⟨_, rfl⟩
  rw [hy] at h2 hr hU
  obtain ⟨k, hk⟩ : ∃ k : Nat, y + 1 = k := ⟨(y + 1).toNat, by omega⟩
  obtain rfl : y = (k : Int) - 1 := by omega
  have H1 := Lib.hid h1
  have H2 := Lib.hid h2

  have e1 : wrap64 (k : Int) = (k : Int) := by unfold wrap64; omega
  have e2 : ((k : Int) - 1 + 1) = k := by omega
  have e3 : (k : Int) ≤ (C.size : Int) := by omega
  rw [e2] at hU
  have HU := Lib.hid hU
  clear e2 h1 h2 ht hC hy hU hr hz hk h
  go_enter Tryd.func12, Tryd.ntmps12
  go_wp2_with fail
  refine H1.out.mono ?_
  rintro e w' ⟨rfl, rfl⟩
  go_wp2_with fail
  refine H2.out.mono ?_
  rintro e w' ⟨rfl, rfl⟩
  go_wp2_with fail
  go_ret
  exact ⟨by rw [HU.out]; rfl, rfl⟩
end Go.Proofs.YtekgpimlanaokaaDoor
