/- DERIVED. asset.isPrint: bytes that are digits of base 16. Condition: a string that a slice can hold. -/
import Derived.Test.YthlkibadiiiohaaDoorKindOf
import Derived.Shelf.Strings.SlTrimAscii
namespace Go.Proofs.YthlkibadiiiohaaDoor
open Go.RowKit
set_option linter.unusedVariables false
set_option linter.unusedSimpArgs false
def hex16L : List UInt8 := [48, 49, 50, 51, 52, 53, 54, 55, 56, 57, 97, 98, 99, 100, 101, 102]
theorem trim16_any (s : ByteArray) (hs : s.size ≤ 9223372036854775807) (w : World) : Calls Tryd.prog 27 #[.string s, .string ⟨#[48, 49, 50, 51, 52, 53, 54, 55, 56, 57, 97, 98, 99, 100, 101, 102]⟩] w fun e w' => e = .returned (.string ⟨(Lib.trimS s.data.toList hex16L).toArray⟩) ∧ Below w.heap.size w w' :=
  Any.strings_Trim_laid Tryd.lays160 (by kernel_rfl) s ⟨#[48, 49, 50, 51, 52, 53, 54, 55, 56, 57, 97, 98, 99, 100, 101, 102]⟩ w hs (by decide) (ascii_of_all (by decide))
def isPrB (s : ByteArray) : Bool := decide (Lib.trimS s.data.toList hex16L = [])
set_option maxRecDepth 100000 in
set_option maxHeartbeats 800000 in
theorem isPrint_any (s : ByteArray) (hs : s.size ≤ 9223372036854775807) (w : World) : Calls Tryd.prog 17 #[.string s] w fun e w' => e = .returned (.bool (isPrB s)) ∧ Below w.heap.size w w' := by
  have h := trim16_any s hs w
  have hB : isPrB s = decide ((⟨(Lib.trimS s.data.toList hex16L).toArray⟩ : ByteArray).toList = []) := by
    unfold isPrB
    rw [ByteArray.toList_eq]
  generalize (⟨(Lib.trimS s.data.toList hex16L).toArray⟩ : ByteArray) = r at h hB
  have HC := Lib.hid h
  clear h
  by_cases q : r.toList = []
  · have HB := Lib.hid (hB.trans (decide_eq_true q))
    clear hB
    go_enter Tryd.func17, Tryd.ntmps17
    go_wp2_with fail
    refine HC.out.mono ?_
    rintro e w1 ⟨rfl, hb1⟩
    go_wp2_with fail
    go_ret
    exact ⟨by rw [HB.out]; first | rfl | simpa using q, hb1⟩
  · have HB := Lib.hid (hB.trans (decide_eq_false q))
    clear hB
    go_enter Tryd.func17, Tryd.ntmps17
    go_wp2_with fail
    refine HC.out.mono ?_
    rintro e w1 ⟨rfl, hb1⟩
    go_wp2_with fail
    go_ret
    exact ⟨by rw [HB.out]; first | rfl | simpa using q, hb1⟩
end Go.Proofs.YthlkibadiiiohaaDoor
