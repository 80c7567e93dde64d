/- DERIVED. A path of one part is a part: plain facts. No condition. -/
import Derived.Test.YtlifjhglpflplaaDoorTPlain
import Derived.Lib.IndexBytes
import Derived.Lib.CountLaws
namespace Go.Proofs.YtlifjhglpflplaaDoor
theorem slash_index (s : ByteArray) : Lib.indexB s slashS = Lib.indexByte s.data.toList 47 := Lib.one s slashS rfl
theorem tparts_one {s : ByteArray} (h : Lib.indexByte s.data.toList 47 = -1) : tparts s = [s] := by
  have h1 : Lib.indexB s slashS = -1 := (slash_index s).trans h
  unfold tparts
  rw [Lib.countB_miss s slashS h1, Lib.splitB_zero]
theorem tpath_no_slash {s : ByteArray} (h : Lib.indexByte s.data.toList 47 = -1) : tpathB s = tpartB s := by
  unfold tpathB
  rw [tparts_one h]
  simp only [List.all_cons, List.all_nil, Bool.and_true]
  by_cases h2 : s.size ≤ 200
  · rw [decide_eq_true h2]; rfl
  · rw [decide_eq_false h2]
    have : tpartB s = false := by unfold tpartB; rw [decide_eq_false (show ¬ s.size ≤ 40 by omega)]; simp
    rw [this]; rfl
theorem tpart_slash {s : ByteArray} (h : 0 ≤ Lib.indexByte s.data.toList 47) : tpartB s = false := by
  obtain ⟨o, ho⟩ : ∃ o : Nat, Lib.indexByte s.data.toList 47 = o := ⟨(Lib.indexByte s.data.toList 47).toNat, by omega⟩
  obtain ⟨h1, _⟩ := Lib.indexByte_some ho
  have ha : s.data.toList.any tnB = true := List.any_eq_true.2 ⟨47, List.mem_of_getElem? h1, by decide⟩
  unfold tpartB
  rw [ha]
  simp
/-- A name that is a path without a slash is a part. -/
theorem name_part (s : ByteArray) : (tpathB s && !(decide (0 ≤ Lib.indexByte s.data.toList 47))) = tpartB s := by
  by_cases h : 0 ≤ Lib.indexByte s.data.toList 47
  · rw [decide_eq_true h, tpart_slash h]; simp
  · have h1 : Lib.indexByte s.data.toList 47 = -1 := by have := Lib.indexByte_ge s.data.toList 47; omega
    rw [decide_eq_false h, tpath_no_slash h1]; simp
end Go.Proofs.YtlifjhglpflplaaDoor
