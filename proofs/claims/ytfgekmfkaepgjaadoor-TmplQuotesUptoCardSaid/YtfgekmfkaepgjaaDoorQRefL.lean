/- DERIVED. What Quoted of the reference returns for every value: what Quote returns. Condition: there is room for the constant; the library's table of powers of ten. -/
import Derived.Test.YtfgekmfkaepgjaaDoorQStr
import Derived.Test.YtfgekmfkaepgjaaDoorQQuote
import Derived.Test.YtfgekmfkaepgjaaDoorShelf
import Derived.WalkSpells
import Derived.WalkLawsBesides
namespace Go.Proofs.YtfgekmfkaepgjaaDoor
set_option linter.unusedVariables false
open Go.RowKit
theorem shX_12 (k : Int) (bo : Bool) (i : Int) (t : ByteArray) (h : k = 1 ∨ k = 2) : shX k bo i t = 0 := by
  have hs := shIs k bo i t
  generalize shS k bo i t = s at hs
  generalize shX k bo i t = x at hs ⊢
  cases hs <;> simp_all [leaf]
theorem shX_none (k : Int) (bo : Bool) (i : Int) (t : ByteArray) (h0 : k ≠ 0) (h1 : k ≠ 1) (h2 : k ≠ 2) (h3 : k ≠ 3) (h4 : k ≠ 4) (h7 : k ≠ 7) : shX k bo i t = 10 := by
  have hs := shIs k bo i t
  generalize shS k bo i t = s at hs
  generalize shX k bo i t = x at hs ⊢
  cases hs <;> simp_all [leaf]
theorem shX_0 (bo : Bool) (i : Int) (t : ByteArray) : shX 0 bo i t = 0 := by
  have hs := shIs 0 bo i t
  generalize shS 0 bo i t = s at hs
  generalize shX 0 bo i t = x at hs ⊢
  cases hs <;> simp_all [leaf]
theorem ba_eta (s : ByteArray) : (⟨s.data.toList.toArray⟩ : ByteArray) = s := by simp
theorem ret_q {y y' : Int} {L : List UInt8} {s : ByteArray} (hy : y' = y) (hs : (if y' = 0 then (⟨L.toArray⟩ : ByteArray) else ⟨#[]⟩) = s) : Ending.returned (.tuple #[.string s, .int .i64 y]) = .returned (.tuple #[.string (if y' = 0 then (⟨L.toArray⟩ : ByteArray) else ⟨#[]⟩), .int .i64 y']) := by
  rw [hs, hy]
/-- What is asked of Quoted at one value. -/
def RVal (k : Int) (bo : Bool) (i : Int) (t : ByteArray) (items : Vals) (keys : List ByteArray) (d : Int) : Prop :=
  ∀ (A1 : Option Addr) (n1 c1 : Nat) (A2 : Option Addr) (n2 c2 : Nat) (w : World), VOk w w.heap.size k i t A1 n1 c1 A2 n2 c2 items keys → PowTab w → vM t items keys ≤ 140737488355328 →
    Calls Tryd.prog 10 #[.agg #[.int .i64 k, .bool bo, .int .i64 i, .string t, .slice A1 n1 c1, .slice A2 n2 c2], .int .i64 d] w fun e w' => e = .returned (.tuple #[.string (if vE k bo i t items d = 0 then ⟨(vT k bo i t items keys).toArray⟩ else ⟨#[]⟩), .int .i64 (vE k bo i t items d)]) ∧ Below w.heap.size w w'

set_option maxRecDepth 100000 in
set_option maxHeartbeats 2000000 in
theorem rleaf_any (k : Int) (bo : Bool) (i : Int) (t : ByteArray) (items : Vals) (keys : List ByteArray) (d : Int) (h5 : k ≠ 5) (h6 : k ≠ 6) : RVal k bo i t items keys d := by
  intro A1 n1 c1 A2 n2 c2 w hv ht hlen
  have hss := shS_size k bo i t (i64_wf hv.iwf).1 (i64_wf hv.iwf).2
  have hi9 := i64_wf hv.iwf
  unfold vM at hlen
  have HB0 := Lib.hid ((Below.refl w.heap.size w).alloc (Nat.le_refl _) (.cells #[.int .i64 k, .bool bo, .int .i64 i, .string t, .slice A1 n1 c1, .slice A2 n2 c2] 25))
  have HN := Lib.hid (show vE k bo i t items d = shX k bo i t by unfold vE; rw [nest_no h5 h6]; rfl)
  have hsz : (shS k bo i t).size ≤ 1125899906842624 := by omega
  have HQS := Lib.hid (fun wX => quoteStr_any (shS k bo i t) wX hsz)
  have hcall := fun wX (hX : Below w.heap.size w wX) => shown_any ⟨k, bo, i, t, A1, n1, c1, A2, n2, c2⟩ _ _ wX hi9 (shIs_top _) (ht.on hX)
  simp only [Top.val] at hcall
  have HCL := Lib.hid hcall
  clear hcall hi9 hsz hss hlen ht hv
  rw [HN.out]
  by_cases h0 : k = 0
  · subst h0
    have e1 := shX_0 bo i t
    have e2 := vT_nil bo i t items keys
    rw [e1, e2]
    clear e1 e2 h5 h6 HCL HN HQS
    go_enter Tryd.func10, Tryd.ntmps10
    go_wp2_with fail
    go_ret2
    exact ⟨rfl, HB0.out⟩
  by_cases h12 : k = 1 ∨ k = 2
  · have e1 := shX_12 k bo i t h12
    have e2 := vT_12 k bo i t items keys h12
    rw [e1] at HCL
    rw [e1, e2, if_pos rfl, ba_eta]
    clear e1 e2 HN HQS
    generalize shS k bo i t = s at *
    rcases h12 with rfl | rfl
    all_goals
      go_enter Tryd.func10, Tryd.ntmps10
      go_wp2_with fail
      refine (HCL.out _ HB0.out).mono ?_
      rintro e w2 ⟨rfl, hb2⟩
      have hb3 := HB0.out.trans (hb2.mono (by simp))
      go_wp2_with fail
      go_ret2
      exact ⟨rfl, hb3⟩
  have h1 : k ≠ 1 := fun e => h12 (.inl e)
  have h2 : k ≠ 2 := fun e => h12 (.inr e)
  clear h12
  by_cases h347 : k = 3 ∨ k = 7 ∨ k = 4
  · have e2 := vT_else k bo i t items keys h0 h1 h2 h5 h6
    rw [e2]
    clear e2 HN
    generalize shS k bo i t = s at *
    generalize shX k bo i t = y at *
    generalize qS s.data.toList = L at *
    by_cases hy : y = 0
    · subst hy
      rcases h347 with rfl | rfl | rfl
      all_goals
        go_enter Tryd.func10, Tryd.ntmps10
        go_wp2_with fail
        refine (HCL.out _ HB0.out).mono ?_
        rintro e w2 ⟨rfl, hb2⟩
        have hb3 := HB0.out.trans (hb2.mono (by simp))
        go_wp2_with fail
        refine (HQS.out _).mono ?_
        rintro e w4 ⟨rfl, hb4⟩
        have hb5 := hb3.trans (hb4.mono hb3.size)
        go_wp2_with fail
        go_ret2
        exact ⟨rfl, hb5⟩
    · rcases h347 with rfl | rfl | rfl
      all_goals
        go_enter Tryd.func10, Tryd.ntmps10
        go_wp2_with fail
        refine (HCL.out _ HB0.out).mono ?_
        rintro e w2 ⟨rfl, hb2⟩
        have hb3 := HB0.out.trans (hb2.mono (by simp))
        go_wp2_with fail
        go_ret2
        exact ⟨rfl, hb3⟩
  have h3 : k ≠ 3 := fun e => h347 (.inl e)
  have h7 : k ≠ 7 := fun e => h347 (.inr (.inl e))
  have h4 : k ≠ 4 := fun e => h347 (.inr (.inr e))
  clear h347
  have e1 := shX_none k bo i t h0 h1 h2 h3 h4 h7
  rw [e1]
  clear e1 HCL HN HQS
  generalize vT k bo i t items keys = L at *
  go_enter Tryd.func10, Tryd.ntmps10
  go_wp2_with fail
  go_ret2
  exact ⟨rfl, HB0.out⟩

end Go.Proofs.YtfgekmfkaepgjaaDoor
