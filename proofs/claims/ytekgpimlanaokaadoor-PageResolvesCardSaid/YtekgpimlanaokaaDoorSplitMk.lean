/- DERIVED. What strings.SplitSeq gives at one slash; page.isAddress. -/
import Derived.Test.YtekgpimlanaokaaDoorSplitIt
import Derived.Test.YtekgpimlanaokaaDoorTAddr
namespace Go.Proofs.YtekgpimlanaokaaDoor
set_option linter.unusedVariables false
open Go.RowKit
/-- The three blocks of the iterator. -/
def spW (s : ByteArray) (w : World) : World := ((w.alloc (.cells #[.string s] 9)).alloc (.cells #[.string ⟨#[47]⟩] 9)).alloc (.cells #[.int .i64 0] 3)
theorem spW_boxes (s : ByteArray) (w : World) : Boxed (spW s w) (w.heap.size + 1) 9 (.string ⟨#[47]⟩) ∧ Boxed (spW s w) w.heap.size 9 (.string s) ∧ Boxed (spW s w) (w.heap.size + 2) 3 (.int .i64 0) ∧ (spW s w).heap.size = w.heap.size + 3 ∧ Below w.heap.size w (spW s w) := by
  have b0 := Boxed.new w 9 (.string s)
  have b1 := Boxed.new (w.alloc (.cells #[.string s] 9)) 9 (.string ⟨#[47]⟩)
  have b2 := Boxed.new ((w.alloc (.cells #[.string s] 9)).alloc (.cells #[.string ⟨#[47]⟩] 9)) 3 (.int .i64 0)
  simp only [World.size_alloc] at b1 b2
  refine ⟨b1.alloc _, (b0.alloc _).alloc _, b2, ?_, ?_⟩
  · unfold spW; simp
  · exact (((Below.refl _ w).alloc (Nat.le_refl _) _).alloc (by simp) _).alloc (by simp; omega) _
def spF (b : Nat) : Value := .func (.func 39) #[] #[.pointer (some ⟨b + 1, 0, none⟩), .pointer (some ⟨b, 0, none⟩), .pointer (some ⟨b + 2, 0, none⟩)]
set_option maxRecDepth 100000 in
set_option maxHeartbeats 800000 in
theorem splitSeq0_any (s : ByteArray) (w : World) : Calls Tryd.prog 25 #[.string s, .string ⟨#[47]⟩, .int .i64 0] w fun e w' => e = .returned (spF w.heap.size) ∧ w' = spW s w := by
  go_enter Tryd.func25, Tryd.ntmps25
  go_wp2_with fail
  go_ret
  exact ⟨rfl, rfl⟩
set_option maxRecDepth 100000 in
set_option maxHeartbeats 800000 in
theorem splitSeq_any (s : ByteArray) (w : World) : Calls Tryd.prog 11 #[.string s, .string ⟨#[47]⟩] w fun e w' => e = .returned (spF w.heap.size) ∧ w' = spW s w := by
  have H := Lib.hid (splitSeq0_any s w)
  go_enter Tryd.func11, Tryd.ntmps11
  go_wp2_with fail
  refine H.out.mono ?_
  rintro e w' ⟨rfl, rfl⟩
  unfold spF
  go_wp2_with fail
  go_ret
  exact ⟨rfl, rfl⟩
def padB (s : ByteArray) : Bool := decide (s.size ≤ 200) && taddrB s
set_option maxRecDepth 100000 in
set_option maxHeartbeats 800000 in
theorem pIsAddr_any (s : ByteArray) (w : World) (hm : MaxT w) (hs : s.size ≤ 9223372036854775807) :
    Calls Tryd.prog 9 #[.string s] w fun e w' => e = .returned (.bool (padB s)) ∧ Below w.heap.size w w' := by
  have H := Lib.hid (checkAddress_any s w hm hs)
  by_cases hb : s.size ≤ 200
  · have hi : (s.size : Int) ≤ 200 := by omega
    have HP := Lib.hid (show padB s = taddrB s by unfold padB; rw [decide_eq_true hb]; rfl)
    obtain ⟨x, hx⟩ : ∃ x, addrErr s = x := ⟨_, rfl⟩
    rw [hx] at H
    have hv : (x == 0) = taddrB s := by rw [← hx]; unfold addrErr; cases taddrB s <;> rfl
    have HV := Lib.hid hv
    clear hx hv
    go_enter Tryd.func9, Tryd.ntmps9
    go_wp2_with fail
    refine H.out.mono ?_
    rintro e w' ⟨rfl, hb'⟩
    go_wp2_with fail
    go_ret
    exact ⟨by rw [HP.out, ← HV.out]; first | rfl | simp, hb'⟩
  · have hi : ¬ (s.size : Int) ≤ 200 := by omega
    have HP := Lib.hid (show padB s = false by unfold padB; rw [decide_eq_false hb]; rfl)
    go_enter Tryd.func9, Tryd.ntmps9
    go_wp2_with fail
    go_ret
    exact ⟨by rw [HP.out]; first | rfl | simp, Below.refl _ _⟩
end Go.Proofs.YtekgpimlanaokaaDoor
