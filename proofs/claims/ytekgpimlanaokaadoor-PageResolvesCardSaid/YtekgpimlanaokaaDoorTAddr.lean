/- DERIVED. What the reference's IsPath, and both sides' functions on addresses return. Condition: the library's variable MaxLen holds a number. -/
import Derived.Test.YtekgpimlanaokaaDoorTPath
namespace Go.Proofs.YtekgpimlanaokaaDoor
set_option linter.unusedVariables false
open Go.RowKit
/-! ### Addresses -/
def endsB (s : ByteArray) : Bool := decide (s.data.toList[0]? = some 47) && decide (s.data.toList[s.size - 1]? = some 47)
def taddrB (s : ByteArray) : Bool := (s.toList == [47]) || (decide (2 < s.size) && endsB s && tpathB (s.extract 1 (s.size - 1)))
theorem endsB_eq (s : ByteArray) (h : 2 < s.size) : endsB s = (decide (s[0] = 47) && decide (s[s.size - 1] = 47)) := by
  unfold endsB
  rw [at_idx (show 0 < s.size by omega), at_idx (show s.size - 1 < s.size by omega)]
  simp
set_option maxRecDepth 100000 in
set_option maxHeartbeats 1000000 in
theorem tAddr_any (s : ByteArray) (w : World) (hm : MaxT w) (hs : s.size ≤ 9223372036854775807) :
    Calls Tryd.prog 38 #[.string s] w fun e w' => e = .returned (.bool (taddrB s)) ∧ Below w.heap.size w w' := by
  cases h1 : (s.toList == [47]) with
  | true =>
    have HR := Lib.hid (show taddrB s = true by unfold taddrB; rw [h1]; rfl)
    clear hm
    go_enter Tryd.func38, Tryd.ntmps38
    go_wp2_with fail
    go_ret
    exact ⟨retB HR.out, Below.refl _ _⟩
  | false =>
    by_cases h2 : 2 < s.size
    · have i2 : (1 : Int) < (s.size : Int) - 1 := by omega
      have HR := Lib.hid (show taddrB s = (decide (s[0] = 47) && decide (s[s.size - 1] = 47) && tpathB (s.extract 1 (s.size - 1))) by unfold taddrB; rw [h1, decide_eq_true h2, endsB_eq s h2]; rfl)
      have HP := Lib.hid (tPath_any (s.extract 1 (s.size - 1)) w hm)
      obtain ⟨c, hc⟩ : ∃ c, s[0] = c := ⟨_, rfl⟩
      obtain ⟨d, hd⟩ : ∃ d, s[s.size - 1] = d := ⟨_, rfl⟩
      rw [hc, hd] at HR
      clear hm
      by_cases hc47 : (c.toNat : Int) = 47
      · have g1 : ((c.toNat : Int) == 47) = true := by simpa using hc47
        by_cases hd47 : (d.toNat : Int) = 47
        · have g2 : ((d.toNat : Int) == 47) = true := by simpa using hd47
          have HCD := Lib.hid (And.intro (u8_eq (c := c) (n := 47) (by omega) (by omega)) (u8_eq (c := d) (n := 47) (by omega) (by omega)))
          go_enter Tryd.func38, Tryd.ntmps38
          go_wp2_with fail
          refine HP.out.mono ?_
          rintro e w1 ⟨rfl, hb1⟩
          go_wp2_with fail
          go_ret
          exact ⟨retB (by rw [HR.out, HCD.out.1, HCD.out.2]; rfl), hb1⟩
        · have g2 : ((d.toNat : Int) == 47) = false := by simpa using hd47
          have HCD := Lib.hid hd47
          clear hd47
          go_enter Tryd.func38, Tryd.ntmps38
          go_wp2_with fail
          go_ret
          exact ⟨retB (by rw [HR.out, decide_eq_false (show ¬ d = 47 by rintro rfl; exact HCD.out rfl)]; simp), Below.refl _ _⟩
      · have g1 : ((c.toNat : Int) == 47) = false := by simpa using hc47
        have HCD := Lib.hid hc47
        clear hc47
        go_enter Tryd.func38, Tryd.ntmps38
        go_wp2_with fail
        go_ret
        exact ⟨retB (by rw [HR.out, decide_eq_false (show ¬ c = 47 by rintro rfl; exact HCD.out rfl)]; simp), Below.refl _ _⟩
    · have HR := Lib.hid (show taddrB s = false by unfold taddrB; rw [h1, decide_eq_false h2]; rfl)
      have i2 : ¬ (1 : Int) < (s.size : Int) - 1 := by omega
      clear hm
      go_enter Tryd.func38, Tryd.ntmps38
      go_wp2_with fail
      go_ret
      exact ⟨retB HR.out, Below.refl _ _⟩
def addrErr (s : ByteArray) : Int := if taddrB s = true then 0 else 3
theorem checkAddress_any (s : ByteArray) (w : World) (hm : MaxT w) (hs : s.size ≤ 9223372036854775807) :
    Calls Tryd.prog 23 #[.string s] w fun e w' => e = .returned (.int .i64 (addrErr s)) ∧ Below w.heap.size w w' := by
  have h := tAddr_any s w hm hs
  unfold addrErr
  cases hb : taddrB s <;> (
    rw [hb] at h
    have H := Lib.hid h
    clear h hm
    go_enter Tryd.func23, Tryd.ntmps23
    go_wp2_with fail
    refine H.out.mono ?_
    rintro e w1 ⟨rfl, hb1⟩
    go_wp2_with fail
    go_ret
    exact ⟨rfl, hb1⟩)
end Go.Proofs.YtekgpimlanaokaaDoor
