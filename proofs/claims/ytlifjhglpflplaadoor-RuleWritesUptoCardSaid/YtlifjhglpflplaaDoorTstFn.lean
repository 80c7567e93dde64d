/- DERIVED. A function value that is asked of tests one after the other: slices.IndexFunc and slices.ContainsFunc. Condition: at most 2^40 tests. -/
import Derived.Test.YtlifjhglpflplaaDoorTstPlain
import Derived.Test.YtlifjhglpflplaaDoorAnyB
import Derived.Test.YtlifjhglpflplaaDoorRows
import Derived.WalkKit
import Derived.WalkSpells
import Derived.WalkLawsBesides
import Derived.WalkSmall
import Derived.Lib.Hide
import Derived.Laws.Rows
namespace Go.Proofs.YtlifjhglpflplaaDoor
open Go.RowKit
set_option linter.unusedVariables false
def eV (k md lo hi : Int) (A : Option Addr) (n c : Nat) : Value := .agg #[.int .i64 k, .int .i64 md, .int .i64 lo, .int .i64 hi, .slice A n c]
abbrev TP := Int → Int → Int → Int → Tst → Bool
/-- The first test that is so. -/
def fst (p : TP) : Tst → Nat → Int
  | .nil, _ => -1
  | .cons k md lo hi c r, i => if p k md lo hi c = true then i else fst p r (i + 1)
def anyE (p : TP) : Tst → Bool
  | .nil => false
  | .cons k md lo hi c r => p k md lo hi c || anyE p r
theorem fst_any (p : TP) : ∀ (d : Tst) (i : Nat), decide (0 ≤ fst p d i) = anyE p d
  | .nil, _ => rfl
  | .cons k md lo hi c r, i => by
    unfold fst anyE
    cases h : p k md lo hi c with
    | true => simp
    | false => simpa using fst_any p r (i + 1)
/-- What is asked of the function value at the tests. -/
def TellsT (a : Tst) (p : TP) (f : FuncId) (cap : Array Value) (w : World) : Prop :=
  ∀ (wX : World) (k : Nat), Below w.heap.size w wX → ∀ (k1 md lo hi : Int) (A1 : Option Addr) (n1 c1 : Nat) (kd r : Tst), a.drop k = .cons k1 md lo hi kd r → kd.At wX wX.heap.size A1 n1 → n1 ≤ c1 → c1 ≤ maxLen →
    (Lit.int .i64 k1).wf = true → (Lit.int .i64 md).wf = true → (Lit.int .i64 lo).wf = true → (Lit.int .i64 hi).wf = true →
    Calls Tryd.prog f (#[eV k1 md lo hi A1 n1 c1] ++ cap) wX fun e w' => e = .returned (.bool (p k1 md lo hi kd)) ∧ Below wX.heap.size wX w'
set_option maxRecDepth 100000 in
set_option maxHeartbeats 800000 in
theorem indexT_any (a : Tst) (p : TP) (f : FuncId) (cap : Array Value) (A : Option Addr) (n c : Nat) (w : World) (eg : ∀ args w, (callFunc f args).run Tryd.prog w = .ok (.enter f args) w) (hn : n ≤ 1099511627776) (ha : a.At w w.heap.size A n) (hf : TellsT a p f cap w) :
    Calls Tryd.prog 107 #[.slice A n c, .func (.func f) #[] cap] w fun e w' => e = .returned (.int .i64 (fst p a 0)) ∧ Below w.heap.size w w' := by
  have hnl := ha.len_eq
  have HNL := Lib.hid hnl; clear hnl
  have HA := Lib.hid ha; clear ha
  have HF := Lib.hid hf; clear hf
  go_enter Tryd.func107, Tryd.ntmps107
  go_wp2_with fail
  go_loopw [8] (fun i wr => ∃ k : Nat, k ≤ n ∧ i = .int .i64 k ∧ fst p a 0 = fst p (a.drop k) k ∧ Below w.heap.size w wr) (fun i _ => n - (intOf i).toNat)
  case atStart => exact ⟨0, Nat.zero_le _, rfl, by rw [Tst.drop_zero'], Below.refl _ _⟩
  case round =>
    obtain ⟨k, hk, rfl, hx, hbw⟩ := hrel
    have HX := Lib.hid hx; clear hx
    by_cases hlt : k < n
    · obtain ⟨b, off, k1, md, lo, hi, A1, n1, c1, kd, r, rfl, e1, e2, E⟩ := HA.out.el k hlt
      have E' := E.below hbw
      obtain ⟨hlb, x0, x1, x2, x3, x4, hnc, hcm, g0, g1, g2, g3, hat⟩ := E'
      clear E
      have hsb : b < wr.heap.size := Nat.lt_of_lt_of_le hlb hbw.size
      have hcall := HF.out wr k hbw k1 md lo hi A1 n1 c1 kd r e1 (hat.more hbw.size) hnc hcm g0 g1 g2 g3
      have hcons : fst p a 0 = if p k1 md lo hi kd = true then (k : Int) else fst p r (k + 1) := by
        rw [HX.out, e1]; rfl
      unfold eV at hcall
      have HC := Lib.hid hcall; clear hcall
      have HCO := Lib.hid hcons; clear hcons
      have HE2 := Lib.hid e2; clear e1 e2 hat hnc hcm g0 g1 g2 g3
      go_wp2_with fail
      refine HC.out.mono ?_
      rintro e w2 ⟨rfl, hb3⟩
      have hb4 := hbw.trans (hb3.mono hbw.size)
      clear hb3
      cases hz : p k1 md lo hi kd with
      | true =>
        have HZ := Lib.hid hz; clear hz
        go_wp2_with fail
        go_ret
        exact ⟨by rw [HCO.out, if_pos HZ.out]; rfl, hb4⟩
      | false =>
        have HZ := Lib.hid hz; clear hz
        go_wp2_with fail
        go_roundw
        case rel => exact ⟨k + 1, by omega, by go_num, by rw [HCO.out, if_neg (by rw [HZ.out]; decide), HE2.out], hb4⟩
        case measure => simp [intOf]; omega
    · obtain rfl : k = n := by omega
      have hd : a.drop k = .nil := by rw [HNL.out, Tst.drop_len']
      have HD := Lib.hid hd; clear hd
      go_wp2_with fail
      go_ret
      exact ⟨by rw [HX.out, HD.out]; rfl, hbw⟩
set_option maxRecDepth 100000 in
set_option maxHeartbeats 800000 in
theorem containsT_any (a : Tst) (p : TP) (f : FuncId) (cap : Array Value) (A : Option Addr) (n c : Nat) (w : World) (eg : ∀ args w, (callFunc f args).run Tryd.prog w = .ok (.enter f args) w) (hn : n ≤ 1099511627776) (ha : a.At w w.heap.size A n) (hf : TellsT a p f cap w) :
    Calls Tryd.prog 69 #[.slice A n c, .func (.func f) #[] cap] w fun e w' => e = .returned (.bool (anyE p a)) ∧ Below w.heap.size w w' := by
  have HC := Lib.hid (indexT_any a p f cap A n c w eg hn ha hf); clear ha hf
  have HF := Lib.hid (fst_any p a 0)
  clear eg
  go_enter Tryd.func69, Tryd.ntmps69
  go_wp2_with fail
  refine HC.out.mono ?_
  rintro e w2 ⟨rfl, hb3⟩
  go_wp2_with fail
  go_ret
  exact ⟨retB HF.out.symm, hb3⟩
end Go.Proofs.YtlifjhglpflplaaDoor
