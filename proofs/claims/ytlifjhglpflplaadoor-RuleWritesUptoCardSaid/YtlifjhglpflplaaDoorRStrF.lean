/- DERIVED. The reference's testString of any test, ruleString, RuleStringOf. Condition: at most 2^40 - 1 tests; the library's variables are as the program's text lays them. -/
import Derived.Test.YtlifjhglpflplaaDoorRStrD
import Derived.Test.YtlifjhglpflplaaDoorRStrE
namespace Go.Proofs.YtlifjhglpflplaaDoor
open Go.RowKit
set_option linter.unusedVariables false
set_option linter.unusedSimpArgs false
set_option maxRecDepth 100000 in
set_option maxHeartbeats 1600000 in
theorem testString_in (md lo hi : Int) (A : Option Addr) (n c : Nat) (w : World) (hv : Vars w) (f1 : I64 md) (f2 : I64 lo) (f3 : I64 hi) (hm0 : 0 ≤ md) :
    TxtC 83 1 md lo hi A n c w (wS md lo hi) := by
  have hbx := heap_alloc_new w (.cells #[.int .i64 1, .int .i64 md, .int .i64 lo, .int .i64 hi, .slice A n c] 88)
  have hw0 : Below w.heap.size w (w.alloc (.cells #[.int .i64 1, .int .i64 md, .int .i64 lo, .int .i64 hi, .slice A n c] 88)) := (Below.refl _ _).alloc (Nat.le_refl _) _
  have keep : ∀ wX, Below (w.heap.size + 1) (w.alloc (.cells #[.int .i64 1, .int .i64 md, .int .i64 lo, .int .i64 hi, .slice A n c] 88)) wX → Below w.heap.size w wX ∧ wX.cell? ⟨w.heap.size, 1, none⟩ = some (.int .i64 md) ∧ wX.cell? ⟨w.heap.size, 2, none⟩ = some (.int .i64 lo) ∧ wX.cell? ⟨w.heap.size, 3, none⟩ = some (.int .i64 hi) := fun wX hX => by
    obtain ⟨y0, y1, y2, y3, y4⟩ := box5 ((hX.block w.heap.size (by omega)).trans hbx)
    exact ⟨hw0.trans (hX.mono (by omega)), y1, y2, y3⟩
  have i1 : ∀ wX, Below (w.heap.size + 1) (w.alloc (.cells #[.int .i64 1, .int .i64 md, .int .i64 lo, .int .i64 hi, .slice A n c] 88)) wX → Calls Tryd.prog 41 #[.int .i64 md] wX fun e w' => e = .returned (.string (itoaS md)) ∧ Below (w.heap.size + 1) (w.alloc (.cells #[.int .i64 1, .int .i64 md, .int .i64 lo, .int .i64 hi, .slice A n c] 88)) w' := fun wX hX =>
    (itoaS_any md wX (hv.below (keep wX hX).1) f1.1 f1.2).mono fun e w' h => ⟨h.1, hX.trans (h.2.mono (by have := hX.size; simpa using this))⟩
  have i2 : ∀ wX, Below (w.heap.size + 1) (w.alloc (.cells #[.int .i64 1, .int .i64 md, .int .i64 lo, .int .i64 hi, .slice A n c] 88)) wX → Calls Tryd.prog 41 #[.int .i64 lo] wX fun e w' => e = .returned (.string (itoaS lo)) ∧ Below (w.heap.size + 1) (w.alloc (.cells #[.int .i64 1, .int .i64 md, .int .i64 lo, .int .i64 hi, .slice A n c] 88)) w' := fun wX hX =>
    (itoaS_any lo wX (hv.below (keep wX hX).1) f2.1 f2.2).mono fun e w' h => ⟨h.1, hX.trans (h.2.mono (by have := hX.size; simpa using this))⟩
  have i3 : ∀ wX, Below (w.heap.size + 1) (w.alloc (.cells #[.int .i64 1, .int .i64 md, .int .i64 lo, .int .i64 hi, .slice A n c] 88)) wX → Calls Tryd.prog 41 #[.int .i64 hi] wX fun e w' => e = .returned (.string (itoaS hi)) ∧ Below (w.heap.size + 1) (w.alloc (.cells #[.int .i64 1, .int .i64 md, .int .i64 lo, .int .i64 hi, .slice A n c] 88)) w' := fun wX hX =>
    (itoaS_any hi wX (hv.below (keep wX hX).1) f3.1 f3.2).mono fun e w' h => ⟨h.1, hX.trans (h.2.mono (by have := hX.size; simpa using this))⟩
  have z1 := itoaS_size md f1.1 f1.2
  have z2 := itoaS_size lo f2.1 f2.2
  have z3 := itoaS_size hi f3.1 f3.2
  have hW : wS md lo hi = if hi = lo then (if md = 0 then ⟨#[110]⟩ else ⟨#[110]⟩ ++ (⟨#[37]⟩ ++ itoaS md)) ++ (⟨#[61]⟩ ++ itoaS lo) else (if md = 0 then ⟨#[110]⟩ else ⟨#[110]⟩ ++ (⟨#[37]⟩ ++ itoaS md)) ++ (⟨#[61]⟩ ++ itoaS lo) ++ (⟨#[46, 46]⟩ ++ itoaS hi) := rfl
  generalize itoaS md = s1 at i1 z1 hW
  generalize itoaS lo = s2 at i2 z2 hW
  generalize itoaS hi = s3 at i3 z3 hW
  have HW := Lib.hid hW
  have I1 := Lib.hid i1
  have I2 := Lib.hid i2
  have I3 := Lib.hid i3
  have KP := Lib.hid keep
  have H0 := Lib.hid (Below.refl (w.heap.size + 1) (w.alloc (.cells #[.int .i64 1, .int .i64 md, .int .i64 lo, .int .i64 hi, .slice A n c] 88)))
  clear i1 i2 i3 keep hW hbx hw0 hv f1 f2 f3
  unfold TxtC eV
  by_cases hm : md = 0
  · have HW1 := Lib.hid (HW.out.trans (by rw [if_pos hm]))
    subst hm
    by_cases hh : hi = lo
    · have HW2 := Lib.hid (HW1.out.trans (if_pos hh))
      subst hh
      go_enter Tryd.func83, Tryd.ntmps83
      go_wp2_with fail
      refine (I2.out _ H0.out).mono ?_
      rintro e w2 ⟨rfl, hb2⟩
      obtain ⟨HBO, y1, y2, y3⟩ := KP.out _ hb2
      clear hb2
      go_wp2_with fail
      go_ret
      exact ⟨by rw [HW2.out]; rfl, HBO⟩
    · have HW2 := Lib.hid (HW1.out.trans (if_neg hh))
      go_enter Tryd.func83, Tryd.ntmps83
      go_wp2_with fail
      refine (I2.out _ H0.out).mono ?_
      rintro e w2 ⟨rfl, hb2⟩
      obtain ⟨HBO, y1, y2, y3⟩ := KP.out _ hb2
      have HB2 := Lib.hid hb2
      clear hb2
      go_wp2_with fail
      refine (I3.out _ HB2.out).mono ?_
      rintro e w3 ⟨rfl, hb3⟩
      obtain ⟨HBO3, y1, y2, y3⟩ := KP.out _ hb3
      clear hb3
      go_wp2_with fail
      go_ret
      exact ⟨by rw [HW2.out]; rfl, HBO3⟩
  · have HW1 := Lib.hid (HW.out.trans (by rw [if_neg hm]))
    have hm1 : 0 < md := by omega
    by_cases hh : hi = lo
    · have HW2 := Lib.hid (HW1.out.trans (if_pos hh))
      subst hh
      go_enter Tryd.func83, Tryd.ntmps83
      go_wp2_with fail
      refine (I1.out _ H0.out).mono ?_
      rintro e w1 ⟨rfl, hb1⟩
      obtain ⟨HBO1, x1, x2, x3⟩ := KP.out _ hb1
      have HB1 := Lib.hid hb1
      clear hb1
      go_wp2_with fail
      refine (I2.out _ HB1.out).mono ?_
      rintro e w2 ⟨rfl, hb2⟩
      obtain ⟨HBO, y1, y2, y3⟩ := KP.out _ hb2
      clear hb2
      go_wp2_with fail
      go_ret
      exact ⟨by rw [HW2.out]; rfl, HBO⟩
    · have HW2 := Lib.hid (HW1.out.trans (if_neg hh))
      go_enter Tryd.func83, Tryd.ntmps83
      go_wp2_with fail
      refine (I1.out _ H0.out).mono ?_
      rintro e w1 ⟨rfl, hb1⟩
      obtain ⟨HBO1, x1, x2, x3⟩ := KP.out _ hb1
      have HB1 := Lib.hid hb1
      clear hb1
      go_wp2_with fail
      refine (I2.out _ HB1.out).mono ?_
      rintro e w2 ⟨rfl, hb2⟩
      obtain ⟨HBO, y1, y2, y3⟩ := KP.out _ hb2
      have HB2 := Lib.hid hb2
      clear hb2
      go_wp2_with fail
      refine (I3.out _ HB2.out).mono ?_
      rintro e w3 ⟨rfl, hb3⟩
      obtain ⟨HBO3, u1, u2, u3⟩ := KP.out _ hb3
      clear hb3
      go_wp2_with fail
      go_ret
      exact ⟨by rw [HW2.out]; rfl, HBO3⟩
end Go.Proofs.YtlifjhglpflplaaDoor
