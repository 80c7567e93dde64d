/- DERIVED. lang.testText, kidText. Condition: at most 2^40 tests; the library's variables are as the program's text lays them. -/
import Derived.Test.YtlifjhglpflplaaDoorRStrB
namespace Go.Proofs.YtlifjhglpflplaaDoor
open Go.RowKit
set_option linter.unusedVariables false
set_option linter.unusedSimpArgs false
abbrev TxtC (f : FuncId) (k md lo hi : Int) (A : Option Addr) (n c : Nat) (w : World) (s : ByteArray) : Prop := Calls Tryd.prog f #[eV k md lo hi A n c] w fun e w' => e = .returned (.string s) ∧ Below w.heap.size w w'
set_option maxRecDepth 100000 in
set_option maxHeartbeats 800000 in
theorem kidText_of (k md lo hi : Int) (A : Option Addr) (n c : Nat) (w : World) (s : ByteArray) (hs : s.size ≤ 140000000000000) (h : ∀ wX, Below w.heap.size w wX → TxtC 45 k md lo hi A n c wX s) : TxtC 79 k md lo hi A n c w (brS true k s) := by
  have hw0 : Below w.heap.size w (w.alloc (.cells #[.int .i64 k, .int .i64 md, .int .i64 lo, .int .i64 hi, .slice A n c] 88)) := (Below.refl _ _).alloc (Nat.le_refl _) _
  have HC := Lib.hid h
  have H0 := Lib.hid hw0
  clear h hw0
  unfold TxtC eV at HC ⊢
  by_cases hk : k = 3
  · have HS := Lib.hid (show brS true k s = ⟨#[40]⟩ ++ s ++ ⟨#[41]⟩ by unfold brS; rw [if_pos ⟨rfl, hk⟩])
    subst hk
    go_enter Tryd.func79, Tryd.ntmps79
    go_wp2_with fail
    refine (HC.out _ H0.out).mono ?_
    rintro e w1 ⟨rfl, hb1⟩
    have HB := Lib.hid (H0.out.trans (hb1.mono H0.out.size))
    clear hb1
    go_wp2_with fail
    go_ret
    exact ⟨by rw [HS.out]; rfl, HB.out⟩
  · have HS := Lib.hid (show brS true k s = s by unfold brS; rw [if_neg (fun h => hk h.2)])
    go_enter Tryd.func79, Tryd.ntmps79
    go_wp2_with fail
    refine (HC.out _ H0.out).mono ?_
    rintro e w1 ⟨rfl, hb1⟩
    have HB := Lib.hid (H0.out.trans (hb1.mono H0.out.size))
    clear hb1
    go_wp2_with fail
    go_ret
    exact ⟨by rw [HS.out]; rfl, HB.out⟩
theorem tS_2 (md lo hi : Int) (c : Tst) : tS 2 md lo hi c = joinS (c.kL true) ⟨#[32, 38, 32]⟩ := rfl
theorem tS_3 (md lo hi : Int) (c : Tst) : tS 3 md lo hi c = joinS (c.kL false) ⟨#[32, 124, 32]⟩ := rfl
theorem tS_4 (md lo hi : Int) (c : Tst) : tS 4 md lo hi c = ⟨#[33, 40]⟩ ++ joinS (c.kL true) ⟨#[32, 124, 32]⟩ ++ ⟨#[41]⟩ := rfl
theorem tS_else {k : Int} (md lo hi : Int) (c : Tst) (h2 : k ≠ 2) (h3 : k ≠ 3) (h4 : k ≠ 4) : tS k md lo hi c = wS md lo hi := by unfold tS; rw [if_neg h2, if_neg h3, if_neg h4]
set_option maxRecDepth 100000 in
set_option maxHeartbeats 1600000 in
theorem testText_in (k md lo hi : Int) (A : Option Addr) (n c : Nat) (w : World) (hv : Vars w) (f1 : I64 md) (f2 : I64 lo) (f3 : I64 hi) (h2 : k ≠ 2) (h3 : k ≠ 3) (h4 : k ≠ 4) :
    TxtC 45 k md lo hi A n c w (wS md lo hi) := by
  have hbx := heap_alloc_new w (.cells #[.int .i64 k, .int .i64 md, .int .i64 lo, .int .i64 hi, .slice A n c] 88)
  have hw0 : Below w.heap.size w (w.alloc (.cells #[.int .i64 k, .int .i64 md, .int .i64 lo, .int .i64 hi, .slice A n c] 88)) := (Below.refl _ _).alloc (Nat.le_refl _) _
  have keep : ∀ wX, Below (w.heap.size + 1) (w.alloc (.cells #[.int .i64 k, .int .i64 md, .int .i64 lo, .int .i64 hi, .slice A n c] 88)) wX → Below w.heap.size w wX ∧ wX.cell? ⟨w.heap.size, 1, none⟩ = some (.int .i64 md) ∧ wX.cell? ⟨w.heap.size, 2, none⟩ = some (.int .i64 lo) ∧ wX.cell? ⟨w.heap.size, 3, none⟩ = some (.int .i64 hi) := fun wX hX => by
    obtain ⟨y0, y1, y2, y3, y4⟩ := box5 ((hX.block w.heap.size (by omega)).trans hbx)
    exact ⟨hw0.trans (hX.mono (by omega)), y1, y2, y3⟩
  have i1 : ∀ wX, Below (w.heap.size + 1) (w.alloc (.cells #[.int .i64 k, .int .i64 md, .int .i64 lo, .int .i64 hi, .slice A n c] 88)) wX → Calls Tryd.prog 41 #[.int .i64 md] wX fun e w' => e = .returned (.string (itoaS md)) ∧ Below (w.heap.size + 1) (w.alloc (.cells #[.int .i64 k, .int .i64 md, .int .i64 lo, .int .i64 hi, .slice A n c] 88)) w' := fun wX hX =>
    (itoaS_any md wX (hv.below (keep wX hX).1) f1.1 f1.2).mono fun e w' h => ⟨h.1, hX.trans (h.2.mono (by have := hX.size; simpa using this))⟩
  have i2 : ∀ wX, Below (w.heap.size + 1) (w.alloc (.cells #[.int .i64 k, .int .i64 md, .int .i64 lo, .int .i64 hi, .slice A n c] 88)) wX → Calls Tryd.prog 41 #[.int .i64 lo] wX fun e w' => e = .returned (.string (itoaS lo)) ∧ Below (w.heap.size + 1) (w.alloc (.cells #[.int .i64 k, .int .i64 md, .int .i64 lo, .int .i64 hi, .slice A n c] 88)) w' := fun wX hX =>
    (itoaS_any lo wX (hv.below (keep wX hX).1) f2.1 f2.2).mono fun e w' h => ⟨h.1, hX.trans (h.2.mono (by have := hX.size; simpa using this))⟩
  have i3 : ∀ wX, Below (w.heap.size + 1) (w.alloc (.cells #[.int .i64 k, .int .i64 md, .int .i64 lo, .int .i64 hi, .slice A n c] 88)) wX → Calls Tryd.prog 41 #[.int .i64 hi] wX fun e w' => e = .returned (.string (itoaS hi)) ∧ Below (w.heap.size + 1) (w.alloc (.cells #[.int .i64 k, .int .i64 md, .int .i64 lo, .int .i64 hi, .slice A n c] 88)) w' := fun wX hX =>
    (itoaS_any hi wX (hv.below (keep wX hX).1) f3.1 f3.2).mono fun e w' h => ⟨h.1, hX.trans (h.2.mono (by have := hX.size; simpa using this))⟩
  have z1 := itoaS_size md f1.1 f1.2
  have z2 := itoaS_size lo f2.1 f2.2
  have z3 := itoaS_size hi f3.1 f3.2
  have hW : wS md lo hi = if hi = lo then (if md = 0 then ⟨#[110]⟩ else ⟨#[110]⟩ ++ (⟨#[37]⟩ ++ itoaS md)) ++ (⟨#[61]⟩ ++ itoaS lo) else (if md = 0 then ⟨#[110]⟩ else ⟨#[110]⟩ ++ (⟨#[37]⟩ ++ itoaS md)) ++ (⟨#[61]⟩ ++ itoaS lo) ++ (⟨#[46, 46]⟩ ++ itoaS hi) := rfl
  generalize itoaS md = s1 at i1 z1 hW
  generalize itoaS lo = s2 at i2 z2 hW
  generalize itoaS hi = s3 at i3 z3 hW
  have HW := Lib.hid hW
  have I1 := Lib.hid i1
  have I2 := Lib.hid i2
  have I3 := Lib.hid i3
  have KP := Lib.hid keep
  have H0 := Lib.hid (Below.refl (w.heap.size + 1) (w.alloc (.cells #[.int .i64 k, .int .i64 md, .int .i64 lo, .int .i64 hi, .slice A n c] 88)))
  clear i1 i2 i3 keep hW hbx hw0 hv f1 f2 f3
  unfold TxtC eV
  by_cases hm : md = 0
  · have HW1 := Lib.hid (HW.out.trans (by rw [if_pos hm]))
    subst hm
    by_cases hh : hi = lo
    · have HW2 := Lib.hid (HW1.out.trans (if_pos hh))
      subst hh
      go_enter Tryd.func45, Tryd.ntmps45
      go_wp2_with fail
      refine (I2.out _ H0.out).mono ?_
      rintro e w2 ⟨rfl, hb2⟩
      obtain ⟨HBO, y1, y2, y3⟩ := KP.out _ hb2
      clear hb2
      go_wp2_with fail
      go_ret
      exact ⟨by rw [HW2.out]; rfl, HBO⟩
    · have HW2 := Lib.hid (HW1.out.trans (if_neg hh))
      go_enter Tryd.func45, Tryd.ntmps45
      go_wp2_with fail
      refine (I2.out _ H0.out).mono ?_
      rintro e w2 ⟨rfl, hb2⟩
      obtain ⟨HBO, y1, y2, y3⟩ := KP.out _ hb2
      have HB2 := Lib.hid hb2
      clear hb2
      go_wp2_with fail
      refine (I3.out _ HB2.out).mono ?_
      rintro e w3 ⟨rfl, hb3⟩
      obtain ⟨HBO3, y1, y2, y3⟩ := KP.out _ hb3
      clear hb3
      go_wp2_with fail
      go_ret
      exact ⟨by rw [HW2.out]; rfl, HBO3⟩
  · have HW1 := Lib.hid (HW.out.trans (by rw [if_neg hm]))
    by_cases hh : hi = lo
    · have HW2 := Lib.hid (HW1.out.trans (if_pos hh))
      subst hh
      go_enter Tryd.func45, Tryd.ntmps45
      go_wp2_with fail
      refine (I1.out _ H0.out).mono ?_
      rintro e w1 ⟨rfl, hb1⟩
      obtain ⟨HBO1, x1, x2, x3⟩ := KP.out _ hb1
      have HB1 := Lib.hid hb1
      clear hb1
      go_wp2_with fail
      refine (I2.out _ HB1.out).mono ?_
      rintro e w2 ⟨rfl, hb2⟩
      obtain ⟨HBO, y1, y2, y3⟩ := KP.out _ hb2
      clear hb2
      go_wp2_with fail
      go_ret
      exact ⟨by rw [HW2.out]; rfl, HBO⟩
    · have HW2 := Lib.hid (HW1.out.trans (if_neg hh))
      go_enter Tryd.func45, Tryd.ntmps45
      go_wp2_with fail
      refine (I1.out _ H0.out).mono ?_
      rintro e w1 ⟨rfl, hb1⟩
      obtain ⟨HBO1, x1, x2, x3⟩ := KP.out _ hb1
      have HB1 := Lib.hid hb1
      clear hb1
      go_wp2_with fail
      refine (I2.out _ HB1.out).mono ?_
      rintro e w2 ⟨rfl, hb2⟩
      obtain ⟨HBO, y1, y2, y3⟩ := KP.out _ hb2
      have HB2 := Lib.hid hb2
      clear hb2
      go_wp2_with fail
      refine (I3.out _ HB2.out).mono ?_
      rintro e w3 ⟨rfl, hb3⟩
      obtain ⟨HBO3, u1, u2, u3⟩ := KP.out _ hb3
      clear hb3
      go_wp2_with fail
      go_ret
      exact ⟨by rw [HW2.out]; rfl, HBO3⟩
abbrev JoinC (f : FuncId) (br : Bool) (sep : ByteArray) (A : Option Addr) (n c : Nat) (kd : Tst) (wX : World) : Prop :=
  Calls Tryd.prog 44 #[.slice A n c, .string sep, .func (.func f) #[] #[]] wX fun e w' => e = .returned (.string (joinS (kd.kL br) sep)) ∧ Below wX.heap.size wX w'
set_option maxRecDepth 100000 in
set_option maxHeartbeats 1600000 in
theorem testText_kids (k md lo hi : Int) (A : Option Addr) (n c : Nat) (kd : Tst) (w : World) (hbig : kd.nodes ≤ 1099511627776) (hfit : kd.fits) (hk : k = 2 ∨ k = 3 ∨ k = 4)
    (hA : ∀ wX, Below w.heap.size w wX → JoinC 79 true ⟨#[32, 38, 32]⟩ A n c kd wX) (hB : ∀ wX, Below w.heap.size w wX → JoinC 45 false ⟨#[32, 124, 32]⟩ A n c kd wX)
    (hC : ∀ wX, Below w.heap.size w wX → JoinC 79 true ⟨#[32, 124, 32]⟩ A n c kd wX) : TxtC 45 k md lo hi A n c w (tS k md lo hi kd) := by
  have hw0 : Below w.heap.size w (w.alloc (.cells #[.int .i64 k, .int .i64 md, .int .i64 lo, .int .i64 hi, .slice A n c] 88)) := (Below.refl _ _).alloc (Nat.le_refl _) _
  have H0 := Lib.hid hw0
  have z3 := kids_size kd true ⟨#[32, 124, 32]⟩ sep2 hfit
  unfold JoinC at hA hB hC
  clear hw0 hfit
  unfold TxtC eV
  rcases hk with rfl | rfl | rfl
  · rw [tS_2]
    have HC := Lib.hid hA
    clear hA hB hC z3
    go_enter Tryd.func45, Tryd.ntmps45
    go_wp2_with fail
    refine (HC.out _ H0.out).mono ?_
    rintro e w1 ⟨rfl, hb1⟩
    have HB := Lib.hid (H0.out.trans (hb1.mono H0.out.size))
    clear hb1
    go_wp2_with fail
    go_ret
    exact ⟨by rfl, HB.out⟩
  · rw [tS_3]
    have HC := Lib.hid hB
    clear hA hB hC z3
    go_enter Tryd.func45, Tryd.ntmps45
    go_wp2_with fail
    refine (HC.out _ H0.out).mono ?_
    rintro e w1 ⟨rfl, hb1⟩
    have HB := Lib.hid (H0.out.trans (hb1.mono H0.out.size))
    clear hb1
    go_wp2_with fail
    go_ret
    exact ⟨by rfl, HB.out⟩
  · rw [tS_4]
    clear hA hB
    generalize joinS (kd.kL true) ⟨#[32, 124, 32]⟩ = j at hC z3
    have z4 : j.size ≤ 140000000000000 := by omega
    have HC := Lib.hid hC
    clear hC z3
    go_enter Tryd.func45, Tryd.ntmps45
    go_wp2_with fail
    refine (HC.out _ H0.out).mono ?_
    rintro e w1 ⟨rfl, hb1⟩
    have HB := Lib.hid (H0.out.trans (hb1.mono H0.out.size))
    clear hb1
    go_wp2_with fail
    go_ret
    exact ⟨by rfl, HB.out⟩
end Go.Proofs.YtlifjhglpflplaaDoor
