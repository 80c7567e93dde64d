/- DERIVED. What is asked of all tests: lang.anyTest, checkRule. Condition: at most 2^40 tests. -/
import Derived.Test.YtlifjhglpflplaaDoorTstTop
namespace Go.Proofs.YtlifjhglpflplaaDoor
open Go.RowKit
set_option linter.unusedVariables false
set_option linter.unusedSimpArgs false
abbrev CallsEv (f : FuncId) (k md lo hi : Int) (A : Option Addr) (n c : Nat) (w : World) (b : Bool) : Prop := Calls Tryd.prog f #[eV k md lo hi A n c] w fun e w' => e = .returned (.bool b) ∧ Below w.heap.size w w'
set_option maxRecDepth 100000 in
theorem chk1_any (k md lo hi : Int) (A : Option Addr) (n c : Nat) (kd : Tst) (w : World) (hbig : kd.nodes ≤ 1099511627775) (ha : kd.At w w.heap.size A n) : CallsEv 70 k md lo hi A n c w (decide (20 < kd.nodes + 1)) := by
  have hw0 : Below w.heap.size w (w.alloc (.cells #[.int .i64 k, .int .i64 md, .int .i64 lo, .int .i64 hi, .slice A n c] 88)) := (Below.refl _ _).alloc (Nat.le_refl _) _
  have hc := countTests_any (kd.nodes + 1) k md lo hi A n c kd 20 _ (by omega) (by omega) (by omega) ((ha.below hw0).more hw0.size)
  have HC := Lib.hid hc
  have H0 := Lib.hid hw0
  clear hc hw0 ha
  unfold CallsEv
  unfold eV at HC ⊢
  go_enter Tryd.func70, Tryd.ntmps70
  go_wp2_with fail
  refine HC.out.mono ?_
  rintro e w1 ⟨r, rfl, h1, h2, h3, h4, hb⟩
  have HB := Lib.hid (H0.out.trans (hb.mono H0.out.size))
  have HR := Lib.hid (show decide (20 < kd.nodes + 1) = decide ((20 : Int) < (r : Int)) from by
    by_cases h : 20 < kd.nodes + 1
    · have := h4 h
      rw [decide_eq_true h, decide_eq_true (by omega)]
    · have := h3 (by omega)
      rw [decide_eq_false h, decide_eq_false (by omega)])
  clear hb h3 h4
  go_wp2_with fail
  go_ret
  exact ⟨by rw [HR.out]; rfl, HB.out⟩
set_option maxRecDepth 100000 in
theorem chk2_any (k md lo hi : Int) (A : Option Addr) (n c : Nat) (kd : Tst) (w : World) (hbig : kd.nodes ≤ 1099511627775) (ha : kd.At w w.heap.size A n) : CallsEv 72 k md lo hi A n c w (decide (12 < kd.depth + 1)) := by
  have hw0 : Below w.heap.size w (w.alloc (.cells #[.int .i64 k, .int .i64 md, .int .i64 lo, .int .i64 hi, .slice A n c] 88)) := (Below.refl _ _).alloc (Nat.le_refl _) _
  have hc := levels_any (kd.nodes + 1) k md lo hi A n c kd _ (by omega) (by omega) ((ha.below hw0).more hw0.size)
  have hdl := depth_le kd
  obtain ⟨d, hd⟩ : ∃ d, kd.depth + 1 = d := ⟨_, rfl⟩
  rw [hd] at hc ⊢
  have hdb : d ≤ 1099511627776 := by omega
  have HC := Lib.hid hc
  have H0 := Lib.hid hw0
  have HR := Lib.hid (show decide (12 < d) = decide ((12 : Int) < (d : Int)) from by
    by_cases h : 12 < d
    · rw [decide_eq_true h, decide_eq_true (by omega)]
    · rw [decide_eq_false h, decide_eq_false (by omega)])
  clear hc hw0 ha hd
  unfold CallsEv
  unfold eV at HC ⊢
  go_enter Tryd.func72, Tryd.ntmps72
  go_wp2_with fail
  refine HC.out.mono ?_
  rintro e w1 ⟨rfl, hb⟩
  have HB := Lib.hid (H0.out.trans (hb.mono H0.out.size))
  clear hb
  go_wp2_with fail
  go_ret
  exact ⟨by rw [HR.out]; rfl, HB.out⟩
set_option maxRecDepth 100000 in
theorem chk3_any (k md lo hi : Int) (A : Option Addr) (n c : Nat) (kd : Tst) (w : World) (hbig : kd.nodes ≤ 1099511627776) (hnc : n ≤ c) (ha : kd.At w w.heap.size A n) : CallsEv 75 k md lo hi A n c w (badF k md lo hi kd) := by
  have hw0 : Below w.heap.size w (w.alloc (.cells #[.int .i64 k, .int .i64 md, .int .i64 lo, .int .i64 hi, .slice A n c] 88)) := (Below.refl _ _).alloc (Nat.le_refl _) _
  have hc := fitsOp_any k md lo hi A n c kd _ hbig hnc ((ha.below hw0).more hw0.size)
  have HC := Lib.hid hc
  have H0 := Lib.hid hw0
  clear hc hw0 ha
  unfold CallsEv
  unfold eV at HC ⊢
  go_enter Tryd.func75, Tryd.ntmps75
  go_wp2_with fail
  refine HC.out.mono ?_
  rintro e w1 ⟨rfl, hb⟩
  have HB := Lib.hid (H0.out.trans (hb.mono H0.out.size))
  clear hb
  go_wp2_with fail
  go_ret
  exact ⟨by cases badF k md lo hi kd <;> rfl, HB.out⟩
set_option maxRecDepth 100000 in
theorem chk4_any (k md lo hi : Int) (A : Option Addr) (n c : Nat) (kd : Tst) (w : World) : CallsEv 77 k md lo hi A n c w (badR k md lo hi kd) := by
  have hw0 : Below w.heap.size w (w.alloc (.cells #[.int .i64 k, .int .i64 md, .int .i64 lo, .int .i64 hi, .slice A n c] 88)) := (Below.refl _ _).alloc (Nat.le_refl _) _
  have hc := isInRange_any k md lo hi A n c (w.alloc (.cells #[.int .i64 k, .int .i64 md, .int .i64 lo, .int .i64 hi, .slice A n c] 88))
  have HC := Lib.hid hc
  have H0 := Lib.hid hw0
  clear hc hw0
  unfold CallsEv badR
  unfold eV at HC ⊢
  go_enter Tryd.func77, Tryd.ntmps77
  go_wp2_with fail
  refine HC.out.mono ?_
  rintro e w1 ⟨rfl, hb⟩
  have HB := Lib.hid (H0.out.trans (hb.mono H0.out.size))
  clear hb
  go_wp2_with fail
  go_ret
  exact ⟨by cases rangeB md lo hi <;> rfl, HB.out⟩
/-- A function value that answers whether a test is so. -/
def Asks (p : TP) (f : FuncId) : Prop :=
  ∀ (k md lo hi : Int) (A : Option Addr) (n c : Nat) (kd : Tst) (w : World), kd.nodes ≤ 1099511627776 → n ≤ c → kd.At w w.heap.size A n → CallsEv f k md lo hi A n c w (p k md lo hi kd)
theorem anyE_anyT (p : TP) : ∀ d : Tst, anyE (fun k md lo hi c => p k md lo hi c || c.anyT p) d = d.anyT p
  | .nil => rfl
  | .cons k md lo hi c r => by
    show ((p k md lo hi c || c.anyT p) || anyE (fun k md lo hi c => p k md lo hi c || c.anyT p) r) = _
    rw [anyE_anyT p r]
    rfl
theorem anyE_anyK (q : Tst → Bool) : ∀ d : Tst, anyE (fun _ _ _ _ c => q c) d = d.anyK q
  | .nil => rfl
  | .cons k md lo hi c r => by
    unfold anyE Tst.anyK
    rw [anyE_anyK q r]
set_option maxRecDepth 100000 in
set_option maxHeartbeats 800000 in
theorem anyTest_gen (p : TP) (f : FuncId) (eg : ∀ args w, (callFunc f args).run Tryd.prog w = .ok (.enter f args) w) (hp : Asks p f) (a : Tst) (A : Option Addr) (n c : Nat) (w : World) (hbig : a.nodes ≤ 1099511627776) (ha : a.At w w.heap.size A n)
    (hc : ∀ (i : Nat) (k md lo hi : Int) (kd r : Tst), a.drop i = .cons k md lo hi kd r → ∀ (A1 : Option Addr) (n1 c1 : Nat) (wX : World), kd.At wX wX.heap.size A1 n1 →
      Calls Tryd.prog 74 #[.slice A1 n1 c1, .func (.func f) #[] #[]] wX fun e w' => e = .returned (.bool (kd.anyT p)) ∧ Below wX.heap.size wX w') :
    Calls Tryd.prog 74 #[.slice A n c, .func (.func f) #[] #[]] w fun e w' => e = .returned (.bool (a.anyT p)) ∧ Below w.heap.size w w' := by
  have ea : ∀ args w, (callFunc 108 args).run Tryd.prog w = .ok (.enter 108 args) w := enters_of Tryd.func108 (by kernel_rfl) rfl
  have hn : n ≤ 1099511627776 := Nat.le_trans (by rw [ha.len_eq]; exact Tst.len_le a) hbig
  have hw0 : Below w.heap.size w (w.alloc (.cells #[.func (.func f) #[] #[]] 90)) := (Below.refl _ _).alloc (Nat.le_refl _) _
  have hbx : (w.alloc (.cells #[.func (.func f) #[] #[]] 90)).cell? ⟨w.heap.size, 0, none⟩ = some (.func (.func f) #[] #[]) := by simp
  have hcl : ∀ (wX : World) (i : Nat), Below (w.heap.size + 1) (w.alloc (.cells #[.func (.func f) #[] #[]] 90)) wX → ∀ (k1 md lo hi : Int) (A1 : Option Addr) (n1 c1 : Nat) (kd r : Tst), a.drop i = .cons k1 md lo hi kd r → kd.At wX wX.heap.size A1 n1 → n1 ≤ c1 →
      Calls Tryd.prog 108 #[eV k1 md lo hi A1 n1 c1, .pointer (some ⟨w.heap.size, 0, none⟩)] wX fun e w' => e = .returned (.bool (p k1 md lo hi kd || kd.anyT p)) ∧ Below wX.heap.size wX w' := by
    intro wX i hX k1 md lo hi A1 n1 c1 kd r he hat hnc
    have hdn := Tst.nodes_drop' i a
    rw [he] at hdn
    simp only [Tst.nodes] at hdn
    have hXs := hX.size
    simp only [World.size_alloc] at hXs
    have hw1 : Below wX.heap.size wX (wX.alloc (.cells #[.int .i64 k1, .int .i64 md, .int .i64 lo, .int .i64 hi, .slice A1 n1 c1] 88)) := (Below.refl _ _).alloc (Nat.le_refl _) _
    have hfb := (hX.cell (p := ⟨w.heap.size, 0, none⟩) (by show w.heap.size < w.heap.size + 1; omega)).trans hbx
    have H1 := Lib.hid (hp k1 md lo hi A1 n1 c1 kd _ (by omega) hnc ((hat.below hw1).more hw1.size))
    have H2 := Lib.hid (fun wY (hY : Below (wX.heap.size + 1) (wX.alloc (.cells #[.int .i64 k1, .int .i64 md, .int .i64 lo, .int .i64 hi, .slice A1 n1 c1] 88)) wY) => hc i k1 md lo hi kd r he A1 n1 c1 wY (((hat.below hw1).below (hY.mono (by omega))).more (by have := hY.size; simp only [World.size_alloc] at this; omega)))
    have hbe := heap_alloc_new wX (.cells #[.int .i64 k1, .int .i64 md, .int .i64 lo, .int .i64 hi, .slice A1 n1 c1] 88)
    have hfb1 := (hw1.cell (p := ⟨w.heap.size, 0, none⟩) (by show w.heap.size < wX.heap.size; omega)).trans hfb
    have HW1 := Lib.hid hw1
    have HBE := Lib.hid hbe
    have HFB := Lib.hid hfb1
    unfold eV at H1 ⊢
    clear hw1 hbe hfb hat he hc hp hbx hX hnc
    have hfb2 := HFB.out
    go_enter Tryd.func108, Tryd.ntmps108
    go_wp2_with fail
    refine H1.out.mono ?_
    rintro e w2 ⟨rfl, hb2⟩
    simp only [World.size_alloc] at hb2
    obtain ⟨y0, y1, y2, y3, y4⟩ := box5 ((hb2.block wX.heap.size (by omega)).trans HBE.out)
    have hfb3 := (hb2.cell (p := ⟨w.heap.size, 0, none⟩) (by show w.heap.size < wX.heap.size + 1; omega)).trans HFB.out
    have HB2 := Lib.hid hb2
    clear hb2
    cases hz : p k1 md lo hi kd with
    | true =>
      go_wp2_with fail
      go_ret
      exact ⟨by simp [hz], HW1.out.trans (HB2.out.mono (by omega))⟩
    | false =>
      go_wp2_with fail
      refine (H2.out _ HB2.out).mono ?_
      rintro e w3 ⟨rfl, hb3⟩
      have HB3 := Lib.hid (HW1.out.trans ((HB2.out.mono (by omega)).trans (hb3.mono (by have := HB2.out.size; simp only [World.size_alloc] at this; omega))))
      clear hb3
      go_wp2_with fail
      go_ret
      exact ⟨by simp [hz], HB3.out⟩
  have hcf := containsT_any a (fun k md lo hi c => p k md lo hi c || c.anyT p) 108 #[.pointer (some ⟨w.heap.size, 0, none⟩)] A n c _ ea hn ((ha.below hw0).more hw0.size) (fun wX i hX k1 md lo hi A1 n1 c1 kd r he hat hnc _ _ _ _ _ => hcl wX i (by simpa using hX) k1 md lo hi A1 n1 c1 kd r he hat hnc)
  rw [anyE_anyT] at hcf
  have HC := Lib.hid hcf
  have H0 := Lib.hid hw0
  clear hcf hw0 hcl hbx ha hc hp ea
  go_enter Tryd.func74, Tryd.ntmps74
  go_wp2_with fail
  refine HC.out.mono ?_
  rintro e w1 ⟨rfl, hb1⟩
  have HB := Lib.hid (H0.out.trans (hb1.mono H0.out.size))
  clear hb1
  go_wp2_with fail
  go_ret
  exact ⟨rfl, HB.out⟩
theorem anyTest_any (p : TP) (f : FuncId) (eg : ∀ args w, (callFunc f args).run Tryd.prog w = .ok (.enter f args) w) (hp : Asks p f) (N : Nat) : ∀ (a : Tst) (A : Option Addr) (n c : Nat) (w : World), a.nodes ≤ N → a.nodes ≤ 1099511627776 → a.At w w.heap.size A n →
    Calls Tryd.prog 74 #[.slice A n c, .func (.func f) #[] #[]] w fun e w' => e = .returned (.bool (a.anyT p)) ∧ Below w.heap.size w w' := by
  induction N with
  | zero =>
    intro a A n c w hN hbig ha
    refine anyTest_gen p f eg hp a A n c w hbig ha fun i k md lo hi kd r he => ?_
    have h1 := Tst.nodes_drop' i a
    rw [he] at h1
    simp only [Tst.nodes] at h1
    omega
  | succ N ih =>
    intro a A n c w hN hbig ha
    refine anyTest_gen p f eg hp a A n c w hbig ha fun i k md lo hi kd r he A1 n1 c1 wX hat => ?_
    have h1 := Tst.nodes_drop' i a
    rw [he] at h1
    simp only [Tst.nodes] at h1
    exact ih kd A1 n1 c1 wX (by omega) (by omega) hat
end Go.Proofs.YtlifjhglpflplaaDoor
