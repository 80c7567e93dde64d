/- DERIVED. lang.testText of any test, lang.RuleString. Condition: at most 2^40 - 1 tests; the library's variables are as the program's text lays them. -/
import Derived.Test.YtlifjhglpflplaaDoorRStrC
import Derived.Test.YtlifjhglpflplaaDoorTstForm
namespace Go.Proofs.YtlifjhglpflplaaDoor
open Go.RowKit
set_option linter.unusedVariables false
set_option linter.unusedSimpArgs false
theorem brS_no (k : Int) (s : ByteArray) : brS false k s = s := by unfold brS; rw [if_neg (fun h => by cases h.1)]
theorem testText_step (k md lo hi : Int) (A : Option Addr) (n c : Nat) (kd : Tst) (w : World) (hv : Vars w) (hbig : kd.nodes ≤ 1099511627776) (f1 : I64 md) (f2 : I64 lo) (f3 : I64 hi) (ha : kd.At w w.heap.size A n)
    (hc : ∀ (i : Nat) (k1 m1 l1 h1 : Int) (kd1 r : Tst), kd.drop i = .cons k1 m1 l1 h1 kd1 r → ∀ (A1 : Option Addr) (n1 c1 : Nat) (wX : World), Vars wX → I64 m1 → I64 l1 → I64 h1 → kd1.At wX wX.heap.size A1 n1 → TxtC 45 k1 m1 l1 h1 A1 n1 c1 wX (tS k1 m1 l1 h1 kd1)) :
    TxtC 45 k md lo hi A n c w (tS k md lo hi kd) := by
  have et : ∀ args w, (callFunc 45 args).run Tryd.prog w = .ok (.enter 45 args) w := enters_of Tryd.func45 (by kernel_rfl) rfl
  have ek : ∀ args w, (callFunc 79 args).run Tryd.prog w = .ok (.enter 79 args) w := enters_of Tryd.func79 (by kernel_rfl) rfl
  have hat : ∀ wX, Below w.heap.size w wX → kd.At wX wX.heap.size A n := fun wX hX => (ha.below hX).more hX.size
  have t1 : ∀ wX, Below w.heap.size w wX → TellsS kd false 45 #[] wX := fun wX hX wY i hY k1 m1 l1 h1 A1 n1 c1 kd1 r he hat1 _ _ _ g1 g2 g3 => by
    rw [brS_no]
    exact hc i k1 m1 l1 h1 kd1 r he A1 n1 c1 wY (hv.below (hX.trans (hY.mono hX.size))) (i64_of g1) (i64_of g2) (i64_of g3) hat1
  have t2 : ∀ wX, Below w.heap.size w wX → TellsS kd true 79 #[] wX := fun wX hX wY i hY k1 m1 l1 h1 A1 n1 c1 kd1 r he hat1 _ _ _ g1 g2 g3 =>
    kidText_of k1 m1 l1 h1 A1 n1 c1 wY (tS k1 m1 l1 h1 kd1) (by
      have hn1 := Tst.nodes_drop' i kd
      rw [he] at hn1
      simp only [Tst.nodes] at hn1
      have h2 := tS_size k1 m1 l1 h1 kd1 (i64_of g1) (i64_of g2) (i64_of g3) hat1.fits
      omega) (fun wZ hZ => hc i k1 m1 l1 h1 kd1 r he A1 n1 c1 wZ (hv.below ((hX.trans (hY.mono hX.size)).trans (hZ.mono (Nat.le_trans hX.size hY.size)))) (i64_of g1) (i64_of g2) (i64_of g3) ((hat1.below hZ).more hZ.size))
  by_cases hk : k = 2 ∨ k = 3 ∨ k = 4
  · exact testText_kids k md lo hi A n c kd w hbig ha.fits hk
      (fun wX hX => joinT_any kd true _ sep1 79 #[] A n c wX ek hbig (hat wX hX) (t2 wX hX))
      (fun wX hX => joinT_any kd false _ sep2 45 #[] A n c wX et hbig (hat wX hX) (t1 wX hX))
      (fun wX hX => joinT_any kd true _ sep2 79 #[] A n c wX ek hbig (hat wX hX) (t2 wX hX))
  · rw [tS_else md lo hi kd (by omega) (by omega) (by omega)]
    exact testText_in k md lo hi A n c w hv f1 f2 f3 (by omega) (by omega) (by omega)
theorem testText_any (N : Nat) : ∀ (k md lo hi : Int) (A : Option Addr) (n c : Nat) (kd : Tst) (w : World), kd.nodes ≤ N → kd.nodes ≤ 1099511627776 → Vars w → I64 md → I64 lo → I64 hi → kd.At w w.heap.size A n → TxtC 45 k md lo hi A n c w (tS k md lo hi kd) := by
  induction N with
  | zero =>
    intro k md lo hi A n c kd w hN hbig hv f1 f2 f3 ha
    refine testText_step k md lo hi A n c kd w hv hbig f1 f2 f3 ha fun i k1 m1 l1 h1 kd1 r he => ?_
    have h2 := Tst.nodes_drop' i kd
    rw [he] at h2
    simp only [Tst.nodes] at h2
    omega
  | succ N ih =>
    intro k md lo hi A n c kd w hN hbig hv f1 f2 f3 ha
    refine testText_step k md lo hi A n c kd w hv hbig f1 f2 f3 ha fun i k1 m1 l1 h1 kd1 r he A1 n1 c1 wX hvX g1 g2 g3 hat => ?_
    have h2 := Tst.nodes_drop' i kd
    rw [he] at h2
    simp only [Tst.nodes] at h2
    exact ih k1 m1 l1 h1 A1 n1 c1 kd1 wX (by omega) (by omega) hvX g1 g2 g3 hat
/-- A rule's string. -/
def ruleS (d : Tst) : ByteArray := joinS (d.kL false) ⟨#[59, 32]⟩
def ruleV (d : Tst) : Value := if ruleErr d = 0 then (if 2000 < (ruleS d).size then .tuple #[.string ⟨#[]⟩, .int .i64 4] else .tuple #[.string (ruleS d), .int .i64 0]) else .tuple #[.string ⟨#[]⟩, .int .i64 (ruleErr d)]
theorem forms_any (d : Tst) (A : Option Addr) (n c : Nat) (w : World) (hv : Vars w) (hbig : d.nodes ≤ 1099511627775) (ha : d.At w w.heap.size A n) : JoinC 45 false ⟨#[59, 32]⟩ A n c d w :=
  joinT_any d false _ sep3 45 #[] A n c w (enters_of Tryd.func45 (by kernel_rfl) rfl) (by omega) ha fun wY i hY k1 m1 l1 h1 A1 n1 c1 kd1 r he hat1 _ _ _ g1 g2 g3 => by
    rw [brS_no]
    have h2 := Tst.nodes_drop' i d
    rw [he] at h2
    simp only [Tst.nodes] at h2
    exact testText_any kd1.nodes k1 m1 l1 h1 A1 n1 c1 kd1 wY (Nat.le_refl _) (by omega) (hv.below hY) (i64_of g1) (i64_of g2) (i64_of g3) hat1
set_option maxRecDepth 100000 in
set_option maxHeartbeats 800000 in
theorem ruleString_any (d : Tst) (A : Option Addr) (n c : Nat) (w : World) (hv : Vars w) (hbig : d.nodes ≤ 1099511627775) (ha : d.At w w.heap.size A n) :
    Calls Tryd.prog 16 #[.agg #[.slice A n c]] w fun e w' => e = .returned (ruleV d) ∧ Below w.heap.size w w' := by
  have hw0 : Below w.heap.size w (w.alloc (.cells #[.slice A n c] 35)) := (Below.refl _ _).alloc (Nat.le_refl _) _
  have hbx := heap_alloc_new w (.cells #[.slice A n c] 35)
  have H1 := Lib.hid (checkRule_any d A n c _ hbig ((ha.below hw0).more hw0.size))
  have h2 : ∀ wX, Below w.heap.size w wX → JoinC 45 false ⟨#[59, 32]⟩ A n c d wX := fun wX hX => forms_any d A n c wX (hv.below hX) hbig ((ha.below hX).more hX.size)
  have H0 := Lib.hid hw0
  have HBX := Lib.hid hbx
  clear ha hw0 hbx hv
  by_cases hE : ruleErr d = 0
  · have hO : ruleV d = (if 2000 < (ruleS d).size then .tuple #[.string ⟨#[]⟩, .int .i64 4] else .tuple #[.string (ruleS d), .int .i64 0]) := by unfold ruleV; rw [if_pos hE]
    have h3 : ∀ wX, Below w.heap.size w wX → Calls Tryd.prog 44 #[.slice A n c, .string ⟨#[59, 32]⟩, .func (.func 45) #[] #[]] wX fun e w' => e = .returned (.string (ruleS d)) ∧ Below wX.heap.size wX w' := h2
    rw [hE] at H1
    generalize ruleS d = s at hO h3
    have H2 := Lib.hid h3
    clear hE h2 h3
    by_cases hs : 2000 < s.size
    · have HO := Lib.hid (hO.trans (if_pos hs))
      have hsi : (2000 : Int) < (s.size : Int) := by omega
      clear hO
      go_enter Tryd.func16, Tryd.ntmps16
      go_wp2_with fail
      refine H1.out.mono ?_
      rintro e w1 ⟨rfl, hb1⟩
      simp only [World.size_alloc] at hb1
      have y1 := box1 ((hb1.block w.heap.size (by omega)).trans HBX.out)
      have HB1 := Lib.hid (H0.out.trans (hb1.mono (by omega)))
      clear hb1
      go_wp2_with fail
      refine (H2.out _ HB1.out).mono ?_
      rintro e w2 ⟨rfl, hb2⟩
      have HB2 := Lib.hid (HB1.out.trans (hb2.mono HB1.out.size))
      clear hb2
      go_wp2_with fail
      go_ret2
      exact ⟨by rw [HO.out]; rfl, HB2.out⟩
    · have HO := Lib.hid (hO.trans (if_neg hs))
      have hsi : ¬ (2000 : Int) < (s.size : Int) := by omega
      clear hO
      go_enter Tryd.func16, Tryd.ntmps16
      go_wp2_with fail
      refine H1.out.mono ?_
      rintro e w1 ⟨rfl, hb1⟩
      simp only [World.size_alloc] at hb1
      have y1 := box1 ((hb1.block w.heap.size (by omega)).trans HBX.out)
      have HB1 := Lib.hid (H0.out.trans (hb1.mono (by omega)))
      clear hb1
      go_wp2_with fail
      refine (H2.out _ HB1.out).mono ?_
      rintro e w2 ⟨rfl, hb2⟩
      have HB2 := Lib.hid (HB1.out.trans (hb2.mono HB1.out.size))
      clear hb2
      go_wp2_with fail
      go_ret2
      exact ⟨by rw [HO.out]; rfl, HB2.out⟩
  · have HO := Lib.hid (show ruleV d = .tuple #[.string ⟨#[]⟩, .int .i64 (ruleErr d)] by unfold ruleV; rw [if_neg hE])
    obtain ⟨er, her⟩ : ∃ er, ruleErr d = er := ⟨_, rfl⟩
    rw [her] at H1 HO hE
    have hne : (er != 0) = true := by simpa using hE
    clear her h2
    go_enter Tryd.func16, Tryd.ntmps16
    go_wp2_with fail
    refine H1.out.mono ?_
    rintro e w1 ⟨rfl, hb1⟩
    have HB1 := Lib.hid (H0.out.trans (hb1.mono H0.out.size))
    clear hb1
    go_wp2_with fail
    go_ret2
    exact ⟨by rw [HO.out]; rfl, HB1.out⟩
end Go.Proofs.YtlifjhglpflplaaDoor
