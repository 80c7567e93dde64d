/- DERIVED. THE STATEMENT ListPagesSaid: for every two numbers ListPages returns true, and each argument reads afterwards as it read before. No condition of ours. -/
import Derived.Test.YtkkimcefjelnbaaPages
import Derived.Laws.OwnMore
import Derived.BigQuiet
import Derived.Deep.QuietTactic
import Derived.Deep.Draws
import Derived.WalkSmall
import Derived.ProofKit
import Derived.OpenShut
import Derived.ChangeOld
namespace Go.Proofs.Ytkkimcefjelnbaa.listPagesDone
open Go.ChangeShapes Go.WideShapes Go.ChangeAt Go.RowKit
set_option linter.unusedVariables false
/-- Two rows of parts in memory that read the same. -/
def TwoParts (w : World) (A A' : Option Addr) (n : Nat) : Prop :=
  ∀ i, i < n → ∃ (b b' : Nat) (x y z : Int), A = some ⟨b, 0, none⟩ ∧ A' = some ⟨b', 0, none⟩ ∧ w.cell? ⟨b, i * 3, none⟩ = some (.int .i64 x) ∧ w.cell? ⟨b, i * 3 + 1, none⟩ = some (.int .i64 y) ∧ w.cell? ⟨b, i * 3 + 2, none⟩ = some (.int .i64 z) ∧
    w.cell? ⟨b', i * 3, none⟩ = some (.int .i64 x) ∧ w.cell? ⟨b', i * 3 + 1, none⟩ = some (.int .i64 y) ∧ w.cell? ⟨b', i * 3 + 2, none⟩ = some (.int .i64 z)
set_option maxRecDepth 100000 in
set_option maxHeartbeats 400000 in
theorem equal_same (A A' : Option Addr) (n c c' : Nat) (w : World) (hn : n ≤ 4000) (h : TwoParts w A A' n) :
    Calls Try.prog 9 #[.slice A n c, .slice A' n c'] w fun e w' => e = .returned (.bool true) ∧ Below w.heap.size w w' := by
  have HT := Lib.hid h; clear h
  have hne : (!((n : Int) == (n : Int))) = false := by simp
  go_enter Try.func9, Try.ntmps9
  go_wp2
  go_loopw [13] (fun i wr => ∃ k q : Nat, k ≤ n ∧ i = .int .i64 k ∧ wr = w.drewN q) (fun i _ => n - (intOf i).toNat)
  case atStart => exact ⟨0, 0, Nat.zero_le _, rfl, rfl⟩
  case round =>
    obtain ⟨k, q, hk, rfl, rfl⟩ := hrel
    by_cases hlt : k < n
    · obtain ⟨b, b', x, y, z, rfl, rfl, h1, h2, h3, g1, g2, g3⟩ := HT.out k hlt
      go_wp2
      go_quiet (fail)
      go_wp2
      go_roundw
      case rel => exact ⟨k + 1, _, by omega, by go_num, rfl⟩
      case measure => simp [intOf]; omega
    · go_wp2
      go_ret
      exact ⟨rfl, below_drewN (Below.refl _ _) _⟩
/-- Two owned rows of the same parts. -/
theorem two_of_own {w w1 : World} {m s k B B' : Nat} {g g' cap cap' : Nat} (h : w.ownsRow B 28 3 (.slice (some ⟨g, 0, none⟩) k cap) k (pagesL m s k)) (hb : Below B' w w1) (hg : g < B')
    (h' : w1.ownsRow B' 28 3 (.slice (some ⟨g', 0, none⟩) k cap') k (pagesL m s k)) : TwoParts w1 (some ⟨g, 0, none⟩) (some ⟨g', 0, none⟩) k := fun i hi => by
  obtain ⟨x0, x1, x2⟩ := pagesL_get m s k i hi
  have hc : ∀ j, j < k * 3 → w1.cell? ⟨g, j, none⟩ = (pagesL m s k)[j]? := fun j hj => (hb.cell (p := ⟨g, j, none⟩) hg).trans (h.cellAt j hj)
  have hc' : ∀ j, j < k * 3 → w1.cell? ⟨g', j, none⟩ = (pagesL m s k)[j]? := fun j hj => h'.cellAt j hj
  exact ⟨g, g', _, _, _, rfl, rfl, (hc _ (by omega)).trans x0, (hc _ (by omega)).trans x1, (hc _ (by omega)).trans x2, (hc' _ (by omega)).trans x0, (hc' _ (by omega)).trans x1, (hc' _ (by omega)).trans x2⟩
set_option maxRecDepth 100000 in
set_option maxHeartbeats 800000 in
theorem walk (m s : Int) (w : World) :
    Calls Try.prog 3 #[.int .i64 m, .int .i64 s] w fun e w' => e = .returned (.bool true) ∧ Below w.heap.size w w' := by
  by_cases h : m < 0 ∨ 2000 < m ∨ s < 1 ∨ 2000 < s
  · have H1 := Lib.hid (fun wX => pager_bad m s wX h)
    have H2 := Lib.hid (fun wX => pagerOf_bad m s wX h)
    have H3 := Lib.hid (fun wX => equal_same none none 0 0 0 wX (by omega) (fun i hi => absurd hi (by omega)))
    clear h
    go_enter Try.func3, Try.ntmps3
    go_wp2_with fail
    refine (H1.out _).mono ?_
    rintro e w' ⟨rfl, rfl⟩
    go_wp2_with fail
    refine (H2.out _).mono ?_
    rintro e w' ⟨rfl, rfl⟩
    go_wp2_with fail
    refine (H3.out _).mono ?_
    rintro e w' ⟨rfl, hb⟩
    go_wp2_with fail
    go_ret
    exact ⟨rfl, hb⟩
  · obtain ⟨a, rfl⟩ : ∃ a : Nat, m = a := ⟨m.toNat, by omega⟩
    obtain ⟨b, rfl⟩ : ∃ b : Nat, s = b := ⟨s.toNat, by omega⟩
    have H1 := Lib.hid (fun wX => pager_any a b wX (by omega) (by omega) (by omega))
    have H2 := Lib.hid (fun wX => pagerOf_any a b wX (by omega) (by omega) (by omega))
    clear h
    go_enter Try.func3, Try.ntmps3
    go_wp2_with fail
    refine (H1.out _).mono ?_
    rintro e w1 ⟨k, v, hk, hk4, rfl, hown, hb1⟩
    have HK := Lib.hid hk; clear hk
    have HO := Lib.hid hown; clear hown
    go_wp2_with fail
    refine (H2.out _).mono ?_
    rintro e w2 ⟨k', v', hk', hk4', rfl, hown', hb2⟩
    obtain rfl := hk'.eq HK.out
    clear hk'
    obtain ⟨g, cap, rfl, hg1, hg2⟩ := HO.out.form HK.out.1
    obtain ⟨g', cap', rfl, hg1', hg2'⟩ := hown'.form HK.out.1
    have H3 := Lib.hid (fun wX (hX : wX = w2) => equal_same _ _ _ cap cap' wX hk4 (hX ▸ two_of_own HO.out hb2 hg2 hown'))
    clear hown' HO
    go_wp2_with fail
    refine (H3.out _ rfl).mono ?_
    rintro e w3 ⟨rfl, hb3⟩
    go_wp2_with fail
    go_ret
    exact ⟨rfl, hb1.trans ((hb2.mono hb1.size).trans (hb3.mono (Nat.le_trans hb1.size hb2.size)))⟩
/-! ### The row's step -/
theorem own : ownKnob Try.prog.godebug = none := by kernel_rfl
set_option maxRecDepth 100000 in
theorem lifted (os : Os) (started : os.Started) (H : Type) (enc : TypeId × Value → H) :
    ReturnsInHanded {} Try.checked os 3 .any (Rows.listPagesSpec.pre6 enc Try.prog Try.f3 Rows.listPagesRow.domain false) (Rows.listPagesSpec.post enc Try.prog Try.f3 false true false false) := by
  refine returnsInHanded_of_change (C := Try.checked) own started (by kernel_rfl) Try.func3
    (ChangeSpec.witness6 (enc := enc) (C := Try.checked) false ⟨#[], #[.int .i64 0, .int .i64 0], []⟩ 8 (by kernel_rfl) (by kernel_rfl) (by kernel_rfl) (by kernel_rfl)) ?_
  intro W base args ds gs before hval0 hW hcnd _
  have hval : ∀ (j : Nat) t v, Try.f3.params[j]? = some t → args[j]? = some v → Value.okWide Try.prog W .any base t v := hval0
  have hW' := hW
  obtain ⟨p, q, hA0, hV, rfl, hfz, hnd⟩ := hW
  have hA : DataW.TrodAll enc Try.prog W 0 (fun _ => true) true Try.f3.params.toList args.toList ds p := hA0
  rw [Try.params3] at hA hval
  obtain ⟨v0, vs0, d0, ds0, p0, q0, hargs, rfl, rfl, h0, r0⟩ := trodAll_cons hA
  obtain ⟨v1, vs1, d1, ds1, p1, q1, rfl, rfl, rfl, h1, r1⟩ := trodAll_cons r0
  obtain ⟨rfl, rfl, rfl⟩ := trodAll_nil r1
  obtain rfl : args = #[v0, v1] := by cases args; simp_all
  obtain ⟨rfl, rfl⟩ := trodVars_none hV
  obtain ⟨a0, rfl, rfl, rfl, w0⟩ := open_int Try.underlying3 (hval 0 3 v0 rfl rfl) h0
  obtain ⟨a1, rfl, rfl, rfl, w1⟩ := open_int Try.underlying3 (hval 1 3 v1 rfl rfl) h1
  clear hA0 hval0
  simp only [List.append_nil] at hW'
  refine (walk a0 a1 W).mono fun e W' ⟨he, bel⟩ => ?_
  subst he
  exact ⟨_, rfl, _, _, _, [], _, [], hW', trodAll_mk1 (shut_bool Try.underlying4 _), (trodAll_cons_mk (shut_int Try.underlying3 w0) (trodAll_cons_mk (shut_int Try.underlying3 w1) trodAll_mk0)), rfl, bel.frame _, fun h => by cases h⟩

theorem over : Rows.listPagesRow.holds Try.pinned (OpenSpec.ofChange Rows.listPagesSpec) :=
  OpenClaim.holds_of_wide 3 Try.f3 rfl rfl rfl rfl rfl rfl rfl ⟨rfl, rfl, rfl, rfl, rfl⟩ rfl rfl rfl rfl rfl (by kernel_rfl) Try.func3 (by kernel_rfl)
    (of_decide_eq_true (by kernel_rfl)) (by unfold Func.isWrapper; first | (rw [if_pos (by decide +kernel)]; kernel_rfl) | (rw [if_neg (by decide +kernel)]; exact ⟨rfl, rfl⟩))
    (fun os started H enc _ => lifted os started H enc)
theorem proved : Rows.ListPagesSaid := over
#print axioms proved
end Go.Proofs.Ytkkimcefjelnbaa.listPagesDone
