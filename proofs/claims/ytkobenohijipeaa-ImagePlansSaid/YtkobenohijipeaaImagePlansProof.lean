/- DERIVED. THE STATEMENT ImagePlansSaid: for every two numbers and every want ImagePlans returns true, and each argument reads afterwards as it read before. No condition of ours. -/
import Derived.Test.YtkobenohijipeaaPlanR
import Derived.Test.YtkobenohijipeaaPlanV
import Derived.Laws.OwnMore
import Derived.BigQuiet
import Derived.Deep.QuietTactic
import Derived.Deep.Draws
import Derived.WalkSmall
import Derived.ProofKit
import Derived.OpenShut
import Derived.ChangeOld
import Derived.Lib.SmallJoins
namespace Go.Proofs.Ytkobenohijipeaa.imagePlansDone
open Go.ChangeShapes Go.WideShapes Go.ChangeAt Go.RowKit
set_option linter.unusedVariables false
theorem own : ownKnob Try.prog.godebug = none := by kernel_rfl
theorem laidOut : laidOutB Try.prog = true := by kernel_rfl
theorem planR_form (W H y ww wh : Int) : ∃ x0 x1 x2 x3 x4 x5, planR W H y ww wh = cutV x0 x1 x2 x3 x4 x5 := by
  unfold planR planV
  split
  · split
    · exact ⟨_, _, _, _, _, _, rfl⟩
    · split <;> exact ⟨_, _, _, _, _, _, rfl⟩
  · exact ⟨_, _, _, _, _, _, rfl⟩
set_option maxRecDepth 100000 in
set_option maxHeartbeats 800000 in
theorem walk (W H y ww wh : Int) (w : World) :
    Calls Try.prog 5 #[.int .i64 W, .int .i64 H, .agg #[.int .i64 y, .int .i64 ww, .int .i64 wh]] w fun e w' => e = .returned (.bool true) ∧ Below w.heap.size w w' := by
  have H1 := Lib.hid (fun wX => plan_any W H y ww wh wX)
  have H2 := Lib.hid (fun wX => planOf_any W H y ww wh wX)
  obtain ⟨x0, x1, x2, x3, x4, x5, hx⟩ := planR_form W H y ww wh
  obtain ⟨er, her⟩ : ∃ er, planE W H y ww wh = er := ⟨_, rfl⟩
  rw [hx, her] at H1 H2
  unfold cutV at H1 H2
  clear hx her
  go_enter Try.func5, Try.ntmps5
  go_wp2_with fail
  refine (H1.out _).mono ?_
  rintro e w1 ⟨rfl, hb1⟩
  have hw1 : Below w.heap.size w w1 := ((Below.refl _ w).alloc (Nat.le_refl _) _).trans (hb1.mono (by simp))
  have o0 : w1.heap[w.heap.size]? = some (.cells #[.int .i64 y, .int .i64 ww, .int .i64 wh] 34 (0, 0)) := (hb1.block _ (by simp)).trans (heap_alloc_new _ _)
  have e0 : w1.cell? ⟨w.heap.size, 0, none⟩ = some (.int .i64 y) := by rw [cell_of_row _ _ _ _ _ _ o0]; rfl
  have e1 : w1.cell? ⟨w.heap.size, 1, none⟩ = some (.int .i64 ww) := by rw [cell_of_row _ _ _ _ _ _ o0]; rfl
  have e2 : w1.cell? ⟨w.heap.size, 2, none⟩ = some (.int .i64 wh) := by rw [cell_of_row _ _ _ _ _ _ o0]; rfl
  have hlt : w.heap.size < w1.heap.size := lt_block o0
  have HW := Lib.hid hw1
  clear hb1 hw1 o0
  go_wp2_with fail
  refine (H2.out _).mono ?_
  rintro e w2 ⟨rfl, hb2⟩
  have o1 : w2.heap[w1.heap.size]? = some (.cells (ints6 x0 x1 x2 x3 x4 x5) 36 (0, 0)) := (hb2.block _ (by simp)).trans (heap_alloc_new _ _)
  have hw2 : Below w.heap.size w w2 := HW.out.trans (((Below.refl _ w1).alloc (Nat.le_refl _) _).mono (by omega) |>.trans (hb2.mono (by simp; omega)))
  obtain ⟨⟨c0, -⟩, ⟨c1, -⟩, ⟨c2, -⟩, ⟨c3, -⟩, ⟨c4, -⟩, ⟨c5, -⟩⟩ := six o1
  have hl2 : w1.heap.size < w2.heap.size := lt_block o1
  have HW2 := Lib.hid hw2
  clear hb2 hw2 o1 e0 e1 e2
  go_wp2_with fail
  go_ret
  exact ⟨by simp, HW2.out.alloc HW2.out.size _⟩
/-! ### The row's step -/
set_option maxRecDepth 100000 in
theorem lifted (os : Os) (started : os.Started) (H : Type) (enc : TypeId × Value → H) :
    ReturnsInHanded {} Try.checked os 5 .any (Rows.imagePlansSpec.pre6 enc Try.prog Try.f5 Rows.imagePlansRow.domain false) (Rows.imagePlansSpec.post enc Try.prog Try.f5 false true false false) := by
  refine returnsInHanded_of_change (C := Try.checked) own started (by kernel_rfl) Try.func5
    (ChangeSpec.witness6 (enc := enc) (C := Try.checked) false ⟨#[], #[.int .i64 0, .int .i64 0, .agg #[.int .i64 0, .int .i64 0, .int .i64 0]], []⟩ 8 (by kernel_rfl) (by kernel_rfl) (by kernel_rfl) (by kernel_rfl)) ?_
  intro W base args ds gs before hval0 hW hcnd _
  have hval : ∀ (j : Nat) t v, Try.f5.params[j]? = some t → args[j]? = some v → Value.okWide Try.prog W .any base t v := hval0
  have hW' := hW
  obtain ⟨p, q, hA0, hV, rfl, hfz, hnd⟩ := hW
  have hA : DataW.TrodAll enc Try.prog W 0 (fun _ => true) true Try.f5.params.toList args.toList ds p := hA0
  rw [Try.params5] at hA hval
  obtain ⟨v0, vs0, d0, ds0, p0, q0, hargs, rfl, rfl, h0, r0⟩ := trodAll_cons hA
  obtain ⟨v1, vs1, d1, ds1, p1, q1, rfl, rfl, rfl, h1, r1⟩ := trodAll_cons r0
  obtain ⟨v2, vs2, d2, ds2, p2, q2, rfl, rfl, rfl, h2, r2⟩ := trodAll_cons r1
  obtain ⟨rfl, rfl, rfl⟩ := trodAll_nil r2
  obtain rfl : args = #[v0, v1, v2] := by cases args; simp_all
  obtain ⟨rfl, rfl⟩ := trodVars_none hV
  obtain ⟨a0, rfl, rfl, rfl, w0⟩ := open_int Try.underlying3 (hval 0 3 v0 rfl rfl) h0
  obtain ⟨a1, rfl, rfl, rfl, w1⟩ := open_int Try.underlying3 (hval 1 3 v1 rfl rfl) h1
  have k2 := h2
  have lt2 : ∀ x ∈ p2, x.block < W.heap.size := by obtain ⟨m, hm⟩ := k2; exact DataW.trod_lt m _ _ _ hm
  obtain ⟨u0, u1, u2, y0, y1, y2, fu, rfl, rfl, hp0, t0, t1, t2⟩ := Joins.open_agg3 Try.underlying34 (by kernel_rfl) (by kernel_rfl) (hval 2 34 v2 rfl rfl) k2
  obtain ⟨n0, e0, g0, z0⟩ := DataW.trod_int Try.underlying3 t0
  obtain ⟨n1, e1, g1, z1⟩ := DataW.trod_int Try.underlying3 t1
  obtain ⟨n2, e2, g2, z2⟩ := DataW.trod_int Try.underlying3 t2
  simp at e0 e1 e2
  subst e0 e1 e2
  clear hA0 hval0
  simp only [List.append_nil] at hW'
  refine (walk a0 a1 n0 n1 n2 W).mono fun e W' ⟨he, bel⟩ => ?_
  subst he
  exact ⟨_, rfl, _, _, _, [], _, [], hW', trodAll_mk1 (shut_bool Try.underlying4 _), (trodAll_cons_mk (shut_int Try.underlying3 w0) (trodAll_cons_mk (shut_int Try.underlying3 w1) (trodAll_cons_mk (Below.trod laidOut (by kernel_rfl) (of_decide_eq_true (by kernel_rfl)) k2 bel lt2) trodAll_mk0))), rfl, bel.frame _, fun h => by cases h⟩
theorem over : Rows.imagePlansRow.holds Try.pinned (OpenSpec.ofChange Rows.imagePlansSpec) :=
  OpenClaim.holds_of_wide 5 Try.f5 rfl rfl rfl rfl rfl rfl rfl ⟨rfl, rfl, rfl, rfl, rfl⟩ rfl rfl rfl rfl rfl (by kernel_rfl) Try.func5 (by kernel_rfl)
    (of_decide_eq_true (by kernel_rfl)) (by unfold Func.isWrapper; first | (rw [if_pos (by decide +kernel)]; kernel_rfl) | (rw [if_neg (by decide +kernel)]; exact ⟨rfl, rfl⟩))
    (fun os started H enc _ => lifted os started H enc)
theorem proved : Rows.ImagePlansSaid := over
#print axioms proved
end Go.Proofs.Ytkobenohijipeaa.imagePlansDone
