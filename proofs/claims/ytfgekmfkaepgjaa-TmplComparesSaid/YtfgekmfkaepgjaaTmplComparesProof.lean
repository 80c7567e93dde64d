/- DERIVED. THE STATEMENT TmplComparesSaid: for every two values TmplCompares returns true, and each argument reads afterwards as it read before. No condition of ours. -/
import Derived.Test.YtfgekmfkaepgjaaTCmp
import Derived.Test.YtfgekmfkaepgjaaConfKit
import Derived.Test.YtfgekmfkaepgjaaChecked
import Derived.Test.YtfgekmfkaepgjaaRows
import Derived.ProofKit
import Derived.OpenShut
import Derived.ChangeOld
namespace Go.Proofs.Ytfgekmfkaepgjaa.tmplComparesDone
open Go.ChangeShapes Go.WideShapes Go.ChangeAt Go.RowKit Go.Deep
set_option linter.unusedVariables false

theorem own : ownKnob Try.prog.godebug = none := by kernel_rfl
theorem laidOut : laidOutB Try.prog = true := by kernel_rfl

set_option maxRecDepth 100000 in
set_option maxHeartbeats 1000000 in
theorem law_any (a b : Top) (w : World) :
    Calls Try.prog 4 #[a.val, b.val] w fun e w' => e = .returned (.bool true) ∧ Below w.heap.size w w' := by
  have hc1 := fun wX => tcompare_any a b wX
  have hc2 := fun wX => tcompared_any a b wX
  generalize tcN a b = x at hc1 hc2
  generalize tcE a b = y at hc1 hc2
  have HB := fun (w1 : World) (h : Below (w.heap.size + 2) ((w.alloc a.box).alloc b.box) w1) => below_box2 h
  have HX := fun (w1 : World) (h : Below (w.heap.size + 2) ((w.alloc a.box).alloc b.box) w1) => boxV12 h
  have hb0 := Below.refl (w.heap.size + 2) ((w.alloc a.box).alloc b.box)
  obtain ⟨ka, boa, ia, ta, A1a, n1a, c1a, A2a, n2a, c2a⟩ := a
  obtain ⟨kb, bob, ib, tb, A1b, n1b, c1b, A2b, n2b, c2b⟩ := b
  generalize hW2 : (w.alloc (Top.box ⟨ka, boa, ia, ta, A1a, n1a, c1a, A2a, n2a, c2a⟩)).alloc (Top.box ⟨kb, bob, ib, tb, A1b, n1b, c1b, A2b, n2b, c2b⟩) = W2 at HB HX hb0
  simp only [Top.box] at hW2
  simp only [Top.val] at hc1 hc2 ⊢
  unfold Six at HX
  simp only [Nat.zero_add] at HX
  have H1 := Lib.hid (fun wX (hX : Below (w.heap.size + 2) W2 wX) => (hc1 wX).mono (fun e w' h => (⟨h.1, hX.trans (h.2.mono (HB wX hX).2), flat12 (HX _ (hX.trans (h.2.mono (HB wX hX).2)))⟩ : _ ∧ Below (w.heap.size + 2) W2 w' ∧ _)))
  have H2 := Lib.hid (fun wX (hX : Below (w.heap.size + 2) W2 wX) => (hc2 wX).mono (fun e w' h => (⟨h.1, hX.trans (h.2.mono (HB wX hX).2), flat12 (HX _ (hX.trans (h.2.mono (HB wX hX).2)))⟩ : _ ∧ Below (w.heap.size + 2) W2 w' ∧ _)))
  have HBW := Lib.hid HB
  obtain ⟨⟨x0, x1, x2, x3, x4, x5⟩, y0, y1, y2, y3, y4, y5⟩ := HX _ hb0
  clear HB HX hc1 hc2
  go_enter Try.func4, Try.ntmps4
  go_wp2_with fail
  refine (H1.out _ hb0).mono ?_
  rintro e w1 ⟨rfl, hb1, x0, x1, x2, x3, x4, x5, y0, y1, y2, y3, y4, y5⟩
  go_wp2_with fail
  refine (H2.out _ hb1).mono ?_
  rintro e w2 ⟨rfl, hb2, -⟩
  go_wp2_with fail
  go_ret
  exact ⟨by simp, (HBW.out _ hb2).1⟩

set_option maxRecDepth 100000 in
theorem lifted (os : Os) (started : os.Started) (H : Type) (enc : TypeId × Value → H) :
    ReturnsInHanded {} Try.checked os 4 .any (Rows.tmplComparesSpec.pre6 enc Try.prog Try.f4 Rows.tmplComparesRow.domain false) (Rows.tmplComparesSpec.post enc Try.prog Try.f4 false true false false) := by
  refine returnsInHanded_of_change (C := Try.checked) own started (by kernel_rfl) Try.func4
    (ChangeSpec.witness6 (enc := enc) (C := Try.checked) false ⟨#[], #[.agg #[.int .i64 0, .bool false, .int .i64 0, .string .empty, .slice none 0 0, .slice none 0 0], .agg #[.int .i64 0, .bool false, .int .i64 0, .string .empty, .slice none 0 0, .slice none 0 0]], []⟩ 8 (by kernel_rfl) (by kernel_rfl) (by kernel_rfl) (by kernel_rfl)) ?_
  intro W base args ds gs before hval0 hW hcnd _
  have hval : ∀ (j : Nat) t v, Try.f4.params[j]? = some t → args[j]? = some v → Value.okWide Try.prog W .any base t v := hval0
  have hW' := hW
  obtain ⟨p, q, hA0, hV, rfl, hfz, hnd⟩ := hW
  have hA : DataW.TrodAll enc Try.prog W 0 (fun _ => true) true Try.f4.params.toList args.toList ds p := hA0
  rw [Try.params4] at hA hval
  obtain ⟨v0, vs0, d0, ds0, p0, q0, hargs, rfl, rfl, h0, r0⟩ := trodAll_cons hA
  obtain ⟨v1, vs1, d1, ds1, p1, q1, rfl, rfl, rfl, h1, r1⟩ := trodAll_cons r0
  obtain ⟨rfl, rfl, rfl⟩ := trodAll_nil r1
  obtain rfl : args = #[v0, v1] := by cases args; simp_all
  obtain ⟨rfl, rfl⟩ := trodVars_none hV
  have k0 := h0
  have k1 := h1
  have lt0 : ∀ x ∈ p0, x.block < W.heap.size := by obtain ⟨m, hm⟩ := k0; exact DataW.trod_lt m _ _ _ hm
  have lt1 : ∀ x ∈ p1, x.block < W.heap.size := by obtain ⟨m, hm⟩ := k1; exact DataW.trod_lt m _ _ _ hm
  obtain ⟨f0, f1, f2, f3, f4, f5, T⟩ := valTypes
  obtain ⟨k, bo, i, t, A1, n1, c1, A2, n2, c2, items, keys, rfl, hok, hle⟩ := open_val_trod T (bulky Rows.uptoBulk Rows.uptoBulkAll (fun l => by simp [Rows.uptoBulk]) (fun e s => by simp [Rows.uptoBulk]) (fun p => by simp [Rows.uptoBulk]) (fun y r => by simp [Rows.uptoBulkAll])) (hval 0 27 v0 rfl rfl) k0 lt0
  obtain ⟨k', bo', i', t', A1', n1', c1', A2', n2', c2', items', keys', rfl, hok', hle'⟩ := open_val_trod T (bulky Rows.uptoBulk Rows.uptoBulkAll (fun l => by simp [Rows.uptoBulk]) (fun e s => by simp [Rows.uptoBulk]) (fun p => by simp [Rows.uptoBulk]) (fun y r => by simp [Rows.uptoBulkAll])) (hval 1 27 v1 rfl rfl) k1 lt1
  clear hA0 hval0
  simp only [List.append_nil] at hW'
  refine (law_any ⟨k, bo, i, t, A1, n1, c1, A2, n2, c2⟩ ⟨k', bo', i', t', A1', n1', c1', A2', n2', c2'⟩ W).mono fun e W' ⟨he, bel⟩ => ?_
  subst he
  exact ⟨_, rfl, _, _, _, [], _, [], hW', trodAll_mk1 (shut_bool Try.underlying4 _), (trodAll_cons_mk (Below.trod laidOut (by kernel_rfl) (of_decide_eq_true (by kernel_rfl)) k0 bel lt0) (trodAll_cons_mk (Below.trod laidOut (by kernel_rfl) (of_decide_eq_true (by kernel_rfl)) k1 bel lt1) trodAll_mk0)), rfl, bel.frame _, fun h => by cases h⟩

theorem over : Rows.tmplComparesRow.holds Try.pinned (OpenSpec.ofChange Rows.tmplComparesSpec) :=
  OpenClaim.holds_of_wide 4 Try.f4 rfl rfl rfl rfl rfl rfl rfl ⟨rfl, rfl, rfl, rfl, rfl⟩ rfl rfl rfl rfl rfl (by kernel_rfl) Try.func4 (by kernel_rfl)
    (of_decide_eq_true (by kernel_rfl)) (by unfold Func.isWrapper; first | (rw [if_pos (by decide +kernel)]; kernel_rfl) | (rw [if_neg (by decide +kernel)]; exact ⟨rfl, rfl⟩))
    (fun os started H enc _ => lifted os started H enc)

theorem proved : Rows.TmplComparesSaid := over
#print axioms proved
end Go.Proofs.Ytfgekmfkaepgjaa.tmplComparesDone
