/- DERIVED. THE STATEMENT AssetFindsSaid: for every bundle and every number AssetFinds returns true, and each argument reads afterwards as it read before. No condition of ours. -/
import Derived.Test.YtkobenohijipeaaLocC
import Derived.Laws.OwnMore
import Derived.ProofKit
import Derived.OpenShut
import Derived.ChangeOld
import Derived.ChangeSlices
import Derived.Lib.SmallJoins
namespace Go.Proofs.Ytkobenohijipeaa.assetFindsDone
open Go.ChangeShapes Go.WideShapes Go.ChangeAt Go.RowKit
set_option linter.unusedVariables false
theorem own : ownKnob Try.prog.godebug = none := by kernel_rfl
theorem laidOut : laidOutB Try.prog = true := by kernel_rfl
theorem post_form {bz n1 n2 : Nat} {zs : List Int} {x : Int} {e : Ending} (h : LocPost bz n1 n2 zs x e) : ∃ a b c : Int, e = .returned (.tuple #[.int .i64 a, .int .i64 b, .int .i64 c]) := by
  unfold LocPost noE at h
  split at h
  · exact ⟨_, _, _, h⟩
  · split at h
    · exact ⟨_, _, _, h⟩
    · obtain ⟨k, z, _, _, _, h⟩ := h
      exact ⟨_, _, _, h⟩
set_option maxRecDepth 100000 in
set_option maxHeartbeats 800000 in
theorem walk (s : ByteArray) (A1 A2 : Option Addr) (n1 c1 n2 c2 : Nat) (zs : List Int) (x : Int) (w : World) (hz : zs.length = n2) (hn2 : n2 ≤ maxLen) (hI : IntsAt w w.heap.size A2 zs) :
    Calls Try.prog 3 #[.agg #[.string s, .slice A1 n1 c1, .slice A2 n2 c2], .int .i64 x] w fun e w' => e = .returned (.bool true) ∧ Below w.heap.size w w' := by
  have H1 := Lib.hid (fun wX (hX : Below w.heap.size w wX) => locate_any s A1 A2 n1 c1 n2 c2 zs x wX hz hn2 ((hI.below hX (Nat.le_refl _)).more hX.size))
  have H2 := Lib.hid (fun wX (hX : Below w.heap.size w wX) => locateOf_any s A1 A2 n1 c1 n2 c2 zs x wX hz hn2 ((hI.below hX (Nat.le_refl _)).more hX.size))
  clear hI hz hn2
  go_enter Try.func3, Try.ntmps3
  go_wp2_with fail
  refine (H1.out _ ((Below.refl _ w).alloc (Nat.le_refl _) _)).mono ?_
  rintro e w1 ⟨hp1, hb1⟩
  obtain ⟨a, b, c, rfl⟩ := post_form hp1
  have HB := Lib.hid (((Below.refl _ w).alloc (Nat.le_refl _) _).trans (hb1.mono (by simp)))
  have o0 : w1.heap[w.heap.size]? = some (.cells #[.string s, .slice A1 n1 c1, .slice A2 n2 c2] 25 (0, 0)) := (hb1.block w.heap.size (by simp)).trans (heap_alloc_new _ _)
  obtain ⟨e0, e1, e2⟩ := box3 o0
  have HP1 := Lib.hid hp1
  clear o0 hb1 hp1
  go_wp2_with fail
  refine (H2.out _ HB.out).mono ?_
  rintro e w2 ⟨hp2, hb2⟩
  obtain rfl := HP1.out.eq hp2
  have HB2 := Lib.hid (HB.out.trans (hb2.mono HB.out.size))
  clear hp2 hb2 e0 e1 e2
  go_wp2_with fail
  go_ret
  exact ⟨by simp, HB2.out⟩
/-! ### The row's step -/
set_option maxRecDepth 100000 in
theorem lifted (os : Os) (started : os.Started) (H : Type) (enc : TypeId × Value → H) :
    ReturnsInHanded {} Try.checked os 3 .any (Rows.assetFindsSpec.pre6 enc Try.prog Try.f3 Rows.assetFindsRow.domain false) (Rows.assetFindsSpec.post enc Try.prog Try.f3 false true false false) := by
  refine returnsInHanded_of_change (C := Try.checked) own started (by kernel_rfl) Try.func3
    (ChangeSpec.witness6 (enc := enc) (C := Try.checked) false ⟨#[], #[.agg #[.string .empty, .slice none 0 0, .slice none 0 0], .int .i64 0], []⟩ 8 (by kernel_rfl) (by kernel_rfl) (by kernel_rfl) (by kernel_rfl)) ?_
  intro W base args ds gs before hval0 hW hcnd _
  have hval : ∀ (j : Nat) t v, Try.f3.params[j]? = some t → args[j]? = some v → Value.okWide Try.prog W .any base t v := hval0
  have hW' := hW
  obtain ⟨p, q, hA0, hV, rfl, hfz, hnd⟩ := hW
  have hA : DataW.TrodAll enc Try.prog W 0 (fun _ => true) true Try.f3.params.toList args.toList ds p := hA0
  rw [Try.params3] at hA hval
  obtain ⟨v0, vs0, d0, ds0, p0, q0, hargs, rfl, rfl, h0, r0⟩ := trodAll_cons hA
  obtain ⟨v1, vs1, d1, ds1, p1, q1, rfl, rfl, rfl, h1, r1⟩ := trodAll_cons r0
  obtain ⟨rfl, rfl, rfl⟩ := trodAll_nil r1
  obtain rfl : args = #[v0, v1] := by cases args; simp_all
  obtain ⟨rfl, rfl⟩ := trodVars_none hV
  have k0 := h0
  have lt0 : ∀ x ∈ p0, x.block < W.heap.size := by obtain ⟨m, hm⟩ := k0; exact DataW.trod_lt m _ _ _ hm
  obtain ⟨u0, u1, u2, y0, y1, y2, fu, rfl, rfl, hp0, t0, t1, t2⟩ := Joins.open_agg3 Try.underlying25 (by kernel_rfl) (by kernel_rfl) (hval 0 25 v0 rfl rfl) k0
  obtain ⟨s, e0, g0, z0⟩ := DataW.trod_string Try.underlying9 t0
  obtain ⟨A1, n1, c1, e1⟩ := Joins.slice_form Try.underlying22 t1
  simp at e0 e1
  subst e0 e1
  obtain ⟨x, rfl, rfl, rfl, w1⟩ := open_int Try.underlying3 (hval 1 3 v1 rfl rfl) h1
  obtain ⟨A2, n2, c2, zs, rfl, hz, hn, hI⟩ : ∃ A2 n2 c2 zs, u2 = .slice A2 n2 c2 ∧ List.length zs = n2 ∧ n2 ≤ maxLen ∧ IntsAt W W.heap.size A2 zs := by
    rcases open_ints Try.underlying23 Try.underlying3 (by kernel_rfl) t2 with ⟨hcs, _⟩ | ⟨a, len, cap, zs, hcs, _, hlc, hcm, hlen, hx, hcell, _⟩
    · simp at hcs
      subst hcs
      exact ⟨_, _, _, [], rfl, rfl, Nat.zero_le _, fun j z hj => by simp at hj⟩
    · simp at hcs
      subst hcs
      simp at hlen
      refine ⟨_, _, _, zs.take len, rfl, by rw [List.length_take]; omega, by omega, fun j z hj => ?_⟩
      have hj1 : j < len := by have := (List.getElem?_eq_some_iff.1 hj).1; rw [List.length_take] at this; omega
      have hj2 : zs[j]? = some z := by rw [List.getElem?_take_of_lt hj1] at hj; exact hj
      have hc := hcell j (by have := (List.getElem?_eq_some_iff.1 hj2).1; exact this)
      rw [List.getD_eq_getElem?_getD, hj2] at hc
      have hlt := World.block_lt_of_cell? W _ hc
      rw [addr_block] at hlt
      exact ⟨a, rfl, hlt, hc⟩
  clear hA0 hval0
  simp only [List.append_nil] at hW'
  refine (walk s A1 A2 n1 c1 n2 c2 zs x W hz hn hI).mono fun e W' ⟨he, bel⟩ => ?_
  subst he
  exact ⟨_, rfl, _, _, _, [], _, [], hW', trodAll_mk1 (shut_bool Try.underlying4 _), (trodAll_cons_mk (Below.trod laidOut (by kernel_rfl) (of_decide_eq_true (by kernel_rfl)) k0 bel lt0) (trodAll_cons_mk (shut_int Try.underlying3 w1) trodAll_mk0)), rfl, bel.frame _, fun h => by cases h⟩
theorem over : Rows.assetFindsRow.holds Try.pinned (OpenSpec.ofChange Rows.assetFindsSpec) :=
  OpenClaim.holds_of_wide 3 Try.f3 rfl rfl rfl rfl rfl rfl rfl ⟨rfl, rfl, rfl, rfl, rfl⟩ rfl rfl rfl rfl rfl (by kernel_rfl) Try.func3 (by kernel_rfl)
    (of_decide_eq_true (by kernel_rfl)) (by unfold Func.isWrapper; first | (rw [if_pos (by decide +kernel)]; kernel_rfl) | (rw [if_neg (by decide +kernel)]; exact ⟨rfl, rfl⟩))
    (fun os started H enc _ => lifted os started H enc)
theorem proved : Rows.AssetFindsSaid := over
#print axioms proved
end Go.Proofs.Ytkobenohijipeaa.assetFindsDone
