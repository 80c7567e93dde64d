/- DERIVED. THE STATEMENT MarkSamesUptoSaid: for every two documents that are together of bulk at most 1048576 MarkSames returns true, and each argument reads afterwards as it read before. -/
import Derived.Test.YtmaahkonjpcgiabSame
import Derived.ProofKit
import Derived.OpenShut
import Derived.ChangeOld
import Derived.JoinedCond
namespace Go.Proofs.Ytmaahkonjpcgiab.markSamesDone
open Go.ChangeShapes Go.WideShapes Go.ChangeAt Go.RowKit Go.Deep
set_option linter.unusedVariables false

theorem own : ownKnob Try.prog.godebug = none := by kernel_rfl
theorem laidOut : laidOutB Try.prog = true := by kernel_rfl

set_option maxRecDepth 100000 in
set_option maxHeartbeats 800000 in
theorem walk (a b : Doc) (A A' : Option Addr) (n c m c' : Nat) (w : World) (hbig : a.nodes + b.nodes ≤ 1048576) (hok : Pr.ok ⟨a, b, A, n, c, A', m, c'⟩ w w.heap.size) :
    Calls Try.prog 5 #[.slice A n c, .slice A' m c'] w fun e w' => e = .returned (.bool true) ∧ Below w.heap.size w w' := by
  have hka : ∀ wX, Below w.heap.size w wX → a.At wX wX.heap.size A n := fun wX hX => (hok.1.below hX).more hX.size
  have hkb : ∀ wX, Below w.heap.size w wX → b.At wX wX.heap.size A' m := fun wX hX => (hok.2.1.below hX).more hX.size
  obtain ⟨r, hr⟩ : ∃ r, a.same b = r := ⟨_, rfl⟩
  have h1 : ∀ wX, Below w.heap.size w wX → Calls Try.prog 15 #[.slice A n c, .slice A' m c'] wX fun e w' => e = .returned (.bool r) ∧ Below wX.heap.size wX w' := fun wX hX => by
    have h := same_any a b A A' n c m c' wX (by omega) ⟨hka wX hX, hkb wX hX, hok.2.2⟩
    rw [hr] at h; exact h
  have h2 : ∀ wX, Below w.heap.size w wX → Calls Try.prog 12 #[.slice A n c, .slice A' m c'] wX fun e w' => e = .returned (.bool r) ∧ Below wX.heap.size wX w' := fun wX hX => by
    have h := sameDoc_any a.nodes a b A A' n m c c' wX (Nat.le_refl _) (Nat.le_trans hok.2.2.1 hok.2.2.2.1) (Nat.le_trans hok.2.2.2.2.1 hok.2.2.2.2.2) (hka wX hX) (hkb wX hX)
    rw [hr] at h; exact h
  have h3 : ∀ wX, Below w.heap.size w wX → Calls Try.prog 15 #[.slice A n c, .slice A n c] wX fun e w' => e = .returned (.bool true) ∧ Below wX.heap.size wX w' := fun wX hX => by
    have h := same_any a a A A n c n c wX (by omega) ⟨hka wX hX, hka wX hX, hok.2.2.1, hok.2.2.2.1, hok.2.2.1, hok.2.2.2.1⟩
    rw [Doc.same_refl] at h; exact h
  have H1 := Lib.hid h1; clear h1
  have H2 := Lib.hid h2; clear h2
  have H3 := Lib.hid h3; clear h3
  clear hka hkb hr hok
  have hrr : (r == r) = true := by simp
  go_enter Try.func5, Try.ntmps5
  go_wp2_with fail
  refine (H1.out _ (Below.refl _ _)).mono ?_
  rintro e w1 ⟨rfl, hb1⟩
  go_wp2_with fail
  refine (H2.out _ hb1).mono ?_
  rintro e w2 ⟨rfl, hb2⟩
  have hb3 := hb1.trans (hb2.mono hb1.size)
  clear hb1 hb2
  go_wp2_with fail
  refine (H3.out _ hb3).mono ?_
  rintro e w3 ⟨rfl, hb4⟩
  go_wp2_with fail
  go_ret
  exact ⟨rfl, hb3.trans (hb4.mono hb3.size)⟩

theorem contract (H : Type) (enc : TypeId × Value → H) (W : World) (base : Nat) (args : Array Value) (ds gs : List (DataW H)) (before : List MemPlace)
    (hval0 : ∀ (j : Nat) t v, Try.f5.params[j]? = some t → args[j]? = some v → Value.okWide Try.prog W .any base t v)
    (hW : DataW.Whole enc Try.prog Try.f5.params.toList Rows.markSamesSpec.vars false W args.toList ds gs before) (hk : Rows.uptoSmall H (ds ++ gs) = true) :
    Calls Try.prog 5 args W fun e W' => ∃ v, e = .returned v ∧ Rows.markSamesSpec.post enc Try.prog Try.f5 false true false false W args v W' := by
  have hval : ∀ (j : Nat) t v, Try.f5.params[j]? = some t → args[j]? = some v → Value.okWide Try.prog W .any base t v := hval0
  have hW' := hW
  obtain ⟨p, q, hA0, hV, rfl, hfz, hnd⟩ := hW
  have hA : DataW.TrodAll enc Try.prog W 0 (fun _ => true) true Try.f5.params.toList args.toList ds p := hA0
  rw [Try.params5] at hA hval
  obtain ⟨v0, vs0, d0, ds0, p0, q0, hargs, rfl, rfl, h0, r0⟩ := trodAll_cons hA
  obtain ⟨v1, vs1, d1, ds1, p1, q1, rfl, rfl, rfl, h1, r1⟩ := trodAll_cons r0
  obtain ⟨rfl, rfl, rfl⟩ := trodAll_nil r1
  obtain rfl : args = #[v0, v1] := by cases args; simp_all
  obtain ⟨rfl, rfl⟩ := trodVars_none hV
  have k0 := h0
  have k1 := h1
  have lt0 : ∀ x ∈ p0, x.block < W.heap.size := by obtain ⟨m, hm⟩ := k0; exact DataW.trod_lt m _ _ _ hm
  have lt1 : ∀ x ∈ p1, x.block < W.heap.size := by obtain ⟨m, hm⟩ := k1; exact DataW.trod_lt m _ _ _ hm
  obtain ⟨a0, len0, cap0, rfl⟩ := okWide_slice Try.underlying22 (hval 0 22 v0 rfl rfl)
  obtain ⟨a1, len1, cap1, rfl⟩ := okWide_slice Try.underlying22 (hval 1 22 v1 rfl rfl)
  have od := fun {A : Option Addr} {n c : Nat} {d : DataW H} {ps : List MemPlace} (h : DataW.Trod enc Try.prog W 0 (fun _ => true) true 22 (.slice A n c) d ps) (hl : ∀ x ∈ ps, x.block < W.heap.size) =>
    open_doc_trod Try.underlying3 Try.underlying9 Try.underlying22 Try.underlying47 rfl rfl rfl rfl rfl rfl (by kernel_rfl) (by kernel_rfl)
      Rows.uptoBulk Rows.uptoBulkAll (fun l => by simp [Rows.uptoBulk]) (fun e s => by simp [Rows.uptoBulk]) (fun p => by simp [Rows.uptoBulk]) (fun y r => by simp [Rows.uptoBulkAll]) h hl
  obtain ⟨a, ha1, ha2, ha3, ha4⟩ := od k0 lt0
  obtain ⟨b, hb1, hb2, hb3, hb4⟩ := od k1 lt1
  have hsum : a.nodes + b.nodes ≤ 1048576 := by
    have h : Rows.uptoBulkAll ([d0, d1] ++ []) ≤ 1048576 := of_decide_eq_true hk
    simp only [List.append_nil, Rows.uptoBulkAll] at h
    omega
  clear hA0 hval0 od
  simp only [List.append_nil] at hW'
  refine (walk a b a0 a1 len0 cap0 len1 cap1 W hsum ⟨ha3, hb3, ha1, ha2, hb1, hb2⟩).mono fun e W' ⟨he, bel⟩ => ?_
  subst he
  exact ⟨_, rfl, _, _, _, [], _, [], hW', trodAll_mk1 (shut_bool Try.underlying4 _), (trodAll_cons_mk (Below.trod laidOut (by kernel_rfl) (of_decide_eq_true (by kernel_rfl)) k0 bel lt0) (trodAll_cons_mk (Below.trod laidOut (by kernel_rfl) (of_decide_eq_true (by kernel_rfl)) k1 bel lt1) trodAll_mk0)), rfl, bel.frame _, fun h => by cases h⟩

set_option maxRecDepth 100000 in
theorem lifted (os : Os) (started : os.Started) (H : Type) (enc : TypeId × Value → H) (F : Stop.Interp) :
    ReturnsInHanded {} Try.checked os 5 .any ((Rows.OpenSpec.upto Rows.markSamesSpec).pre6 enc Try.prog Try.f5 Rows.markSamesUptoRow.domain false) (((Rows.OpenSpec.upto Rows.markSamesSpec).at F).post enc Try.prog Try.f5 false true false false) := by
  refine returnsInHanded_of_cond (C := Try.checked) (s := Rows.OpenSpec.upto Rows.markSamesSpec) (k := Rows.uptoSmall) rfl own started (by kernel_rfl) Try.func5
    (OpenSpec.witness (enc := enc) (C := Try.checked) (s := Rows.OpenSpec.upto Rows.markSamesSpec) (k := Rows.uptoSmall) rfl false ⟨#[], #[.slice none 0 0, .slice none 0 0], []⟩ 8 (by kernel_rfl) (by kernel_rfl) (by kernel_rfl)
      (x := ([.nil, .nil], [], [])) (by kernel_rfl) rfl (by kernel_rfl)) ?_
  intro W base args ds gs before hval hW _ hk _
  exact contract H enc W base args ds gs before hval hW hk

theorem proved : Rows.MarkSamesUptoSaid :=
  OpenClaim.holds_of_cond 5 Try.f5 rfl rfl rfl rfl rfl rfl rfl ⟨rfl, rfl, rfl, rfl, rfl⟩ rfl rfl rfl rfl rfl (by kernel_rfl) Try.func5 (by kernel_rfl)
    (of_decide_eq_true (by kernel_rfl)) (by unfold Func.isWrapper; first | (rw [if_pos (by decide +kernel)]; kernel_rfl) | (rw [if_neg (by decide +kernel)]; exact ⟨rfl, rfl⟩))
    (fun os started H enc _ F => lifted os started H enc F)
#print axioms proved
end Go.Proofs.Ytmaahkonjpcgiab.markSamesDone
