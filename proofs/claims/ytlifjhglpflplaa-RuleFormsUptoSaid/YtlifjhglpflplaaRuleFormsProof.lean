/- DERIVED. THE STATEMENT RuleFormsUptoSaid: for every rule and number that are together of bulk at most 1048576 RuleForms returns true, and each argument reads afterwards as it read before. -/
import Derived.Test.YtlifjhglpflplaaTstRefD
import Derived.ProofKit
import Derived.OpenShut
import Derived.ChangeOld
import Derived.JoinedCond
import Derived.Lib.SmallJoins
namespace Go.Proofs.Ytlifjhglpflplaa.ruleFormsDone
open Go.ChangeShapes Go.WideShapes Go.ChangeAt Go.RowKit Go.Deep
set_option linter.unusedVariables false
set_option linter.unusedSimpArgs false
theorem own : ownKnob Try.prog.godebug = none := by kernel_rfl
theorem laidOut : laidOutB Try.prog = true := by kernel_rfl
theorem wf_range {n : Int} (h : (Lit.int .i64 n).wf = true) : -9223372036854775808 ≤ n ∧ n ≤ 9223372036854775807 := by
  simp only [Lit.wf, IntKind.min, IntKind.max, IntKind.signed, IntKind.bits, Bool.and_eq_true, decide_eq_true_eq, if_true] at h
  omega
set_option maxRecDepth 100000 in
set_option maxHeartbeats 800000 in
theorem walk (d : Tst) (A : Option Addr) (n c : Nat) (y : Int) (w : World) (h0 : -9223372036854775808 ≤ y) (h1 : y ≤ 9223372036854775807) (hbig : d.nodes ≤ 1099511627775) (ha : d.At w w.heap.size A n) :
    Calls Try.prog 5 #[.agg #[.slice A n c], .int .i64 y] w fun e w' => e = .returned (.bool true) ∧ Below w.heap.size w w' := by
  have hat : ∀ wX, Below w.heap.size w wX → d.At wX wX.heap.size A n := fun wX hX => (ha.below hX).more hX.size
  have H1 := Lib.hid (fun wX (hX : Below w.heap.size w wX) => form_any d A n c y wX h0 h1 hbig (hat wX hX))
  have H2 := Lib.hid (fun wX (hX : Below w.heap.size w wX) => ruleFault_any d A n c wX hbig (hat wX hX))
  have hw0 : Below w.heap.size w (w.alloc (.cells #[.slice A n c] 37)) := (Below.refl _ _).alloc (Nat.le_refl _) _
  have hbx := heap_alloc_new w (.cells #[.slice A n c] 37)
  have keep : ∀ wX, Below (w.heap.size + 1) (w.alloc (.cells #[.slice A n c] 37)) wX → wX.cell? ⟨w.heap.size, 0, none⟩ = some (.slice A n c) := fun wX hX => box1 ((hX.block w.heap.size (by omega)).trans hbx)
  have KP := Lib.hid keep
  have H0 := Lib.hid hw0
  unfold formV at H1
  by_cases hE : ruleErr d = 0
  · obtain ⟨hF, hR, _⟩ := ruleErr_ok hE
    have H3 := Lib.hid (fun wX (hX : Below w.heap.size w wX) => formOfR_any d A n c y wX h0 h1 hbig hF hR (hat wX hX))
    rw [if_pos hE] at H1
    rw [hE] at H2
    generalize formN y.natAbs d = v at H1 H3
    have q1 : (v == v) = true := by simp
    clear hat ha hw0 hbx keep hE hF hR
    go_enter Try.func5, Try.ntmps5
    go_wp2_with fail
    refine (H1.out _ H0.out).mono ?_
    rintro e w1 ⟨rfl, hb1⟩
    simp only [World.size_alloc] at hb1
    have y1 := KP.out _ hb1
    have HB1 := Lib.hid hb1
    clear hb1
    go_wp2_with fail
    refine (H2.out _ (H0.out.trans (HB1.out.mono (by omega)))).mono ?_
    rintro e w2 ⟨rfl, hb2⟩
    have hb2' := HB1.out.trans (hb2.mono (by have := HB1.out.size; simpa using this))
    have y2 := KP.out _ hb2'
    have HB2 := Lib.hid hb2'
    clear hb2 hb2'
    go_wp2_with fail
    refine (H3.out _ (H0.out.trans (HB2.out.mono (by omega)))).mono ?_
    rintro e w3 ⟨rfl, hb3⟩
    have HB3 := Lib.hid (H0.out.trans ((HB2.out.mono (by omega)).trans (hb3.mono (by have := HB2.out.size; simp only [World.size_alloc] at this; omega))))
    clear hb3
    go_wp2_with fail
    go_ret
    exact ⟨by first | rfl | simp, HB3.out⟩
  · rw [if_neg hE] at H1
    obtain ⟨er, her⟩ : ∃ er, ruleErr d = er := ⟨_, rfl⟩
    rw [her] at H1 H2 hE
    have hne : (er != 0) = true := by simpa using hE
    have hnb : (er == 0) = false := by simpa using hE
    have q1 : (er == er) = true := by simp
    clear hat ha hw0 hbx keep her
    go_enter Try.func5, Try.ntmps5
    go_wp2_with fail
    refine (H1.out _ H0.out).mono ?_
    rintro e w1 ⟨rfl, hb1⟩
    simp only [World.size_alloc] at hb1
    have y1 := KP.out _ hb1
    have HB1 := Lib.hid hb1
    clear hb1
    go_wp2_with fail
    refine (H2.out _ (H0.out.trans (HB1.out.mono (by omega)))).mono ?_
    rintro e w2 ⟨rfl, hb2⟩
    have HB2 := Lib.hid (H0.out.trans ((HB1.out.mono (by omega)).trans (hb2.mono (by have := HB1.out.size; simp only [World.size_alloc] at this; omega))))
    clear hb2
    go_wp2_with fail
    go_ret
    exact ⟨by first | rfl | simp, HB2.out⟩
section
variable {H : Type} {enc : TypeId × Value → H} {P : Program} {w : World} {base : Nat} {spare : Nat → Bool} {held : Bool}
theorem open_agg1 {r : Reach} {b0 : Nat} {t : TypeId} {f0 : Field} {v : Value} {d : DataW H} {p : List MemPlace} (hs : P.underlying t = some (.struct #[f0])) (hone : oneCellFields P #[f0] = true) (hC : P.cellsOf t = 1)
    (hv : Value.okWide P w r b0 t v) (h : DataW.Trod enc P w base spare held t v d p) :
    ∃ (v0 : Value) (y0 : DataW H × List MemPlace) (n : Nat), v = .agg #[v0] ∧ d = .agg [y0.1] ∧ p = y0.2 ∧ DataW.trod enc P w base spare held n f0.type [v0] = some y0 := by
  obtain ⟨cs, rfl, hsz⟩ := okWide_struct hs hv
  obtain ⟨l⟩ := cs
  match l, hsz.trans hC with
  | [c0], _ =>
    obtain ⟨fuel, hf⟩ := h
    obtain ⟨xs, n, _, hx, _, hlen, hg⟩ := DataW.trod_struct hs hf
    obtain ⟨o0, k0⟩ := hone_of hone 0 f0 rfl
    match xs, hlen with
    | [y0], _ =>
      simp only [Prod.mk.injEq] at hx
      exact ⟨c0, y0, n, rfl, by simpa using hx.1, by simpa using hx.2, by simpa [Value.cells, o0, k0] using hg 0 f0 rfl⟩
end
set_option maxRecDepth 100000 in
theorem contract (H : Type) (enc : TypeId × Value → H) (W : World) (base : Nat) (args : Array Value) (ds gs : List (DataW H)) (before : List MemPlace)
    (hval0 : ∀ (j : Nat) t v, Try.f5.params[j]? = some t → args[j]? = some v → Value.okWide Try.prog W .any base t v)
    (hW : DataW.Whole enc Try.prog Try.f5.params.toList Rows.ruleFormsSpec.vars false W args.toList ds gs before) (hk : Rows.uptoSmall H (ds ++ gs) = true) :
    Calls Try.prog 5 args W fun e W' => ∃ v, e = .returned v ∧ Rows.ruleFormsSpec.post enc Try.prog Try.f5 false true false false W args v W' := by
  have hval : ∀ (j : Nat) t v, Try.f5.params[j]? = some t → args[j]? = some v → Value.okWide Try.prog W .any base t v := hval0
  have hW' := hW
  obtain ⟨p, q, hA0, hV, rfl, hfz, hnd⟩ := hW
  have hA : DataW.TrodAll enc Try.prog W 0 (fun _ => true) true Try.f5.params.toList args.toList ds p := hA0
  rw [Try.params5] at hA hval
  obtain ⟨v0, vs0, d0, ds0, p0, q0, hargs, rfl, rfl, h0, r0⟩ := trodAll_cons hA
  obtain ⟨v1, vs1, d1, ds1, p1, q1, rfl, rfl, rfl, h1, r1⟩ := trodAll_cons r0
  obtain ⟨rfl, rfl, rfl⟩ := trodAll_nil r1
  obtain rfl : args = #[v0, v1] := by cases args; simp_all
  obtain ⟨rfl, rfl⟩ := trodVars_none hV
  have k0 := h0
  have lt0 : ∀ x ∈ p0, x.block < W.heap.size := by obtain ⟨m, hm⟩ := k0; exact DataW.trod_lt m _ _ _ hm
  obtain ⟨u0, y0, fu, rfl, rfl, hp0, t0⟩ := open_agg1 Try.underlying37 (by kernel_rfl) (by kernel_rfl) (hval 0 37 v0 rfl rfl) k0
  obtain ⟨d, A, n, c, hcs, hnc, hcm, hat, hle⟩ := open_tst Try.underlying3 Try.underlying35 Try.underlying127 rfl rfl rfl rfl rfl (by kernel_rfl) (by kernel_rfl)
    Rows.uptoBulk Rows.uptoBulkAll (fun e s => by simp [Rows.uptoBulk]) (fun p => by simp [Rows.uptoBulk]) (fun y r => by simp [Rows.uptoBulkAll]) fu _ _ t0 (fun x hx => lt0 x (by rw [hp0]; exact hx))
  simp at hcs
  subst hcs
  obtain ⟨y, rfl, rfl, rfl, w1⟩ := open_int Try.underlying3 (hval 1 3 v1 rfl rfl) h1
  obtain ⟨b0, b1⟩ := wf_range w1
  have hsum : d.nodes ≤ 1048576 := by
    have h : Rows.uptoBulkAll ([.agg [y0.1], .lit (.int .i64 y)] ++ []) ≤ 1048576 := of_decide_eq_true hk
    simp only [List.append_nil, Rows.uptoBulkAll, Rows.uptoBulk] at h
    omega
  clear hA0 hval0
  simp only [List.append_nil] at hW'
  refine (walk d A n c y W b0 b1 (by omega) hat).mono fun e W' ⟨he, bel⟩ => ?_
  subst he
  exact ⟨_, rfl, _, _, _, [], _, [], hW', trodAll_mk1 (shut_bool Try.underlying4 _), (trodAll_cons_mk (Below.trod laidOut (by kernel_rfl) (of_decide_eq_true (by kernel_rfl)) k0 bel lt0) (trodAll_cons_mk (shut_int Try.underlying3 w1) trodAll_mk0)), rfl, bel.frame _, fun h => by cases h⟩
set_option maxRecDepth 100000 in
theorem lifted (os : Os) (started : os.Started) (H : Type) (enc : TypeId × Value → H) (F : Stop.Interp) :
    ReturnsInHanded {} Try.checked os 5 .any ((Rows.OpenSpec.upto Rows.ruleFormsSpec).pre6 enc Try.prog Try.f5 Rows.ruleFormsUptoRow.domain false) (((Rows.OpenSpec.upto Rows.ruleFormsSpec).at F).post enc Try.prog Try.f5 false true false false) := by
  refine returnsInHanded_of_cond (C := Try.checked) (s := Rows.OpenSpec.upto Rows.ruleFormsSpec) (k := Rows.uptoSmall) rfl own started (by kernel_rfl) Try.func5
    (OpenSpec.witness (enc := enc) (C := Try.checked) (s := Rows.OpenSpec.upto Rows.ruleFormsSpec) (k := Rows.uptoSmall) rfl false ⟨#[], #[.agg #[.slice none 0 0], .int .i64 0], []⟩ 8 (by kernel_rfl) (by kernel_rfl) (by kernel_rfl)
      (x := ([.agg [.nil], .lit (.int .i64 0)], [], [])) (by kernel_rfl) rfl (by kernel_rfl)) ?_
  intro W base args ds gs before hval hW _ hk _
  exact contract H enc W base args ds gs before hval hW hk
theorem proved : Rows.RuleFormsUptoSaid :=
  OpenClaim.holds_of_cond 5 Try.f5 rfl rfl rfl rfl rfl rfl rfl ⟨rfl, rfl, rfl, rfl, rfl⟩ rfl rfl rfl rfl rfl (by kernel_rfl) Try.func5 (by kernel_rfl)
    (of_decide_eq_true (by kernel_rfl)) (by unfold Func.isWrapper; first | (rw [if_pos (by decide +kernel)]; kernel_rfl) | (rw [if_neg (by decide +kernel)]; exact ⟨rfl, rfl⟩))
    (fun os started H enc _ F => lifted os started H enc F)
#print axioms proved
end Go.Proofs.Ytlifjhglpflplaa.ruleFormsDone
