/- DERIVED. THE STATEMENT MarkPlainsUptoSaid: for every document of bulk at most 1048576 MarkPlains returns true, and its argument reads afterwards as it read before. -/
import Derived.Test.YtmaahkonjpcgiaaPlainAdd
import Derived.Test.YtmaahkonjpcgiaaPlainOf
import Derived.ProofKit
import Derived.OpenShut
import Derived.ChangeOld
import Derived.JoinedCond
namespace Go.Proofs.Ytmaahkonjpcgiaa.markPlainsDone
open Go.ChangeShapes Go.WideShapes Go.ChangeAt Go.RowKit Go.Deep
set_option linter.unusedVariables false

theorem own : ownKnob Try.prog.godebug = none := by kernel_rfl
theorem laidOut : laidOutB Try.prog = true := by kernel_rfl

theorem docErr_zero {a : Doc} (h : a.docErr = 0) : a.err 0 = 0 := by
  unfold Doc.docErr at h
  by_cases h1 : 4000 < a.nodes
  · rw [if_pos h1] at h; simp at h
  · rw [if_neg h1] at h
    cases h2 : a.deep 0 0 with
    | true => rw [h2, if_pos rfl] at h; simp at h
    | false => rw [h2, if_neg (by simp)] at h; exact h

set_option maxRecDepth 100000 in
set_option maxHeartbeats 800000 in
theorem plain2_any (a : Doc) (A : Option Addr) (n c : Nat) (z : ByteArray) (w : World) (hz : z = ⟨(a.plain true).toArray⟩) (hbig : a.letters + 2 * a.nodes ≤ 1099511627776) (ha : a.At w w.heap.size A n) :
    Calls Try.prog 15 #[.slice A n c] w fun e w' => e = .returned (.tuple #[.string (if a.docErr = 0 then z else ⟨#[]⟩), .int .i64 a.docErr]) ∧ Below w.heap.size w w' := by
  have H1 := Lib.hid (Check_any a A n c w (by omega) ha)
  have h2 : ∀ wX, Below w.heap.size w wX → Calls Try.prog 34 #[.slice A n c] wX fun e w' => e = .returned (.string z) ∧ Below wX.heap.size wX w' := fun wX hX => by
    rw [hz]; exact plain_any a A n c wX hbig ((ha.below hX).more hX.size)
  have H2 := Lib.hid h2
  clear h2 ha hz
  obtain ⟨d, hd⟩ : ∃ d, a.docErr = d := ⟨_, rfl⟩
  rw [hd] at H1
  rw [hd]
  clear hd
  by_cases h0 : d = 0
  · subst h0
    go_enter Try.func15, Try.ntmps15
    go_wp2_with fail
    refine H1.out.mono ?_
    rintro e w1 ⟨rfl, hb1⟩
    go_wp2_with fail
    refine (H2.out w1 hb1).mono ?_
    rintro e w2 ⟨rfl, hb2⟩
    go_wp2_with fail
    go_ret2
    exact ⟨by simp, hb1.trans (hb2.mono hb1.size)⟩
  · go_enter Try.func15, Try.ntmps15
    go_wp2_with fail
    refine H1.out.mono ?_
    rintro e w1 ⟨rfl, hb1⟩
    go_wp2_with fail
    go_ret2
    exact ⟨by simp, hb1⟩

set_option maxRecDepth 100000 in
set_option maxHeartbeats 800000 in
theorem words2_any (a : Doc) (A : Option Addr) (n c : Nat) (m : Nat) (w : World) (hm : words (a.plain true) false = m) (hbig : a.letters + 2 * a.nodes ≤ 1099511627776) (ha : a.At w w.heap.size A n) :
    Calls Try.prog 16 #[.slice A n c] w fun e w' => e = .returned (.tuple #[.int .i64 (if a.docErr = 0 then m else 0), .int .i64 a.docErr]) ∧ Below w.heap.size w w' := by
  have H1 := Lib.hid (Check_any a A n c w (by omega) ha)
  obtain ⟨z, hz⟩ : ∃ z : ByteArray, z = ⟨(a.plain true).toArray⟩ := ⟨_, rfl⟩
  have hzs : z.size ≤ 4398046511104 := by
    rw [pl_size hz]
    have := Doc.plain_len a true
    omega
  have h2 : ∀ wX, Below w.heap.size w wX → Calls Try.prog 34 #[.slice A n c] wX fun e w' => e = .returned (.string z) ∧ Below wX.heap.size wX w' := fun wX hX => by
    rw [hz]; exact plain_any a A n c wX hbig ((ha.below hX).more hX.size)
  have H2 := Lib.hid h2
  have h3 : ∀ wX, Calls Try.prog 35 #[.string z] wX fun e w' => e = .returned (.int .i64 m) ∧ wX = w' := fun wX => by
    have h := countWords_any z wX hzs
    rw [hz] at h
    rw [hz, ← hm]
    exact h
  have H3 := Lib.hid h3
  clear h2 h3 ha hz hm
  obtain ⟨d, hd⟩ : ∃ d, a.docErr = d := ⟨_, rfl⟩
  rw [hd] at H1
  rw [hd]
  clear hd
  by_cases h0 : d = 0
  · subst h0
    go_enter Try.func16, Try.ntmps16
    go_wp2_with fail
    refine H1.out.mono ?_
    rintro e w1 ⟨rfl, hb1⟩
    go_wp2_with fail
    refine (H2.out w1 hb1).mono ?_
    rintro e w2 ⟨rfl, hb2⟩
    go_wp2_with fail
    refine (H3.out w2).mono ?_
    rintro e w3 ⟨rfl, rfl⟩
    go_wp2_with fail
    go_ret2
    exact ⟨by simp, hb1.trans (hb2.mono hb1.size)⟩
  · go_enter Try.func16, Try.ntmps16
    go_wp2_with fail
    refine H1.out.mono ?_
    rintro e w1 ⟨rfl, hb1⟩
    go_wp2_with fail
    go_ret2
    exact ⟨by simp, hb1⟩

set_option maxRecDepth 100000 in
set_option maxHeartbeats 800000 in
theorem walk (a : Doc) (A : Option Addr) (n c : Nat) (w : World) (hbig : a.letters + 2 * a.nodes ≤ 1099511627776) (ha : a.At w w.heap.size A n) :
    Calls Try.prog 5 #[.slice A n c] w fun e w' => e = .returned (.bool true) ∧ Below w.heap.size w w' := by
  have hka : ∀ wX, Below w.heap.size w wX → a.At wX wX.heap.size A n := fun wX hX => (ha.below hX).more hX.size
  obtain ⟨z, hz⟩ : ∃ z : ByteArray, z = ⟨(a.plain true).toArray⟩ := ⟨_, rfl⟩
  obtain ⟨m, hm⟩ : ∃ m, words (a.plain true) false = m := ⟨_, rfl⟩
  have hzs : z.size ≤ 4398046511104 := by
    rw [pl_size hz]
    have := Doc.plain_len a true
    omega
  have h1 := fun wX hX => plain2_any a A n c z wX hz hbig (hka wX hX)
  have h2 := fun wX hX => words2_any a A n c m wX hm hbig (hka wX hX)
  have h3 := fun wX hX => DocError_any a A n c wX (by omega) (hka wX hX)
  have h5 : ∀ wX, Calls Try.prog 19 #[.string z] wX fun e w' => e = .returned (.int .i64 m) ∧ wX = w' := fun wX => by
    have h := wordsOf_any z wX hzs
    rw [hz] at h
    rw [hz, ← hm]
    exact h
  have h4 : a.docErr = 0 → ∀ wX, Below w.heap.size w wX → Calls Try.prog 18 #[.slice A n c] wX fun e w' => e = .returned (.string z) ∧ Below wX.heap.size wX w' := fun h0 wX hX => by
    rw [hz]; exact plainOf_any a.nodes a 0 A n c wX (Nat.le_refl _) hbig (docErr_zero h0) (hka wX hX)
  have H1 := Lib.hid h1
  have H2 := Lib.hid h2
  have H3 := Lib.hid h3
  have H4 := Lib.hid h4
  have H5 := Lib.hid h5
  have hml : m ≤ 4398046511104 := by
    have h := words_len (a.plain true) false
    have h' := pl_size hz
    omega
  clear h1 h2 h3 h4 h5 hka ha hz hm
  obtain ⟨d, hd⟩ : ∃ d, a.docErr = d := ⟨_, rfl⟩
  rw [hd] at H1 H2 H3 H4
  clear hd
  have hzz : (z.toList == z.toList) = true := by simp
  by_cases h0 : d = 0
  · subst h0
    simp only [↓reduceIte] at H1 H2
    go_enter Try.func5, Try.ntmps5
    go_wp2_with fail
    refine (H1.out _ (Below.refl _ _)).mono ?_
    rintro e w1 ⟨rfl, hb1⟩
    go_wp2_with fail
    refine (H2.out _ hb1).mono ?_
    rintro e w2 ⟨rfl, hb2⟩
    have hb2 := hb1.trans (hb2.mono hb1.size)
    clear hb1
    go_wp2_with fail
    refine (H3.out _ hb2).mono ?_
    rintro e w3 ⟨rfl, hb3⟩
    have hb3 := hb2.trans (hb3.mono hb2.size)
    clear hb2
    go_wp2_with fail
    refine (H4.out trivial _ hb3).mono ?_
    rintro e w4 ⟨rfl, hb4⟩
    have hb4 := hb3.trans (hb4.mono hb3.size)
    clear hb3
    go_wp2_with fail
    refine (H5.out _).mono ?_
    rintro e w5 ⟨rfl, rfl⟩
    go_wp2_with fail
    go_ret
    exact ⟨rfl, hb4⟩
  · simp only [h0, ↓reduceIte] at H1 H2
    go_enter Try.func5, Try.ntmps5
    go_wp2_with fail
    refine (H1.out _ (Below.refl _ _)).mono ?_
    rintro e w1 ⟨rfl, hb1⟩
    go_wp2_with fail
    refine (H2.out _ hb1).mono ?_
    rintro e w2 ⟨rfl, hb2⟩
    have hb2 := hb1.trans (hb2.mono hb1.size)
    clear hb1
    go_wp2_with fail
    refine (H3.out _ hb2).mono ?_
    rintro e w3 ⟨rfl, hb3⟩
    have hb3 := hb2.trans (hb3.mono hb2.size)
    clear hb2
    go_wp2_with fail
    go_ret
    exact ⟨rfl, hb3⟩

set_option maxRecDepth 100000 in
theorem contract (H : Type) (enc : TypeId × Value → H) (W : World) (base : Nat) (args : Array Value) (ds gs : List (DataW H)) (before : List MemPlace)
    (hval0 : ∀ (j : Nat) t v, Try.f5.params[j]? = some t → args[j]? = some v → Value.okWide Try.prog W .any base t v)
    (hW : DataW.Whole enc Try.prog Try.f5.params.toList Rows.markPlainsSpec.vars false W args.toList ds gs before) (hk : Rows.uptoSmall H (ds ++ gs) = true) :
    Calls Try.prog 5 args W fun e W' => ∃ v, e = .returned v ∧ Rows.markPlainsSpec.post enc Try.prog Try.f5 false true false false W args v W' := by
  have hval : ∀ (j : Nat) t v, Try.f5.params[j]? = some t → args[j]? = some v → Value.okWide Try.prog W .any base t v := hval0
  have hW' := hW
  obtain ⟨p, q, hA0, hV, rfl, hfz, hnd⟩ := hW
  have hA : DataW.TrodAll enc Try.prog W 0 (fun _ => true) true Try.f5.params.toList args.toList ds p := hA0
  rw [Try.params5] at hA hval
  obtain ⟨v0, vs0, d0, ds0, p0, q0, hargs, rfl, rfl, h0, r0⟩ := trodAll_cons hA
  obtain ⟨rfl, rfl, rfl⟩ := trodAll_nil r0
  obtain rfl : args = #[v0] := by cases args; simp_all
  obtain ⟨rfl, rfl⟩ := trodVars_none hV
  have k0 := h0
  have lt0 : ∀ x ∈ p0, x.block < W.heap.size := by obtain ⟨m, hm⟩ := k0; exact DataW.trod_lt m _ _ _ hm
  obtain ⟨a0, len0, cap0, rfl⟩ := okWide_slice Try.underlying22 (hval 0 22 v0 rfl rfl)
  have od := fun {A : Option Addr} {n c : Nat} {d : DataW H} {ps : List MemPlace} (h : DataW.Trod enc Try.prog W 0 (fun _ => true) true 22 (.slice A n c) d ps) (hl : ∀ x ∈ ps, x.block < W.heap.size) =>
    open_doc_trod Try.underlying3 Try.underlying9 Try.underlying22 Try.underlying56 rfl rfl rfl rfl rfl rfl (by kernel_rfl) (by kernel_rfl)
      Rows.uptoBulk Rows.uptoBulkAll (fun l => by simp [Rows.uptoBulk]) (fun e s => by simp [Rows.uptoBulk]) (fun p => by simp [Rows.uptoBulk]) (fun y r => by simp [Rows.uptoBulkAll]) h hl
  obtain ⟨a, ha1, ha2, ha3, ha4⟩ := od k0 lt0
  have hsum : a.nodes + a.letters ≤ 1048576 := by
    have h : Rows.uptoBulkAll ([d0] ++ []) ≤ 1048576 := of_decide_eq_true hk
    simp only [List.append_nil, Rows.uptoBulkAll] at h
    omega
  clear hA0 hval0 od
  simp only [List.append_nil] at hW'
  refine (walk a a0 len0 cap0 W (by omega) ha3).mono fun e W' ⟨he, bel⟩ => ?_
  subst he
  exact ⟨_, rfl, _, _, _, [], _, [], hW', trodAll_mk1 (shut_bool Try.underlying4 _), (trodAll_cons_mk (Below.trod laidOut (by kernel_rfl) (of_decide_eq_true (by kernel_rfl)) k0 bel lt0) trodAll_mk0), rfl, bel.frame _, fun h => by cases h⟩

set_option maxRecDepth 100000 in
theorem lifted (os : Os) (started : os.Started) (H : Type) (enc : TypeId × Value → H) (F : Stop.Interp) :
    ReturnsInHanded {} Try.checked os 5 .any ((Rows.OpenSpec.upto Rows.markPlainsSpec).pre6 enc Try.prog Try.f5 Rows.markPlainsUptoRow.domain false) (((Rows.OpenSpec.upto Rows.markPlainsSpec).at F).post enc Try.prog Try.f5 false true false false) := by
  refine returnsInHanded_of_cond (C := Try.checked) (s := Rows.OpenSpec.upto Rows.markPlainsSpec) (k := Rows.uptoSmall) rfl own started (by kernel_rfl) Try.func5
    (OpenSpec.witness (enc := enc) (C := Try.checked) (s := Rows.OpenSpec.upto Rows.markPlainsSpec) (k := Rows.uptoSmall) rfl false ⟨#[], #[.slice none 0 0], []⟩ 8 (by kernel_rfl) (by kernel_rfl) (by kernel_rfl)
      (x := ([.nil], [], [])) (by kernel_rfl) rfl (by kernel_rfl)) ?_
  intro W base args ds gs before hval hW _ hk _
  exact contract H enc W base args ds gs before hval hW hk

theorem proved : Rows.MarkPlainsUptoSaid :=
  OpenClaim.holds_of_cond 5 Try.f5 rfl rfl rfl rfl rfl rfl rfl ⟨rfl, rfl, rfl, rfl, rfl⟩ rfl rfl rfl rfl rfl (by kernel_rfl) Try.func5 (by kernel_rfl)
    (of_decide_eq_true (by kernel_rfl)) (by unfold Func.isWrapper; first | (rw [if_pos (by decide +kernel)]; kernel_rfl) | (rw [if_neg (by decide +kernel)]; exact ⟨rfl, rfl⟩))
    (fun os started H enc _ F => lifted os started H enc F)
#print axioms proved
end Go.Proofs.Ytmaahkonjpcgiaa.markPlainsDone
