/- DERIVED. THE STATEMENT MarkShiftsUptoSaid: for every document and number that are together of bulk at most 1048576 MarkShifts returns true, and its arguments read afterwards as they read before. -/
import Derived.Test.YtmaahkonjpcgiabShift
import Derived.Test.YtmaahkonjpcgiabShifted
import Derived.Test.YtmaahkonjpcgiabSameDoc
import Derived.ProofKit
import Derived.OpenShut
import Derived.ChangeOld
import Derived.JoinedCond
namespace Go.Proofs.Ytmaahkonjpcgiab.markShiftsDone
open Go.ChangeShapes Go.WideShapes Go.ChangeAt Go.RowKit Go.Deep
set_option linter.unusedVariables false

theorem own : ownKnob Try.prog.godebug = none := by kernel_rfl
theorem laidOut : laidOutB Try.prog = true := by kernel_rfl

set_option maxRecDepth 100000 in
set_option maxHeartbeats 1600000 in
theorem walk (a : Doc) (A : Option Addr) (n c : Nat) (b : Int) (w : World) (hbig : a.nodes ≤ 1099511627776) (hnc : n ≤ c) (hcm : c ≤ maxLen) (ha : a.At w w.heap.size A n) :
    Calls Try.prog 4 #[.slice A n c, .int .i64 b] w fun e w' => e = .returned (.bool true) ∧ Below w.heap.size w w' := by
  have hka : ∀ wX, Below w.heap.size w wX → a.At wX wX.heap.size A n := fun wX hX => (ha.below hX).more hX.size
  have hn : n ≤ 1099511627776 := by
    have := Doc.len_le a
    have := ha.len_eq
    omega
  obtain ⟨d, hd⟩ : ∃ d, a.docErr = d := ⟨_, rfl⟩
  have h1 := shift_any a A n c d b w hd hbig ha
  have h2 := fun wX hX => DocError_any a A n c wX hbig (hka wX hX)
  rw [hd] at h2
  unfold ShiftPost at h1
  have H1 := Lib.hid h1
  have H2 := Lib.hid h2
  have hlv : d = 0 → a.lvOk := fun h => Doc.lvOk_of_err a 0 (docErr_zero (hd.trans h))
  have h3 : d = 0 → -5 ≤ b → b ≤ 5 → ∀ wX, Below w.heap.size w wX → Calls Try.prog 14 #[.slice A n c, .int .i64 b] wX (ShiftedPost a b n wX) := fun g0 g1 g2 wX hX =>
    shifted_any b g1 g2 a.nodes a A n c wX (Nat.le_refl _) hbig (hlv g0) (hka wX hX)
  have H3 := Lib.hid h3
  clear h1 h2 h3 hka ha hlv hd
  by_cases h0 : shErr d b = 0
  · have hd0 : d = 0 ∧ -5 ≤ b ∧ b ≤ 5 := by
      unfold shErr at h0
      by_cases hd : d = 0
      · refine ⟨hd, ?_⟩
        subst hd
        rw [if_neg (by simp)] at h0
        by_cases h : b < -5 ∨ 5 < b
        · rw [if_pos h] at h0; simp at h0
        · omega
      · rw [if_pos hd] at h0; exact absurd h0 hd
    obtain ⟨rfl, hb0, hb1⟩ := hd0
    have H0 := Lib.hid h0; clear h0
    go_enter Try.func4, Try.ntmps4
    go_wp2_with fail
    refine H1.out.mono ?_
    rintro e w1 hor
    rcases hor with ⟨hne, _⟩ | ⟨_, A2, c2, rfl, hc2, hm2, hat2, hbw⟩
    · exact absurd H0.out hne
    have HAT := Lib.hid hat2; clear hat2
    have HC2 := Lib.hid (And.intro hc2 hm2); clear hc2 hm2
    go_wp2_with fail
    refine (H2.out w1 hbw).mono ?_
    rintro e w2 ⟨rfl, hb2⟩
    have hbw2 := hbw.trans (hb2.mono hbw.size)
    have HB2 := Lib.hid hb2; clear hb2
    go_wp2_with fail
    all_goals (first | (exfalso; omega) | skip)
    refine (H3.out trivial hb0 hb1 w2 hbw2).mono ?_
    rintro e w3 ⟨A3, c3, rfl, hc3, hm3, hat3, hb3⟩
    have hat3' := hat3.at_ (B := w3.heap.size) (fun q hq => hq.2)
    have hbw3 := hbw2.trans (hb3.mono hbw2.size)
    have hb13 : Below w1.heap.size w1 w3 := HB2.out.trans (hb3.mono HB2.out.size)
    have hs := sameDoc_any (a.shift b).nodes (a.shift b) (a.shift b) A2 A3 n n c2 c3 w3 (Nat.le_refl _) (by unfold maxLen; omega) (by unfold maxLen; omega) ((HAT.out.below hb13).more hb13.size) hat3'
    rw [Doc.same_refl] at hs
    have HS := Lib.hid hs; clear hs hat3 hat3' hb3 hc3 hm3
    go_wp2_with fail
    refine HS.out.mono ?_
    rintro e w4 ⟨rfl, hb4⟩
    go_wp2_with fail
    go_ret
    exact ⟨rfl, hbw3.trans (hb4.mono hbw3.size)⟩
  · obtain ⟨s, hs⟩ : ∃ s, shErr d b = s := ⟨_, rfl⟩
    have hs0 : s ≠ 0 := by rw [← hs]; exact h0
    have hsd : d ≠ 0 ∧ s = d ∨ d = 0 ∧ b < -5 ∧ s = 2 ∨ d = 0 ∧ 5 < b ∧ s = 2 := by
      unfold shErr at hs
      by_cases hd : d = 0
      · rw [if_neg (by simpa using hd)] at hs
        by_cases h : b < -5 ∨ 5 < b
        · rw [if_pos h] at hs; omega
        · rw [if_neg h] at hs; omega
      · rw [if_pos hd] at hs; omega
    have H0 := Lib.hid h0; clear h0
    rw [hs] at H1
    clear hs H3
    have hss : (s == s) = true := by simp
    rcases hsd with ⟨hd, rfl⟩ | ⟨rfl, hw, rfl⟩ | ⟨rfl, hw, rfl⟩
    all_goals (
      go_enter Try.func4, Try.ntmps4
      go_wp2_with fail
      refine H1.out.mono ?_
      rintro e w1 hor
      rcases hor with ⟨_, rfl, hb1⟩ | ⟨hne, _⟩
      · go_wp2_with fail
        refine (H2.out w1 hb1).mono ?_
        rintro e w2 ⟨rfl, hb2⟩
        have hb3 := hb1.trans (hb2.mono hb1.size)
        go_wp2_with fail
        all_goals (first | (exfalso; omega) | skip)
        all_goals go_ret
        all_goals exact ⟨rfl, hb3⟩
      · exact absurd hne hs0)

set_option maxRecDepth 100000 in
theorem contract (H : Type) (enc : TypeId × Value → H) (W : World) (base : Nat) (args : Array Value) (ds gs : List (DataW H)) (before : List MemPlace)
    (hval0 : ∀ (j : Nat) t v, Try.f4.params[j]? = some t → args[j]? = some v → Value.okWide Try.prog W .any base t v)
    (hW : DataW.Whole enc Try.prog Try.f4.params.toList Rows.markShiftsSpec.vars false W args.toList ds gs before) (hk : Rows.uptoSmall H (ds ++ gs) = true) :
    Calls Try.prog 4 args W fun e W' => ∃ v, e = .returned v ∧ Rows.markShiftsSpec.post enc Try.prog Try.f4 false true false false W args v W' := by
  have hval : ∀ (j : Nat) t v, Try.f4.params[j]? = some t → args[j]? = some v → Value.okWide Try.prog W .any base t v := hval0
  have hW' := hW
  obtain ⟨p, q, hA0, hV, rfl, hfz, hnd⟩ := hW
  have hA : DataW.TrodAll enc Try.prog W 0 (fun _ => true) true Try.f4.params.toList args.toList ds p := hA0
  rw [Try.params4] at hA hval
  obtain ⟨v0, vs0, d0, ds0, p0, q0, hargs, rfl, rfl, h0, r0⟩ := trodAll_cons hA
  obtain ⟨v1, vs1, d1, ds1, p1, q1, rfl, rfl, rfl, h1, r1⟩ := trodAll_cons r0
  obtain ⟨rfl, rfl, rfl⟩ := trodAll_nil r1
  obtain rfl : args = #[v0, v1] := by cases args; simp_all
  obtain ⟨rfl, rfl⟩ := trodVars_none hV
  have k0 := h0
  have k1 := h1
  have lt0 : ∀ x ∈ p0, x.block < W.heap.size := by obtain ⟨m, hm⟩ := k0; exact DataW.trod_lt m _ _ _ hm
  have lt1 : ∀ x ∈ p1, x.block < W.heap.size := by obtain ⟨m, hm⟩ := k1; exact DataW.trod_lt m _ _ _ hm
  obtain ⟨z1, rfl⟩ := okWide_int Try.underlying3 (hval 1 3 v1 rfl rfl)
  obtain ⟨a0, len0, cap0, rfl⟩ := okWide_slice Try.underlying22 (hval 0 22 v0 rfl rfl)
  have od := fun {A : Option Addr} {n c : Nat} {d : DataW H} {ps : List MemPlace} (h : DataW.Trod enc Try.prog W 0 (fun _ => true) true 22 (.slice A n c) d ps) (hl : ∀ x ∈ ps, x.block < W.heap.size) =>
    open_doc_trod Try.underlying3 Try.underlying9 Try.underlying22 Try.underlying47 rfl rfl rfl rfl rfl rfl (by kernel_rfl) (by kernel_rfl)
      Rows.uptoBulk Rows.uptoBulkAll (fun l => by simp [Rows.uptoBulk]) (fun e s => by simp [Rows.uptoBulk]) (fun p => by simp [Rows.uptoBulk]) (fun y r => by simp [Rows.uptoBulkAll]) h hl
  obtain ⟨a, ha1, ha2, ha3, ha4⟩ := od k0 lt0
  have hsum : a.nodes + a.letters ≤ 1048576 := by
    have h : Rows.uptoBulkAll ([d0, d1] ++ []) ≤ 1048576 := of_decide_eq_true hk
    simp only [List.append_nil, Rows.uptoBulkAll] at h
    omega
  clear hA0 hval0 od
  simp only [List.append_nil] at hW'
  refine (walk a a0 len0 cap0 z1 W (by omega) ha1 ha2 ha3).mono fun e W' ⟨he, bel⟩ => ?_
  subst he
  exact ⟨_, rfl, _, _, _, [], _, [], hW', trodAll_mk1 (shut_bool Try.underlying4 _), (trodAll_cons_mk (Below.trod laidOut (by kernel_rfl) (of_decide_eq_true (by kernel_rfl)) k0 bel lt0) (trodAll_cons_mk (Below.trod laidOut (by kernel_rfl) (of_decide_eq_true (by kernel_rfl)) k1 bel lt1) trodAll_mk0)), rfl, bel.frame _, fun h => by cases h⟩

set_option maxRecDepth 100000 in
theorem lifted (os : Os) (started : os.Started) (H : Type) (enc : TypeId × Value → H) (F : Stop.Interp) :
    ReturnsInHanded {} Try.checked os 4 .any ((Rows.OpenSpec.upto Rows.markShiftsSpec).pre6 enc Try.prog Try.f4 Rows.markShiftsUptoRow.domain false) (((Rows.OpenSpec.upto Rows.markShiftsSpec).at F).post enc Try.prog Try.f4 false true false false) := by
  refine returnsInHanded_of_cond (C := Try.checked) (s := Rows.OpenSpec.upto Rows.markShiftsSpec) (k := Rows.uptoSmall) rfl own started (by kernel_rfl) Try.func4
    (OpenSpec.witness (enc := enc) (C := Try.checked) (s := Rows.OpenSpec.upto Rows.markShiftsSpec) (k := Rows.uptoSmall) rfl false ⟨#[], #[.slice none 0 0, .int .i64 0], []⟩ 8 (by kernel_rfl) (by kernel_rfl) (by kernel_rfl)
      (x := ([.nil, .lit (.int .i64 0)], [], [])) (by kernel_rfl) rfl (by kernel_rfl)) ?_
  intro W base args ds gs before hval hW _ hk _
  exact contract H enc W base args ds gs before hval hW hk

theorem proved : Rows.MarkShiftsUptoSaid :=
  OpenClaim.holds_of_cond 4 Try.f4 rfl rfl rfl rfl rfl rfl rfl ⟨rfl, rfl, rfl, rfl, rfl⟩ rfl rfl rfl rfl rfl (by kernel_rfl) Try.func4 (by kernel_rfl)
    (of_decide_eq_true (by kernel_rfl)) (by unfold Func.isWrapper; first | (rw [if_pos (by decide +kernel)]; kernel_rfl) | (rw [if_neg (by decide +kernel)]; exact ⟨rfl, rfl⟩))
    (fun os started H enc _ F => lifted os started H enc F)
#print axioms proved
end Go.Proofs.Ytmaahkonjpcgiab.markShiftsDone
