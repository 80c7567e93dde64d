/- DERIVED. THE STATEMENT MarkSummariesUptoSaid: for every document and number that are together of bulk at most 1048576 MarkSummaries returns true, and its arguments read afterwards as they read before. -/
import Derived.Test.YtmaahkonjpcgiaaSummary
import Derived.Test.YtmaahkonjpcgiaaPlainOf
import Derived.Test.YtmaahkonjpcgiaaSameDoc
import Derived.ProofKit
import Derived.OpenShut
import Derived.ChangeOld
import Derived.JoinedCond
namespace Go.Proofs.Ytmaahkonjpcgiaa.markSummariesDone
open Go.ChangeShapes Go.WideShapes Go.ChangeAt Go.RowKit Go.Deep
set_option linter.unusedVariables false

theorem own : ownKnob Try.prog.godebug = none := by kernel_rfl
theorem laidOut : laidOutB Try.prog = true := by kernel_rfl

theorem docErr_zero {a : Doc} (h : a.docErr = 0) : a.err 0 = 0 := by
  unfold Doc.docErr at h
  by_cases h1 : 4000 < a.nodes
  · rw [if_pos h1] at h; simp at h
  · rw [if_neg h1] at h
    cases h2 : a.deep 0 0 with
    | true => rw [h2, if_pos rfl] at h; simp at h
    | false => rw [h2, if_neg (by simp)] at h; exact h

set_option maxRecDepth 100000 in
set_option maxHeartbeats 1600000 in
theorem walk (a : Doc) (A : Option Addr) (n c : Nat) (W : Int) (w : World) (hbig : a.letters + 2 * a.nodes ≤ 1099511627776) (hnc : n ≤ c) (hcm : c ≤ maxLen) (ha : a.At w w.heap.size A n) :
    Calls Try.prog 7 #[.slice A n c, .int .i64 W] w fun e w' => e = .returned (.bool true) ∧ Below w.heap.size w w' := by
  have hka : ∀ wX, Below w.heap.size w wX → a.At wX wX.heap.size A n := fun wX hX => (ha.below hX).more hX.size
  have HKA := Lib.hid hka
  have hnl := ha.len_eq
  have hn : n ≤ 1099511627776 := by
    have := Doc.len_le a
    omega
  have HNL := Lib.hid hnl; clear hnl
  have h1 := summary_any a A n c W w hbig hnc hcm ha
  have h2 := fun wX hX => DocError_any a A n c wX (by omega) (hka wX hX)
  unfold SummaryPost at h1
  have H1 := Lib.hid h1
  have H2 := Lib.hid h2
  have herr : a.docErr = 0 → a.err 0 = 0 := docErr_zero
  clear h1 h2 hka ha
  obtain ⟨d, hd⟩ : ∃ d, a.docErr = d := ⟨_, rfl⟩
  rw [hd] at H1 H2 herr
  have HER := Lib.hid herr
  clear hd herr
  by_cases h0 : sumErr d W = 0
  · have hd0 : d = 0 ∧ 0 ≤ W ∧ W ≤ 20000 := by
      unfold sumErr at h0
      by_cases hd : d = 0
      · refine ⟨hd, ?_⟩
        subst hd
        rw [if_neg (by simp)] at h0
        by_cases h : W < 0 ∨ 20000 < W
        · rw [if_pos h] at h0; simp at h0
        · omega
      · rw [if_pos hd] at h0; exact absurd h0 hd
    obtain ⟨rfl, hw0, hw1⟩ := hd0
    have H0 := Lib.hid h0; clear h0
    have hw0' : ¬ W < 0 := by omega
    have hw1' : ¬ 20000 < W := by omega
    obtain ⟨k0, hk0⟩ : ∃ k0, a.cut W 0 = k0 := ⟨_, rfl⟩
    have hk0n : k0 ≤ n := by rw [← hk0, HNL.out]; exact Doc.cut_le _ _ _
    rw [hk0] at H1
    have HK0 := Lib.hid hk0; clear hk0
    go_enter Try.func7, Try.ntmps7
    go_wp2_with fail
    refine H1.out.mono ?_
    rintro e w1 hor
    rcases hor with ⟨hne, _⟩ | ⟨_, A2, c2, rfl, hc2, hm2, hat2, hb1⟩
    · exact absurd H0.out hne
    have HAT := Lib.hid hat2; clear hat2
    have HC2 := Lib.hid (And.intro hc2 hm2); clear hc2 hm2
    go_wp2_with fail
    refine (H2.out w1 hb1).mono ?_
    rintro e w2 ⟨rfl, hb2⟩
    have hb3 := hb1.trans (hb2.mono hb1.size)
    have HB2 := Lib.hid hb2; clear hb2
    go_wp2_with fail
    all_goals (first | (exfalso; omega) | skip)
    go_loopw [9, 10] (fun s i wr => ∃ k m : Nat, k ≤ n ∧ i = .int .i64 k ∧ s = .int .i64 m ∧ m ≤ 8796093022208 ∧ a.cut W 0 = (a.drop k).cut W m + k ∧ Below w.heap.size w wr ∧ Below w1.heap.size w1 wr) (fun _ i _ => n - (intOf i).toNat)
    case atStart => exact ⟨0, 0, Nat.zero_le _, rfl, rfl, Nat.zero_le _, by rw [Doc.drop_zero']; rfl, hb3, HB2.out⟩
    case round =>
      obtain ⟨k, m, hk, rfl, rfl, hm, hx, hbw, hbv⟩ := hrel
      clear H1 H2 hb1 hb3
      by_cases hgo : k < n ∧ (m : Int) < W
      · obtain ⟨hlt, hmw⟩ := hgo
        rw [Doc.cut_step (by rw [← HNL.out]; exact hlt) hmw] at hx
        obtain ⟨b, off, rfl, _⟩ := (HKA.out wr hbw).base (by omega)
        have hone := Doc.At.one k (HKA.out wr hbw) hlt
        have hb1 : ((a.drop k).take 1).letters + 2 * ((a.drop k).take 1).nodes ≤ 1099511627776 := Nat.le_trans (Doc.size_take _ _) (Nat.le_trans (Doc.letters_drop _ _) hbig)
        have her := Doc.err_take 1 _ 0 (Doc.drop_err k a 0 (HER.out trivial))
        obtain ⟨z, hz⟩ : ∃ z : ByteArray, z = ⟨(((a.drop k).take 1).plain true).toArray⟩ := ⟨_, rfl⟩
        obtain ⟨q, hq⟩ : ∃ q, (a.drop k).headWords = q := ⟨_, rfl⟩
        have hq' : words z.data.toList false = q := by rw [hz, ← hq]; rfl
        rw [hq] at hx
        have hzs : z.size ≤ 2199023255552 := by
          rw [hz]
          show (((a.drop k).take 1).plain true).toArray.size ≤ _
          have := Doc.plain_len ((a.drop k).take 1) true
          simp; omega
        have hql : q ≤ 2199023255552 := by
          rw [← hq']
          refine Nat.le_trans (words_len _ _) ?_
          simpa using hzs
        have h2 : ∀ cc, Calls Try.prog 18 #[.slice (some ⟨b, off + k * 6, none⟩) 1 cc] wr fun e w' => e = .returned (.string z) ∧ Below wr.heap.size wr w' := fun cc => by
          rw [hz]; exact plainOf_any _ _ 0 _ 1 cc wr (Nat.le_refl _) hb1 her hone
        have h3 : ∀ wX, Calls Try.prog 19 #[.string z] wX fun e w' => e = .returned (.int .i64 q) ∧ wX = w' := fun wX => by
          have h := wordsOf_any z wX (by omega)
          rw [hq'] at h
          exact h
        have H2 := Lib.hid h2
        have H3 := Lib.hid h3
        have HX := Lib.hid hx
        clear h2 h3 hx hz hq hq' hone hb1 her
        go_wp2_with fail
        refine (H2.out _).mono ?_
        rintro e w2 ⟨rfl, hb2⟩
        go_wp2_with fail
        refine (H3.out w2).mono ?_
        rintro e w3 ⟨rfl, rfl⟩
        go_wp2_with fail
        go_roundw
        case rel => exact ⟨k + 1, m + q, by omega, by go_num, by go_num, by omega, by rw [HX.out]; omega, hbw.trans (hb2.mono hbw.size), hbv.trans (hb2.mono hbv.size)⟩
        case measure => simp [intOf]; omega
      · have hfin : k = k0 := by
          rw [← HK0.out]
          by_cases hlt : k < n
          · rw [hx, Doc.cut_stop (fun h => hgo ⟨hlt, h⟩)]; omega
          · obtain rfl : k = n := by omega
            have hd : a.drop k = .nil := by rw [HNL.out, Doc.drop_len']
            rw [hx, hd]; simp [Doc.cut]
        subst hfin
        have hcall : ∀ cc, Calls Try.prog 10 #[.slice A2 k c2, .slice A k cc] wr fun e w' => e = .returned (.bool true) ∧ Below wr.heap.size wr w' := fun cc => by
          have h := sameDoc_any (a.take k).nodes (a.take k) (a.take k) A2 A k k c2 cc wr (Nat.le_refl _) (by unfold maxLen; omega) (by unfold maxLen; omega) ((HAT.out.below hbv).more hbv.size) (Doc.At.take k (HKA.out wr hbw) hk)
          rw [Doc.same_refl] at h
          exact h
        have HC := Lib.hid hcall
        clear hx hcall
        by_cases hlt : k < n
        · have hmw : ¬ (m : Int) < W := fun h => hgo ⟨hlt, h⟩
          clear hgo
          have hdk : decide (k < n) = true := decide_eq_true hlt
          rw [hdk]
          go_wp2_with fail
          refine (HC.out _).mono ?_
          rintro e w2 ⟨rfl, hb2⟩
          go_wp2_with fail
          go_ret
          exact ⟨rfl, hbw.trans (hb2.mono hbw.size)⟩
        · obtain rfl : k = n := by omega
          clear hgo hlt
          have hdk : decide (k < k) = false := decide_eq_false (Nat.lt_irrefl _)
          rw [hdk]
          go_wp2_with fail
          refine (HC.out _).mono ?_
          rintro e w2 ⟨rfl, hb2⟩
          go_wp2_with fail
          go_ret
          exact ⟨rfl, hbw.trans (hb2.mono hbw.size)⟩
  · obtain ⟨s, hs⟩ : ∃ s, sumErr d W = s := ⟨_, rfl⟩
    have hs0 : s ≠ 0 := by rw [← hs]; exact h0
    have hsd : d ≠ 0 ∧ s = d ∨ d = 0 ∧ W < 0 ∧ s = 2 ∨ d = 0 ∧ 20000 < W ∧ s = 2 := by
      unfold sumErr at hs
      by_cases hd : d = 0
      · rw [if_neg (by simpa using hd)] at hs
        by_cases h : W < 0 ∨ 20000 < W
        · rw [if_pos h] at hs; omega
        · rw [if_neg h] at hs; omega
      · rw [if_pos hd] at hs; omega
    have H0 := Lib.hid h0; clear h0
    rw [hs] at H1
    clear hs
    have hss : (s == s) = true := by simp
    rcases hsd with ⟨hd, rfl⟩ | ⟨rfl, hw, rfl⟩ | ⟨rfl, hw, rfl⟩
    all_goals (
      go_enter Try.func7, Try.ntmps7
      go_wp2_with fail
      refine H1.out.mono ?_
      rintro e w1 hor
      rcases hor with ⟨_, rfl, hb1⟩ | ⟨hne, _⟩
      · go_wp2_with fail
        refine (H2.out w1 hb1).mono ?_
        rintro e w2 ⟨rfl, hb2⟩
        have hb3 := hb1.trans (hb2.mono hb1.size)
        go_wp2_with fail
        all_goals (first | (exfalso; omega) | skip)
        all_goals go_ret
        all_goals exact ⟨rfl, hb3⟩
      · exact absurd hne hs0)

set_option maxRecDepth 100000 in
theorem contract (H : Type) (enc : TypeId × Value → H) (W : World) (base : Nat) (args : Array Value) (ds gs : List (DataW H)) (before : List MemPlace)
    (hval0 : ∀ (j : Nat) t v, Try.f7.params[j]? = some t → args[j]? = some v → Value.okWide Try.prog W .any base t v)
    (hW : DataW.Whole enc Try.prog Try.f7.params.toList Rows.markSummariesSpec.vars false W args.toList ds gs before) (hk : Rows.uptoSmall H (ds ++ gs) = true) :
    Calls Try.prog 7 args W fun e W' => ∃ v, e = .returned v ∧ Rows.markSummariesSpec.post enc Try.prog Try.f7 false true false false W args v W' := by
  have hval : ∀ (j : Nat) t v, Try.f7.params[j]? = some t → args[j]? = some v → Value.okWide Try.prog W .any base t v := hval0
  have hW' := hW
  obtain ⟨p, q, hA0, hV, rfl, hfz, hnd⟩ := hW
  have hA : DataW.TrodAll enc Try.prog W 0 (fun _ => true) true Try.f7.params.toList args.toList ds p := hA0
  rw [Try.params7] at hA hval
  obtain ⟨v0, vs0, d0, ds0, p0, q0, hargs, rfl, rfl, h0, r0⟩ := trodAll_cons hA
  obtain ⟨v1, vs1, d1, ds1, p1, q1, rfl, rfl, rfl, h1, r1⟩ := trodAll_cons r0
  obtain ⟨rfl, rfl, rfl⟩ := trodAll_nil r1
  obtain rfl : args = #[v0, v1] := by cases args; simp_all
  obtain ⟨rfl, rfl⟩ := trodVars_none hV
  have k0 := h0
  have k1 := h1
  have lt0 : ∀ x ∈ p0, x.block < W.heap.size := by obtain ⟨m, hm⟩ := k0; exact DataW.trod_lt m _ _ _ hm
  have lt1 : ∀ x ∈ p1, x.block < W.heap.size := by obtain ⟨m, hm⟩ := k1; exact DataW.trod_lt m _ _ _ hm
  obtain ⟨z1, rfl⟩ := okWide_int Try.underlying3 (hval 1 3 v1 rfl rfl)
  obtain ⟨a0, len0, cap0, rfl⟩ := okWide_slice Try.underlying22 (hval 0 22 v0 rfl rfl)
  have od := fun {A : Option Addr} {n c : Nat} {d : DataW H} {ps : List MemPlace} (h : DataW.Trod enc Try.prog W 0 (fun _ => true) true 22 (.slice A n c) d ps) (hl : ∀ x ∈ ps, x.block < W.heap.size) =>
    open_doc_trod Try.underlying3 Try.underlying9 Try.underlying22 Try.underlying56 rfl rfl rfl rfl rfl rfl (by kernel_rfl) (by kernel_rfl)
      Rows.uptoBulk Rows.uptoBulkAll (fun l => by simp [Rows.uptoBulk]) (fun e s => by simp [Rows.uptoBulk]) (fun p => by simp [Rows.uptoBulk]) (fun y r => by simp [Rows.uptoBulkAll]) h hl
  obtain ⟨a, ha1, ha2, ha3, ha4⟩ := od k0 lt0
  have hsum : a.nodes + a.letters ≤ 1048576 := by
    have h : Rows.uptoBulkAll ([d0, d1] ++ []) ≤ 1048576 := of_decide_eq_true hk
    simp only [List.append_nil, Rows.uptoBulkAll] at h
    omega
  clear hA0 hval0 od
  simp only [List.append_nil] at hW'
  refine (walk a a0 len0 cap0 z1 W (by omega) ha1 ha2 ha3).mono fun e W' ⟨he, bel⟩ => ?_
  subst he
  exact ⟨_, rfl, _, _, _, [], _, [], hW', trodAll_mk1 (shut_bool Try.underlying4 _), (trodAll_cons_mk (Below.trod laidOut (by kernel_rfl) (of_decide_eq_true (by kernel_rfl)) k0 bel lt0) (trodAll_cons_mk (Below.trod laidOut (by kernel_rfl) (of_decide_eq_true (by kernel_rfl)) k1 bel lt1) trodAll_mk0)), rfl, bel.frame _, fun h => by cases h⟩

set_option maxRecDepth 100000 in
theorem lifted (os : Os) (started : os.Started) (H : Type) (enc : TypeId × Value → H) (F : Stop.Interp) :
    ReturnsInHanded {} Try.checked os 7 .any ((Rows.OpenSpec.upto Rows.markSummariesSpec).pre6 enc Try.prog Try.f7 Rows.markSummariesUptoRow.domain false) (((Rows.OpenSpec.upto Rows.markSummariesSpec).at F).post enc Try.prog Try.f7 false true false false) := by
  refine returnsInHanded_of_cond (C := Try.checked) (s := Rows.OpenSpec.upto Rows.markSummariesSpec) (k := Rows.uptoSmall) rfl own started (by kernel_rfl) Try.func7
    (OpenSpec.witness (enc := enc) (C := Try.checked) (s := Rows.OpenSpec.upto Rows.markSummariesSpec) (k := Rows.uptoSmall) rfl false ⟨#[], #[.slice none 0 0, .int .i64 0], []⟩ 8 (by kernel_rfl) (by kernel_rfl) (by kernel_rfl)
      (x := ([.nil, .lit (.int .i64 0)], [], [])) (by kernel_rfl) rfl (by kernel_rfl)) ?_
  intro W base args ds gs before hval hW _ hk _
  exact contract H enc W base args ds gs before hval hW hk

theorem proved : Rows.MarkSummariesUptoSaid :=
  OpenClaim.holds_of_cond 7 Try.f7 rfl rfl rfl rfl rfl rfl rfl ⟨rfl, rfl, rfl, rfl, rfl⟩ rfl rfl rfl rfl rfl (by kernel_rfl) Try.func7 (by kernel_rfl)
    (of_decide_eq_true (by kernel_rfl)) (by unfold Func.isWrapper; first | (rw [if_pos (by decide +kernel)]; kernel_rfl) | (rw [if_neg (by decide +kernel)]; exact ⟨rfl, rfl⟩))
    (fun os started H enc _ F => lifted os started H enc F)
#print axioms proved
end Go.Proofs.Ytmaahkonjpcgiaa.markSummariesDone
