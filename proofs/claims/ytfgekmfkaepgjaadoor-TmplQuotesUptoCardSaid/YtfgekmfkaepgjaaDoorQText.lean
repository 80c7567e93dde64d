/- DERIVED. What the writer's text method leaves in it: the string, quoted. Condition: what it holds takes at most 2^47 bytes. -/
import Derived.Test.YtfgekmfkaepgjaaDoorQuoter
namespace Go.Proofs.YtfgekmfkaepgjaaDoor
set_option linter.unusedVariables false
open Go.RowKit

set_option maxRecDepth 100000 in
set_option maxHeartbeats 4000000 in
theorem qtext_any (B b : Nat) (l : List UInt8) (v : Value) (s : ByteArray) (w : World) (h : QAt B b l v w) (hlen : l.length + (6 * s.size + 2) ≤ 140737488355328) (hBw : B ≤ w.heap.size) :
    Calls Tryd.prog 36 #[.pointer (some ⟨b, 0, none⟩), .string s] w fun e w' => e = .returned (.tuple #[]) ∧ (∃ v', QAt B b (l ++ qS s.data.toList) v' w') ∧ Fr B b w w' := by
  obtain ⟨i0, hi, hz0, hz1, hz2⟩ := info_parts u8Info
  have d0 := h.cell
  have HQ := Lib.hid h; clear h
  go_enter Tryd.func36, Tryd.ntmps36
  go_wp2_with (at_builtin; refine wpList_append_own _ rfl _ _ 45 rfl B 5 i0 (.int .u8 0) 1 1 Tryd.underlying45 hi hz0 hz1 hz2 rfl (by decide) _ _ _ rfl (HQ.out.row.alloc _) ⟨w.heap.size, 0, none⟩ 1 1 [.int .u8 34] rfl rfl ?n1a ?n1b ?n1c ?n1d ?n1e ?_)
  case n1a => first | exact fun j u h => news1 w _ _ _ rfl j u h | (intro j u h; exact news1 w _ _ _ rfl j u h)
  case n1b => intro u hu; simp at hu; subst hu; rfl
  case n1c => skip; unfold maxLen; omega
  case n1d => skip; omega
  case n1e => simp; omega
  intro v1 w1 hown1 hgrow1 _
  obtain ⟨ao1, cp1, rfl⟩ := slice_own hown1
  have st1 := QAt.step (xs := [34]) (HQ.out.alloc _) hown1 (by simp) hgrow1
  clear hown1 hgrow1
  obtain ⟨d1, f1, q1, r1⟩ := st1
  have Q1 := Lib.hid q1; clear q1
  have R1 := Lib.hid r1; clear r1
  
  have QL := Lib.hid (show QAt B b (l ++ (34 :: qcs (s.data.toList.take 0))) _ _ from Q1.out)
  have RL := Lib.hid ((Fr.alloc (b := b) _ hBw).trans R1.out)
  go_wp2_with fail
  clear Q1 R1 d0 d1 f1
  go_loopw [17] (fun i wr => ∃ (k : Nat) (v : Value), k ≤ s.size ∧ i = .int .i64 k ∧ QAt B b (l ++ (34 :: qcs (s.data.toList.take k))) v wr ∧ Fr B b w wr) (fun i _ => s.size - (intOf i).toNat)
  case atStart => exact ⟨0, _, Nat.zero_le _, rfl, QL.out, RL.out⟩
  case round =>
    clear QL RL HQ
    obtain ⟨k, v, hk, rfl, hq, hfr⟩ := hrel
    have hBr : B ≤ wr.heap.size := by have := hfr.bel.size; omega
    have hl6 := qcs_len (s.data.toList.take k)
    have hlk : (s.data.toList.take k).length ≤ k := List.length_take_le _ _
    have hLen : (l ++ (34 :: qcs (s.data.toList.take k))).length = l.length + (qcs (s.data.toList.take k)).length + 1 := by rw [List.length_append, List.length_cons]; omega
    obtain ⟨m, hm⟩ : ∃ m, (l ++ (34 :: qcs (s.data.toList.take k))).length = m := ⟨_, rfl⟩
    have hm6 : m + 6 ≤ 140737488355328 ∨ s.size ≤ k := by omega
    have hm1 : m + 1 ≤ 140737488355328 := by omega
    have d0 := hq.cell
    have HQ := Lib.hid hq; clear hq
    have HFR := Lib.hid hfr; clear hfr hl6 hlk hLen
    have HM := Lib.hid hm
    clear hm
    by_cases hlt : k < s.size
    · have hm6' : m + 6 ≤ 140737488355328 := by omega
      obtain ⟨c, hc⟩ : ∃ c : UInt8, s[k]'hlt = c := ⟨_, rfl⟩
      have ht : qcs (s.data.toList.take (k + 1)) = qcs (s.data.toList.take k) ++ qc c := by
        rw [List.take_succ_eq_append_getElem (by simpa using hlt), qcs_snoc]
        rw [show s.data.toList[k]'(by simpa using hlt) = c from hc]
      have HT := Lib.hid ht; clear ht
      have hqr := HQ.out.row
      rw [HM.out] at hqr
      have HQR := Lib.hid hqr; clear hqr
      have hc255 := c.toNat_lt
      by_cases h34 : (c.toNat : Int) = 34
      · have HE := Lib.hid (show qc c = [92, 34] by unfold qc; rw [if_pos (by simp [h34])]; rw [show c = 34 from UInt8.toNat_inj.1 (by show c.toNat = 34; omega)])
        go_wp2_with (at_builtin; refine wpList_append_own _ rfl _ _ 45 rfl B 5 i0 (.int .u8 0) 1 1 Tryd.underlying45 hi hz0 hz1 hz2 rfl (by decide) _ _ _ rfl (HQ.out.row.alloc _) ⟨wr.heap.size, 0, none⟩ 2 2 [.int .u8 92, .int .u8 34] rfl rfl ?n2a ?n2b ?n2c ?n2d ?n2e ?_)
        case n2a => first | exact fun j u h => news2 wr _ _ _ j u h | (intro j u h; exact news2 wr _ _ _ j u h)
        case n2b => intro u hu; simp at hu; rcases hu with rfl | rfl <;> rfl
        case n2c => have := HM.out; unfold maxLen; omega
        case n2d => have := HM.out; omega
        case n2e => simp; omega
        intro v2 w2 hown2 hgrow2 _
        obtain ⟨ao2, cp2, rfl⟩ := slice_own hown2
        have st2 := QAt.step (xs := [92, 34]) (HQ.out.alloc _) hown2 (by simp) hgrow2
        clear hown2 hgrow2
        obtain ⟨d2, f2, q2, r2⟩ := st2
        have Q2 := Lib.hid q2; clear q2
        have R2 := Lib.hid r2; clear r2
        go_wp2_with fail
        clear d2 f2
        go_roundw
        case rel =>
          exact ⟨k + 1, _, by omega, by go_num, Q2.out.of (by rw [HT.out, HE.out, List.append_assoc, List.cons_append]), HFR.out.trans ((Fr.alloc (b := b) _ hBr).trans R2.out)⟩
        case measure => simp [intOf]; omega
      · by_cases h92 : (c.toNat : Int) = 92
        · have HE := Lib.hid (show qc c = [92, 92] by unfold qc; rw [if_pos (by simp [h92])]; rw [show c = 92 from UInt8.toNat_inj.1 (by show c.toNat = 92; omega)])
          go_wp2_with (at_builtin; refine wpList_append_own _ rfl _ _ 45 rfl B 5 i0 (.int .u8 0) 1 1 Tryd.underlying45 hi hz0 hz1 hz2 rfl (by decide) _ _ _ rfl (HQ.out.row.alloc _) ⟨wr.heap.size, 0, none⟩ 2 2 [.int .u8 92, .int .u8 92] rfl rfl ?n3a ?n3b ?n3c ?n3d ?n3e ?_)
          case n3a => first | exact fun j u h => news2 wr _ _ _ j u h | (intro j u h; exact news2 wr _ _ _ j u h)
          case n3b => intro u hu; simp at hu; rcases hu with rfl | rfl <;> rfl
          case n3c => have := HM.out; unfold maxLen; omega
          case n3d => have := HM.out; omega
          case n3e => simp; omega
          intro v3 w3 hown3 hgrow3 _
          obtain ⟨ao3, cp3, rfl⟩ := slice_own hown3
          have st3 := QAt.step (xs := [92, 92]) (HQ.out.alloc _) hown3 (by simp) hgrow3
          clear hown3 hgrow3
          obtain ⟨d3, f3, q3, r3⟩ := st3
          have Q3 := Lib.hid q3; clear q3
          have R3 := Lib.hid r3; clear r3
          go_wp2_with fail
          clear d3 f3
          go_roundw
          case rel =>
            exact ⟨k + 1, _, by omega, by go_num, Q3.out.of (by rw [HT.out, HE.out, List.append_assoc, List.cons_append]), HFR.out.trans ((Fr.alloc (b := b) _ hBr).trans R3.out)⟩
          case measure => simp [intOf]; omega
        · have hAB : ((c.toNat : Int) == 34 || (c.toNat : Int) == 92) = false := by simp [h34, h92]
          have HE0 := Lib.hid (show qc c = if (decide ((c.toNat : Int) < 32) || qset.contains c) = true then qhex c else [c] by unfold qc; rw [if_neg (by simp [h34, h92])])
          by_cases h32 : (c.toNat : Int) < 32
          · have HE := Lib.hid (show qc c = qhex c by rw [HE0.out]; simp [h32])
            go_wp2_with (first  | (at_builtin; go_loud (refine Lib.wpList_append_own_string _ rfl _ _ 45 9 rfl B 5 i0 Tryd.underlying45 Tryd.underlying9 hi hz0 hz1 hz2 _ _ _ rfl HQ.out.row ⟨#[92, 117, 48, 48]⟩ rfl ?s1 ?s2 ?s3 ?_)))
            case s1 => have := HM.out; simp only [ByteArray.size, List.size_toArray, List.length_cons, List.length_nil]; unfold maxLen; omega
            case s2 => have := HM.out; simp only [ByteArray.size, List.size_toArray, List.length_cons, List.length_nil]; omega
            case s3 => exact hBr
            intro v5 w5 hown5 hgrow5 _
            obtain ⟨ao5, cp5, rfl⟩ := slice_own hown5
            have st5 := QAt.step (xs := [92, 117, 48, 48]) HQ.out hown5 (by simp) hgrow5
            clear hown5 hgrow5
            obtain ⟨d5, f5, q5, r5⟩ := st5
            have Q5 := Lib.hid q5; clear q5
            have R5 := Lib.hid r5; clear r5
            have hBW : B ≤ (w5.setCell ⟨b, 0, none⟩ _).heap.size := Nat.le_trans hBr R5.out.bel.size
            go_wp2_with fail
            clear d5 f5
            generalize w5.setCell ⟨b, 0, none⟩ (.slice ao5 _ cp5) = W at *
            have d6 := Q5.out.cell
            have hm4 : ((l ++ (34 :: qcs (s.data.toList.take k))) ++ [92, 117, 48, 48]).length + 2 ≤ 140737488355328 := by have := HM.out; rw [List.length_append, this]; simp; omega
            have HM4 := Lib.hid hm4
            clear hm4
            go_region_law (first
              | (go_simp; go_at_call 46; with_reducible refine Calls.mono (hex_any c ⟨#[48, 49, 50, 51, 52, 53, 54, 55, 56, 57, 97, 98, 99, 100, 101, 102]⟩ _ rfl) ?_
                 rintro e w6 ⟨rfl, hb6⟩
                 first | have q6 := Q5.out.below hb6 | have q6 := (Q5.out.below (Below.refl _ _).drew).below hb6
                 have r6 : Fr B b W w6 := (by first | exact Fr.of_below hb6 hBW | exact Fr.of_below ((Below.refl _ _).drew.trans hb6) hBW)
                 have hB6 := Nat.le_trans hBW r6.bel.size
                 have d7 := q6.cell
                 have Q6 := Lib.hid q6; clear q6
                 have R6 := Lib.hid r6; clear r6)
              | (refine step_append_str (by rfl) _ _ _ _ (by rfl) B 5 i0 Tryd.underlying45 Tryd.underlying9 hi hz0 hz1 hz2 _ _ _ (by rfl) Q6.out.row ⟨#[dg loD (c.toNat / 16), dg loD (c.toNat % 16)]⟩ (by rfl) (by have := HM4.out; show _ + 2 ≤ maxLen; unfold maxLen; omega) (by exact HM4.out) hB6 ?_
                 intro v7 w7 hown7 hgrow7
                 obtain ⟨n7, hn7⟩ : ∃ n7, ((l ++ (34 :: qcs (s.data.toList.take k))) ++ [92, 117, 48, 48]).length + (⟨#[dg loD (c.toNat / 16), dg loD (c.toNat % 16)]⟩ : ByteArray).size = n7 := ⟨_, rfl⟩
                 rw [hn7] at hown7
                 obtain ⟨ao7, cp7, rfl⟩ := slice_own hown7
                 obtain ⟨d8, f8, q7, r7⟩ := QAt.step (xs := [dg loD (c.toNat / 16), dg loD (c.toNat % 16)]) Q6.out hown7 (by rw [← hn7]; rfl) hgrow7
                 clear hn7 hown7 hgrow7 hb6
                 have Q7 := Lib.hid q7; clear q7
                 have R7 := Lib.hid r7; clear r7))
            all_goals
              go_wp2_with fail
              go_roundw
              case rel => exact ⟨k + 1, _, by omega, by go_num, Q7.out.of (by rw [HT.out, HE.out]; simp [qhex]), HFR.out.trans (R5.out.trans (R6.out.trans R7.out))⟩
              case measure => simp [intOf]; omega
          · by_cases hI : 0 ≤ Lib.indexByte (ByteArray.mk #[60, 62, 38, 39]).data.toList c
            · have HE := Lib.hid (show qc c = qhex c by rw [HE0.out, con4]; simp [hI])
              go_wp2_with (first | (go_at_call 28; refine (ib4 c _).mono ?_; intro e ww hww; obtain ⟨rfl, hww1⟩ := hww; rw [hww1]; clear hww1 ww) | (at_builtin; go_loud (refine Lib.wpList_append_own_string _ rfl _ _ 45 9 rfl B 5 i0 Tryd.underlying45 Tryd.underlying9 hi hz0 hz1 hz2 _ _ _ rfl HQ.out.row ⟨#[92, 117, 48, 48]⟩ rfl ?s1 ?s2 ?s3 ?_)))
              case s1 => have := HM.out; simp only [ByteArray.size, List.size_toArray, List.length_cons, List.length_nil]; unfold maxLen; omega
              case s2 => have := HM.out; simp only [ByteArray.size, List.size_toArray, List.length_cons, List.length_nil]; omega
              case s3 => exact hBr
              intro v5 w5 hown5 hgrow5 _
              obtain ⟨ao5, cp5, rfl⟩ := slice_own hown5
              have st5 := QAt.step (xs := [92, 117, 48, 48]) HQ.out hown5 (by simp) hgrow5
              clear hown5 hgrow5
              obtain ⟨d5, f5, q5, r5⟩ := st5
              have Q5 := Lib.hid q5; clear q5
              have R5 := Lib.hid r5; clear r5
              have hBW : B ≤ (w5.setCell ⟨b, 0, none⟩ _).heap.size := Nat.le_trans hBr R5.out.bel.size
              go_wp2_with fail
              clear d5 f5
              generalize w5.setCell ⟨b, 0, none⟩ (.slice ao5 _ cp5) = W at *
              have d6 := Q5.out.cell
              have hm4 : ((l ++ (34 :: qcs (s.data.toList.take k))) ++ [92, 117, 48, 48]).length + 2 ≤ 140737488355328 := by have := HM.out; rw [List.length_append, this]; simp; omega
              have HM4 := Lib.hid hm4
              clear hm4
              go_region_law (first
                | (go_simp; go_at_call 46; with_reducible refine Calls.mono (hex_any c ⟨#[48, 49, 50, 51, 52, 53, 54, 55, 56, 57, 97, 98, 99, 100, 101, 102]⟩ _ rfl) ?_
                   rintro e w6 ⟨rfl, hb6⟩
                   first | have q6 := Q5.out.below hb6 | have q6 := (Q5.out.below (Below.refl _ _).drew).below hb6
                   have r6 : Fr B b W w6 := (by first | exact Fr.of_below hb6 hBW | exact Fr.of_below ((Below.refl _ _).drew.trans hb6) hBW)
                   have hB6 := Nat.le_trans hBW r6.bel.size
                   have d7 := q6.cell
                   have Q6 := Lib.hid q6; clear q6
                   have R6 := Lib.hid r6; clear r6)
                | (refine step_append_str (by rfl) _ _ _ _ (by rfl) B 5 i0 Tryd.underlying45 Tryd.underlying9 hi hz0 hz1 hz2 _ _ _ (by rfl) Q6.out.row ⟨#[dg loD (c.toNat / 16), dg loD (c.toNat % 16)]⟩ (by rfl) (by have := HM4.out; show _ + 2 ≤ maxLen; unfold maxLen; omega) (by exact HM4.out) hB6 ?_
                   intro v7 w7 hown7 hgrow7
                   obtain ⟨n7, hn7⟩ : ∃ n7, ((l ++ (34 :: qcs (s.data.toList.take k))) ++ [92, 117, 48, 48]).length + (⟨#[dg loD (c.toNat / 16), dg loD (c.toNat % 16)]⟩ : ByteArray).size = n7 := ⟨_, rfl⟩
                   rw [hn7] at hown7
                   obtain ⟨ao7, cp7, rfl⟩ := slice_own hown7
                   obtain ⟨d8, f8, q7, r7⟩ := QAt.step (xs := [dg loD (c.toNat / 16), dg loD (c.toNat % 16)]) Q6.out hown7 (by rw [← hn7]; rfl) hgrow7
                   clear hn7 hown7 hgrow7 hb6
                   have Q7 := Lib.hid q7; clear q7
                   have R7 := Lib.hid r7; clear r7))
              all_goals
                go_wp2_with fail
                go_roundw
                case rel => exact ⟨k + 1, _, by omega, by go_num, Q7.out.of (by rw [HT.out, HE.out]; simp [qhex]), HFR.out.trans (R5.out.trans (R6.out.trans R7.out))⟩
                case measure => simp [intOf]; omega
            · have HE := Lib.hid (show qc c = [c] by rw [HE0.out, con4]; simp [h32, hI])
              go_wp2_with (first | (go_at_call 28; refine (ib4 c _).mono ?_; intro e ww hww; obtain ⟨rfl, hww1⟩ := hww; rw [hww1]; clear hww1 ww) | (at_builtin; refine wpList_append_own _ rfl _ _ 45 rfl B 5 i0 (.int .u8 0) 1 1 Tryd.underlying45 hi hz0 hz1 hz2 rfl (by decide) _ _ _ rfl (HQ.out.row.alloc _) ⟨wr.heap.size, 0, none⟩ 1 1 [.int .u8 c.toNat] rfl rfl ?n4a ?n4b ?n4c ?n4d ?n4e ?_))
              case n4a => first | exact fun j u h => news1 wr _ _ _ rfl j u h | (intro j u h; exact news1 wr _ _ _ rfl j u h)
              case n4b => intro u hu; simp at hu; subst hu; rfl
              case n4c => have := HM.out; unfold maxLen; omega
              case n4d => have := HM.out; omega
              case n4e => simp; omega
              intro v4 w4 hown4 hgrow4 _
              obtain ⟨ao4, cp4, rfl⟩ := slice_own hown4
              have st4 := QAt.step (xs := [c]) (HQ.out.alloc _) hown4 (by simp) hgrow4
              clear hown4 hgrow4
              obtain ⟨d4, f4, q4, r4⟩ := st4
              have Q4 := Lib.hid q4; clear q4
              have R4 := Lib.hid r4; clear r4
              go_wp2_with fail
              clear d4 f4
              go_roundw
              case rel =>
                exact ⟨k + 1, _, by omega, by go_num, Q4.out.of (by rw [HT.out, HE.out, List.append_assoc, List.cons_append]), HFR.out.trans ((Fr.alloc (b := b) _ hBr).trans R4.out)⟩
              case measure => simp [intOf]; omega
    · have hkn : k = s.size := by omega
      have HK := Lib.hid hkn; clear hkn
      go_wp2_with (at_builtin; refine wpList_append_own _ rfl _ _ 45 rfl B 5 i0 (.int .u8 0) 1 1 Tryd.underlying45 hi hz0 hz1 hz2 rfl (by decide) _ _ _ rfl (HQ.out.row.alloc _) ⟨wr.heap.size, 0, none⟩ 1 1 [.int .u8 34] rfl rfl ?n5a ?n5b ?n5c ?n5d ?n5e ?_)
      case n5a => first | exact fun j u h => news1 wr _ _ _ rfl j u h | (intro j u h; exact news1 wr _ _ _ rfl j u h)
      case n5b => intro u hu; simp at hu; subst hu; rfl
      case n5c => have := HM.out; unfold maxLen; omega
      case n5d => have := HM.out; omega
      case n5e => simp; omega
      intro v5 w5 hown5 hgrow5 _
      obtain ⟨ao5, cp5, rfl⟩ := slice_own hown5
      have st5 := QAt.step (xs := [34]) (HQ.out.alloc _) hown5 (by simp) hgrow5
      clear hown5 hgrow5
      obtain ⟨d5, f5, q5, r5⟩ := st5
      have Q5 := Lib.hid q5; clear q5
      have R5 := Lib.hid r5; clear r5
      go_wp2_with fail
      clear d5 f5
      go_end0
      exact ⟨rfl, ⟨_, Q5.out.of (by rw [HK.out, List.take_of_length_le (by simp)]; simp [qS])⟩, HFR.out.trans ((Fr.alloc (b := b) _ hBr).trans R5.out)⟩

end Go.Proofs.YtfgekmfkaepgjaaDoor
