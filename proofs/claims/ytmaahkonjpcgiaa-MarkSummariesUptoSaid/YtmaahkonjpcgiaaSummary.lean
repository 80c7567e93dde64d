/- DERIVED. What Summary returns for every document and number. Condition: at most 2^40 nodes and letters. -/
import Derived.Test.YtmaahkonjpcgiaaCutDoc
import Derived.Test.YtmaahkonjpcgiaaClone
import Derived.Test.YtmaahkonjpcgiaaPlainAdd
set_option linter.unusedSimpArgs false
set_option linter.unusedVariables false
namespace Go.Proofs.Ytmaahkonjpcgiaa
open Go.RowKit

def sumErr (d W : Int) : Int := if d ≠ 0 then d else if W < 0 ∨ 20000 < W then 2 else 0
def SummaryPost (a : Doc) (n : Nat) (W : Int) (w : World) (e : Ending) (w' : World) : Prop :=
  (sumErr a.docErr W ≠ 0 ∧ e = .returned (.tuple #[.slice none 0 0, .bool false, .int .i64 (sumErr a.docErr W)]) ∧ Below w.heap.size w w') ∨
  (sumErr a.docErr W = 0 ∧ ∃ (A' : Option Addr) (c' : Nat), e = .returned (.tuple #[.slice A' (a.cut W 0) c', .bool (decide (a.cut W 0 < n)), .int .i64 0]) ∧ a.cut W 0 ≤ c' ∧ c' ≤ maxLen ∧
    (a.take (a.cut W 0)).At w' w'.heap.size A' (a.cut W 0) ∧ Below w.heap.size w w')

set_option maxRecDepth 100000 in
set_option maxHeartbeats 1600000 in
theorem summary_any (a : Doc) (A : Option Addr) (n c : Nat) (W : Int) (w : World) (hbig : a.letters + 2 * a.nodes ≤ 1099511627776) (hnc : n ≤ c) (hcm : c ≤ maxLen) (ha : a.At w w.heap.size A n) :
    Calls Try.prog 22 #[.slice A n c, .int .i64 W] w (SummaryPost a n W w) := by
  have H1 := Lib.hid (Check_any a A n c w (by omega) ha)
  have hka : ∀ wX, Below w.heap.size w wX → a.At wX wX.heap.size A n := fun wX hX => (ha.below hX).more hX.size
  have HKA := Lib.hid hka; clear hka
  have hnl := ha.len_eq
  have hn : n ≤ 1099511627776 := by
    have := Doc.len_le a
    omega
  have HNL := Lib.hid hnl; clear hnl
  unfold SummaryPost
  obtain ⟨d, hd⟩ : ∃ d, a.docErr = d := ⟨_, rfl⟩
  rw [hd] at H1
  rw [hd]
  clear hd
  by_cases h0 : d = 0
  · by_cases hw0 : W < 0
    · have he : sumErr d W = 2 := by unfold sumErr; rw [if_neg (by simpa using h0), if_pos (.inl hw0)]
      have HE := Lib.hid he; clear he
      subst h0
      clear ha
      go_enter Try.func22, Try.ntmps22
      go_wp2_with fail
      refine H1.out.mono ?_
      rintro e w1 ⟨rfl, hb1⟩
      go_wp2_with fail
      go_ret3
      exact .inl ⟨by rw [HE.out]; decide, by rw [HE.out]; rfl, hb1⟩
    by_cases hw1 : 20000 < W
    · have he : sumErr d W = 2 := by unfold sumErr; rw [if_neg (by simpa using h0), if_pos (.inr hw1)]
      have HE := Lib.hid he; clear he
      subst h0
      clear ha
      go_enter Try.func22, Try.ntmps22
      go_wp2_with fail
      refine H1.out.mono ?_
      rintro e w1 ⟨rfl, hb1⟩
      go_wp2_with fail
      go_ret3
      exact .inl ⟨by rw [HE.out]; decide, by rw [HE.out]; rfl, hb1⟩
    have he : sumErr d W = 0 := by unfold sumErr; rw [if_neg (by simpa using h0), if_neg (by omega)]
    have HE := Lib.hid he; clear he
    subst h0
    clear ha
    go_enter Try.func22, Try.ntmps22
    go_wp2_with fail
    refine H1.out.mono ?_
    rintro e w1 ⟨rfl, hb1⟩
    go_wp2_with fail
    all_goals (first | (exfalso; omega) | skip)
    go_loopw [8, 9] (fun i s wr => ∃ k m : Nat, k ≤ n ∧ i = .int .i64 k ∧ s = .int .i64 m ∧ m ≤ 8796093022208 ∧ a.cut W 0 = (a.drop k).cut W m + k ∧ Below w.heap.size w wr) (fun i _ _ => n - (intOf i).toNat)
    case atStart => exact ⟨0, 0, Nat.zero_le _, rfl, rfl, Nat.zero_le _, by rw [Doc.drop_zero']; rfl, hb1⟩
    case round =>
      obtain ⟨k, m, hk, rfl, rfl, hm, hx, hbw⟩ := hrel
      clear H1 hb1
      by_cases hgo : k < n ∧ (m : Int) < W
      · obtain ⟨hlt, hmw⟩ := hgo
        rw [Doc.cut_step (by rw [← HNL.out]; exact hlt) hmw] at hx
        obtain ⟨b, off, rfl, _⟩ := (HKA.out wr hbw).base (by omega)
        have hone := fun wX hX => Doc.At.one k (HKA.out wX hX) hlt
        have hb1 : ((a.drop k).take 1).letters + 2 * ((a.drop k).take 1).nodes ≤ 1099511627776 := Nat.le_trans (Doc.size_take _ _) (Nat.le_trans (Doc.letters_drop _ _) hbig)
        obtain ⟨z, hz⟩ : ∃ z : ByteArray, z = ⟨(((a.drop k).take 1).plain true).toArray⟩ := ⟨_, rfl⟩
        obtain ⟨q, hq⟩ : ∃ q, (a.drop k).headWords = q := ⟨_, rfl⟩
        have hq' : words z.data.toList false = q := by rw [hz, ← hq]; rfl
        rw [hq] at hx
        have hzs : z.size ≤ 2199023255552 := by
          rw [hz]
          show (((a.drop k).take 1).plain true).toArray.size ≤ _
          have := Doc.plain_len ((a.drop k).take 1) true
          simp; omega
        have hql : q ≤ 2199023255552 := by
          rw [← hq']
          refine Nat.le_trans (words_len _ _) ?_
          simpa using hzs
        have h2 : ∀ cc, Calls Try.prog 34 #[.slice (some ⟨b, off + k * 6, none⟩) 1 cc] wr fun e w' => e = .returned (.string z) ∧ Below wr.heap.size wr w' := fun cc => by
          rw [hz]; exact plain_any _ _ 1 cc wr hb1 (hone wr hbw)
        have h3 : ∀ wX, Calls Try.prog 35 #[.string z] wX fun e w' => e = .returned (.int .i64 q) ∧ wX = w' := fun wX => by
          have h := countWords_any z wX (by omega)
          rw [hq'] at h
          exact h
        have H2 := Lib.hid h2
        have H3 := Lib.hid h3
        have HX := Lib.hid hx
        clear h2 h3 hx hz hq hq' hone hb1
        go_wp2_with fail
        refine (H2.out _).mono ?_
        rintro e w2 ⟨rfl, hb2⟩
        go_wp2_with fail
        refine (H3.out w2).mono ?_
        rintro e w3 ⟨rfl, rfl⟩
        go_wp2_with fail
        go_roundw
        case rel => exact ⟨k + 1, m + q, by omega, by go_num, by go_num, by omega, by rw [HX.out]; omega, hbw.trans (hb2.mono hbw.size)⟩
        case measure => simp [intOf]; omega
      · have hfin : a.cut W 0 = k := by
          by_cases hlt : k < n
          · rw [hx, Doc.cut_stop (fun h => hgo ⟨hlt, h⟩)]; omega
          · obtain rfl : k = n := by omega
            have hd : a.drop k = .nil := by rw [HNL.out, Doc.drop_len']
            rw [hx, hd]; simp [Doc.cut]
        have hcall : ∀ cc, Calls Try.prog 39 #[.slice A k cc] wr (ClonePost (a.take k) k wr) := fun cc =>
          clone_any (a.take k).nodes _ A k cc wr (Nat.le_refl _) (by have := Doc.nodes_take k a; omega) (Doc.At.take k (HKA.out wr hbw) hk)
        have HC := Lib.hid hcall
        have HF := Lib.hid hfin
        clear hx hfin hcall
        by_cases hlt : k < n
        · have hmw : ¬ (m : Int) < W := fun h => hgo ⟨hlt, h⟩
          clear hgo
          go_wp2_with fail
          refine (HC.out _).mono ?_
          rintro e w2 ⟨A2, c2, rfl, hc2, hm2, hat2, hb2⟩
          have hat3 := hat2.at_ (B := w2.heap.size) (fun q hq => hq.2)
          have HAT := Lib.hid hat3
          clear hat2 hat3
          go_wp2_with fail
          go_ret3
          refine .inr ⟨HE.out, A2, c2, ?_⟩
          rw [HF.out]
          exact ⟨by rw [decide_eq_true hlt]; rfl, hc2, hm2, HAT.out, hbw.trans (hb2.mono hbw.size)⟩
        · obtain rfl : k = n := by omega
          clear hgo hlt
          go_wp2_with fail
          refine (HC.out _).mono ?_
          rintro e w2 ⟨A2, c2, rfl, hc2, hm2, hat2, hb2⟩
          have hat3 := hat2.at_ (B := w2.heap.size) (fun q hq => hq.2)
          have HAT := Lib.hid hat3
          clear hat2 hat3
          go_wp2_with fail
          go_ret3
          refine .inr ⟨HE.out, A2, c2, ?_⟩
          rw [HF.out]
          exact ⟨by rw [decide_eq_false (Nat.lt_irrefl _)]; rfl, hc2, hm2, HAT.out, hbw.trans (hb2.mono hbw.size)⟩
  · have he : sumErr d W = d := by unfold sumErr; rw [if_pos h0]
    have HE := Lib.hid he; clear he
    clear ha
    go_enter Try.func22, Try.ntmps22
    go_wp2_with fail
    refine H1.out.mono ?_
    rintro e w1 ⟨rfl, hb1⟩
    go_wp2_with fail
    go_ret3
    exact .inl ⟨by rw [HE.out]; exact h0, by rw [HE.out]; rfl, hb1⟩
end Go.Proofs.Ytmaahkonjpcgiaa
