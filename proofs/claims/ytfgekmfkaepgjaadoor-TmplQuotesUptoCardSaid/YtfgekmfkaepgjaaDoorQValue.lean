/- DERIVED. What the writer's value method leaves in it: the value's constant. Condition: there is room for it. -/
import Derived.Test.YtfgekmfkaepgjaaDoorQVal
namespace Go.Proofs.YtfgekmfkaepgjaaDoor
set_option linter.unusedVariables false
open Go.RowKit
theorem vT_nil (bo : Bool) (i : Int) (t : ByteArray) (items : Vals) (keys : List ByteArray) : vT 0 bo i t items keys = [110, 117, 108, 108] := by unfold vT; simp
theorem vT_5 (bo : Bool) (i : Int) (t : ByteArray) (items : Vals) (keys : List ByteArray) : vT 5 bo i t items keys = 91 :: (items.qt false keys 0 ++ [93]) := by unfold vT; simp
theorem vT_6 (bo : Bool) (i : Int) (t : ByteArray) (items : Vals) (keys : List ByteArray) : vT 6 bo i t items keys = 123 :: (items.qt true keys 0 ++ [125]) := by unfold vT; simp
theorem vT_12 (k : Int) (bo : Bool) (i : Int) (t : ByteArray) (items : Vals) (keys : List ByteArray) (h : k = 1 ∨ k = 2) : vT k bo i t items keys = (shS k bo i t).data.toList := by
  unfold vT
  rcases h with rfl | rfl <;> simp
theorem vT_else (k : Int) (bo : Bool) (i : Int) (t : ByteArray) (items : Vals) (keys : List ByteArray) (h0 : k ≠ 0) (h1 : k ≠ 1) (h2 : k ≠ 2) (h5 : k ≠ 5) (h6 : k ≠ 6) : vT k bo i t items keys = qS (shS k bo i t).data.toList := by
  unfold vT
  simp [h0, h1, h2, h5, h6]

set_option maxRecDepth 100000 in
set_option maxHeartbeats 4000000 in
theorem qvalue_gen (B b : Nat) (k : Int) (bo : Bool) (i : Int) (t : ByteArray) (items : Vals) (keys : List ByteArray)
    (hc : ∀ (j : Nat) (k : Int) (bo : Bool) (i : Int) (t : ByteArray) (it : Vals) (ks : List ByteArray) (rest : Vals), items.drop j = .cons k bo i t it ks rest → QVal B b k bo i t it ks) : QVal B b k bo i t items keys := by
  intro A1 n1 c1 A2 n2 c2 l v w hq hv hpt hBw hlen
  obtain ⟨i0, hi, hz0, hz1, hz2⟩ := info_parts u8Info
  have hss := shS_size k bo i t (i64_wf hv.iwf).1 (i64_wf hv.iwf).2
  have hi9 := i64_wf hv.iwf
  have hbw := hq.lt
  unfold vM at hlen
  obtain ⟨ao, cp, rfl⟩ := slice_own hq.row
  obtain ⟨W1, hW⟩ : ∃ W1, w.alloc (.cells #[.int .i64 k, .bool bo, .int .i64 i, .string t, .slice A1 n1 c1, .slice A2 n2 c2] 25) = W1 := ⟨_, rfl⟩
  have hgb : W1.heap[w.heap.size]? = some (.cells #[.int .i64 k, .bool bo, .int .i64 i, .string t, .slice A1 n1 c1, .slice A2 n2 c2] 25 (0, 0)) := by
    rw [← hW]
    show (w.heap.push _)[w.heap.size]? = _
    exact Array.getElem?_push_size
  obtain ⟨y0, y1, y2, y3, y4, y5⟩ := six hgb
  have F0 : Fr B b w W1 := hW ▸ Fr.alloc _ hBw
  have q0 : QAt B b l (.slice ao l.length cp) W1 := hW ▸ hq.alloc _
  have hB1 := Nat.le_trans hBw F0.bel.size
  have HF0 := Lib.hid F0
  have d0 := q0.cell
  have f0 := q0.frozen
  have HQ := Lib.hid q0
  have HC := Lib.hid hc
  have HV1 := Lib.hid (hv.below F0.bel)
  have HPT := Lib.hid (hpt.fr F0)
  have HLEN := Lib.hid hlen
  have HSS := Lib.hid hss
  have HGB := Lib.hid hgb
  clear hgb F0 q0 hq hc hv hpt hlen hss
  by_cases h0 : k = 0
  · subst h0
    have HT := Lib.hid (vT_nil bo i t items keys)
    clear hi9
    go_enter Tryd.func27, Tryd.ntmps27
    go_wp2_with (at_builtin; refine Lib.wpList_append_own_string _ rfl _ _ 45 9 rfl B 5 i0 Tryd.underlying45 Tryd.underlying9 hi hz0 hz1 hz2 _ _ _ rfl HQ.out.row ⟨#[110, 117, 108, 108]⟩ rfl ?s1 ?s2 ?s3 ?_)
    case s1 => have := HLEN.out; show l.length + 4 ≤ _; unfold maxLen; omega
    case s2 => have := HLEN.out; show l.length + 4 ≤ _; omega
    case s3 => exact hB1
    intro v5 w5 hown5 hgrow5 _
    obtain ⟨ao5, cp5, rfl⟩ := slice_own hown5
    have st5 := QAt.step (xs := [110, 117, 108, 108]) HQ.out hown5 (by rfl) hgrow5
    clear hown5 hgrow5
    obtain ⟨d5, f5, q5, r5⟩ := st5
    have Q5 := Lib.hid q5; clear q5
    have R5 := Lib.hid r5; clear r5
    go_wp2_with fail
    go_end0
    exact ⟨rfl, ⟨_, Q5.out.of (by rw [HT.out])⟩, HF0.out.trans R5.out⟩
  by_cases h5 : k = 5
  · subst h5
    have HT := Lib.hid (vT_5 bo i t items keys)
    clear hi9
    go_enter Tryd.func27, Tryd.ntmps27
    go_wp2_with (go_at_call 35; refine (qitems5_gen B b l _ bo i t A1 n1 c1 A2 n2 c2 items keys _ HQ.out HV1.out HPT.out hB1 (by have := HLEN.out; omega) HC.out).mono ?_)
    rintro e w9 ⟨rfl, ⟨v9, q9⟩, r9⟩
    have Q9 := Lib.hid q9; clear q9
    go_wp2_with fail
    go_end0
    exact ⟨rfl, ⟨_, Q9.out.of (by rw [HT.out])⟩, HF0.out.trans r9⟩
  by_cases h6 : k = 6
  · subst h6
    have HT := Lib.hid (vT_6 bo i t items keys)
    clear hi9
    go_enter Tryd.func27, Tryd.ntmps27
    go_wp2_with (go_at_call 35; refine (qitems6_gen B b l _ bo i t A1 n1 c1 A2 n2 c2 items keys _ HQ.out HV1.out HPT.out hB1 (by have := HLEN.out; omega) HC.out).mono ?_)
    rintro e w9 ⟨rfl, ⟨v9, q9⟩, r9⟩
    have Q9 := Lib.hid q9; clear q9
    go_wp2_with fail
    go_end0
    exact ⟨rfl, ⟨_, Q9.out.of (by rw [HT.out])⟩, HF0.out.trans r9⟩
  have hcall := show_any ⟨k, bo, i, t, A1, n1, c1, A2, n2, c2⟩ _ _ W1 hi9 (shIs_top _) HPT.out.self
  simp only [Top.val] at hcall
  have HCL := Lib.hid hcall; clear hcall hi9
  by_cases h12 : k = 1 ∨ k = 2
  · have HT := Lib.hid (vT_12 k bo i t items keys h12)
    generalize shS k bo i t = s at *
    rcases h12 with rfl | rfl
    all_goals
      go_enter Tryd.func27, Tryd.ntmps27
      go_wp2_with fail
      refine HCL.out.mono ?_
      rintro e w2 ⟨rfl, hb2⟩
      have q2 := HQ.out.below hb2
      have r2 := Fr.of_below (b := b) hb2 hB1
      have d2 := q2.cell
      have Q2 := Lib.hid q2; clear q2
      have R2 := Lib.hid r2; clear r2
      have hB2 := Nat.le_trans hB1 hb2.size
      clear d0 f0 y0 y1 y2 y3 y4 y5 hb2
      go_wp2_with (at_builtin; refine Lib.wpList_append_own_string _ rfl _ _ 45 9 rfl B 5 i0 Tryd.underlying45 Tryd.underlying9 hi hz0 hz1 hz2 _ _ _ rfl Q2.out.row s rfl ?s1 ?s2 ?s3 ?_)
      case s1 => have := HLEN.out; have := HSS.out; unfold maxLen; omega
      case s2 => have := HLEN.out; have := HSS.out; omega
      case s3 => exact hB2
      intro v5 w5 hown5 hgrow5 _
      obtain ⟨ao5, cp5, rfl⟩ := slice_own hown5
      have st5 := QAt.step (xs := s.data.toList) Q2.out hown5 (by rw [Array.length_toList]; rfl) hgrow5
      clear hown5 hgrow5
      obtain ⟨d5, f5, q5, r5⟩ := st5
      have Q5 := Lib.hid q5; clear q5
      have R5 := Lib.hid r5; clear r5
      go_wp2_with fail
      go_end0
      exact ⟨rfl, ⟨_, Q5.out.of (by rw [HT.out])⟩, HF0.out.trans (R2.out.trans R5.out)⟩
  · have h1 : k ≠ 1 := fun e => h12 (.inl e)
    have h2 : k ≠ 2 := fun e => h12 (.inr e)
    have HT := Lib.hid (vT_else k bo i t items keys h0 h1 h2 h5 h6)
    generalize shS k bo i t = s at *
    clear h12
    go_enter Tryd.func27, Tryd.ntmps27
    go_wp2_with fail
    refine HCL.out.mono ?_
    rintro e w2 ⟨rfl, hb2⟩
    have q2 := HQ.out.below hb2
    have r2 := Fr.of_below (b := b) hb2 hB1
    have Q2 := Lib.hid q2; clear q2
    have R2 := Lib.hid r2; clear r2
    have hB2 := Nat.le_trans hB1 hb2.size
    clear d0 f0 y0 y1 y2 y3 y4 y5 hb2
    go_wp2_with (go_at_call 36; refine (qtext_any B b _ _ s _ Q2.out ?klen hB2).mono ?_)
    case klen => have := HLEN.out; have := HSS.out; omega
    rintro e w9 ⟨rfl, ⟨v9, q9⟩, r9⟩
    have Q9 := Lib.hid q9; clear q9
    go_wp2_with fail
    go_end0
    exact ⟨rfl, ⟨_, Q9.out.of (by rw [HT.out])⟩, HF0.out.trans (R2.out.trans r9)⟩
theorem qvalue_any (B b N : Nat) : ∀ (k : Int) (bo : Bool) (i : Int) (t : ByteArray) (items : Vals) (keys : List ByteArray), items.nodes ≤ N → QVal B b k bo i t items keys := by
  induction N with
  | zero =>
    intro k bo i t items keys hN
    refine qvalue_gen B b k bo i t items keys fun j k' bo' i' t' it ks r he => ?_
    have h1 := Vals.nodes_drop j items
    rw [he] at h1
    simp only [Vals.nodes] at h1
    omega
  | succ N ih =>
    intro k bo i t items keys hN
    refine qvalue_gen B b k bo i t items keys fun j k' bo' i' t' it ks r he => ?_
    have h1 := Vals.nodes_drop j items
    rw [he] at h1
    simp only [Vals.nodes] at h1
    exact ih k' bo' i' t' it ks (by omega)
end Go.Proofs.YtfgekmfkaepgjaaDoor
