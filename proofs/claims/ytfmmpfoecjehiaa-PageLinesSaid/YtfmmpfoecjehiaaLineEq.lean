/- DERIVED. The two ways to read a line of a shortcode agree. No condition. -/
import Derived.Test.YtfmmpfoecjehiaaLinePlain
namespace Go.Proofs.Ytfmmpfoecjehiaa
theorem c34 {c : UInt8} (h : plC c = true) : c.toNat ≠ 34 ∧ c.toNat ≠ 32 ∧ c.toNat ≠ 61 := by
  simp only [plC, smC, bgC, dgC, Bool.or_eq_true, Bool.and_eq_true, decide_eq_true_eq] at h
  omega
theorem w61 {c : UInt8} (h : wdC c = true) : c.toNat ≠ 34 ∧ c.toNat ≠ 32 ∧ c.toNat ≠ 61 := by
  simp only [wdC, smC, dgC, Bool.or_eq_true, Bool.and_eq_true, decide_eq_true_eq] at h
  omega
theorem n32 {c : UInt8} (h : nmC c = true) : c.toNat ≠ 34 ∧ c.toNat ≠ 32 := by
  simp only [nmC, smC, dgC, Bool.or_eq_true, Bool.and_eq_true, decide_eq_true_eq] at h
  omega
theorem sm34 {c : UInt8} (h : smC c = true) : c.toNat ≠ 34 := by
  simp only [smC, Bool.and_eq_true, decide_eq_true_eq] at h
  omega
theorem lead_zero (p : UInt8 → Bool) {l : L8} (h : ∀ c r, l = c :: r → p c = false) : lead p l = 0 := by
  cases l with
  | nil => rfl
  | cons c r => simp [lead, h c r rfl]
/-- What begins with a space. -/
def Sp (l : L8) : Prop := ∃ c r, l = c :: r ∧ c.toNat = 32
theorem sp_lead (p : UInt8 → Bool) (h : ∀ c, p c = true → c.toNat ≠ 32) {l : L8} (hl : Sp l) : lead p l = 0 := by
  obtain ⟨c, r, rfl, hc⟩ := hl
  refine lead_zero p (fun c' r' e => ?_)
  cases e
  cases hp : p c with
  | false => rfl
  | true => exact absurd hc (h c hp)
/-! ### Quoted values -/
theorem qd_of_vw : ∀ (r v rest : L8), vw r = some v → qd (r ++ rest) = some (v, rest)
  | [], v, rest, h => by simp [vw] at h
  | [c], v, rest, h => by
    unfold vw at h
    split at h
    · rename_i hc
      injection h with h
      subst h
      cases rest with
      | nil => simp [qd, hc]
      | cons d t =>
        show qd (c :: d :: t) = _
        unfold qd
        rw [if_neg (by omega), if_pos hc]
    · cases h
  | c :: d :: r, v, rest, h => by
    unfold vw at h
    show qd (c :: d :: (r ++ rest)) = _
    unfold qd
    by_cases h1 : c.toNat < 32 ∨ c.toNat = 34
    · rw [if_pos h1] at h; cases h
    · rw [if_neg h1] at h
      rw [if_neg (by omega), if_neg (by omega)]
      by_cases h2 : c.toNat = 92
      · rw [if_pos h2] at h ⊢
        by_cases h3 : (d.toNat = 34 ∨ d.toNat = 92) ∧ r ≠ []
        · rw [if_pos h3] at h
          rw [if_pos h3.1]
          cases hv : vw r with
          | none => rw [hv] at h; cases h
          | some v' =>
            rw [hv] at h
            injection h with h
            subst h
            rw [qd_of_vw r v' rest hv]
            rfl
        · rw [if_neg h3] at h; cases h
      · rw [if_neg h2] at h ⊢
        cases hv : vw (d :: r) with
        | none => rw [hv] at h; cases h
        | some v' =>
          rw [hv] at h
          injection h with h
          subst h
          have := qd_of_vw (d :: r) v' rest hv
          rw [List.cons_append] at this
          rw [this]
          rfl
theorem vw_ne {r v : L8} (h : vw r = some v) : r ≠ [] := by
  rintro rfl
  simp [vw] at h
theorem vw_of_qd : ∀ (x v rest : L8), qd x = some (v, rest) → ∃ r, x = r ++ rest ∧ vw r = some v
  | [], v, rest, h => by simp [qd] at h
  | [c], v, rest, h => by
    unfold qd at h
    split at h
    · rename_i hc
      injection h with h
      injection h with h1 h2
      subst h1 h2
      exact ⟨[c], rfl, by simp [vw, hc]⟩
    · cases h
  | c :: d :: r, v, rest, h => by
    unfold qd at h
    by_cases h1 : c.toNat < 32
    · rw [if_pos h1] at h; cases h
    · rw [if_neg h1] at h
      by_cases h2 : c.toNat = 34
      · rw [if_pos h2] at h
        injection h with h
        injection h with h3 h4
        subst h3 h4
        exact ⟨[c], rfl, by simp [vw, h2]⟩
      · rw [if_neg h2] at h
        by_cases h3 : c.toNat = 92
        · rw [if_pos h3] at h
          by_cases h4 : d.toNat = 34 ∨ d.toNat = 92
          · rw [if_pos h4] at h
            cases hq : qd r with
            | none => rw [hq] at h; cases h
            | some x =>
              rw [hq] at h
              injection h with h
              injection h with h5 h6
              obtain ⟨x1, x2⟩ := x
              simp only at h5 h6
              subst h5 h6
              obtain ⟨r', he, hv⟩ := vw_of_qd r x1 x2 hq
              refine ⟨c :: d :: r', by rw [he]; rfl, ?_⟩
              unfold vw
              rw [if_neg (by omega), if_pos h3, if_pos ⟨h4, vw_ne hv⟩, hv]
              rfl
          · rw [if_neg h4] at h; cases h
        · rw [if_neg h3] at h
          cases hq : qd (d :: r) with
          | none => rw [hq] at h; cases h
          | some x =>
            rw [hq] at h
            injection h with h
            injection h with h5 h6
            obtain ⟨x1, x2⟩ := x
            simp only at h5 h6
            subst h5 h6
            obtain ⟨r', he, hv⟩ := vw_of_qd (d :: r) x1 x2 hq
            have hne := vw_ne hv
            cases r' with
            | nil => exact absurd rfl hne
            | cons d' r'' =>
              refine ⟨c :: d' :: r'', by rw [he]; rfl, ?_⟩
              unfold vw
              rw [if_neg (by omega), if_neg h3, hv]
              rfl
/-! ### Values -/
theorem bare_parts {p : L8} (h : bareB p = true) : ∃ c r, p = c :: r ∧ (∀ x ∈ p, plC x = true) ∧ c.toNat ≠ 58 := by
  unfold bareB at h
  simp only [Bool.and_eq_true, decide_eq_true_eq, List.all_eq_true] at h
  obtain ⟨⟨h1, h2⟩, h3⟩ := h
  cases p with
  | nil => exact absurd rfl h1
  | cons c r =>
    refine ⟨c, r, rfl, h2, ?_⟩
    simpa using h3
theorem rvO_of_vOf {p v rest : L8} (h : vOf p = some v) (hs : Sp rest) : rvO (p ++ rest) = some (v, rest) := by
  unfold vOf at h
  by_cases hb : bareB p = true
  · rw [if_pos hb] at h
    injection h with h
    subst h
    obtain ⟨c, r, rfl, hall, h58⟩ := bare_parts hb
    have hl : lead plC (c :: r ++ rest) = (c :: r).length := by
      rw [lead_app plC _ _ hall, sp_lead plC (fun c h => (c34 h).2.1) hs]
      rfl
    have hc := c34 (hall c List.mem_cons_self)
    have hrv : rv (c :: r ++ rest) = (c :: r, rest, true) := by
      show rv (c :: (r ++ rest)) = _
      unfold rv
      simp only
      rw [if_neg hc.1]
      rw [show c :: (r ++ rest) = c :: r ++ rest from rfl, hl]
      rw [List.take_left, List.drop_left]
      simp [h58]
    unfold rvO
    rw [hrv]
    rfl
  · rw [if_neg hb] at h
    cases p with
    | nil => cases h
    | cons c r =>
      simp only at h
      by_cases hc : c.toNat = 34
      · rw [if_pos hc] at h
        have hq := qd_of_vw r v rest h
        have hrv : rv (c :: r ++ rest) = (v, rest, true) := by
          show rv (c :: (r ++ rest)) = _
          unfold rv
          simp only
          rw [if_pos hc, hq]
        unfold rvO
        rw [hrv]
        rfl
      · rw [if_neg hc] at h; cases h
theorem vOf_of_rvO {x v rest : L8} (h : rvO x = some (v, rest)) : ∃ p, x = p ++ rest ∧ vOf p = some v := by
  unfold rvO at h
  cases x with
  | nil => simp [rv] at h
  | cons c r =>
    by_cases hc : c.toNat = 34
    · have hrv : rv (c :: r) = match qd r with | some x => (x.1, x.2, true) | none => ([], [], false) := by unfold rv; simp only; rw [if_pos hc]; rfl
      rw [hrv] at h
      cases hq : qd r with
      | none => rw [hq] at h; simp at h
      | some y =>
        rw [hq] at h
        simp only [if_true] at h
        injection h with h
        injection h with h1 h2
        subst h1 h2
        obtain ⟨p, he, hv⟩ := vw_of_qd r y.1 y.2 hq
        refine ⟨c :: p, by rw [he]; rfl, ?_⟩
        unfold vOf
        have hb : ¬ bareB (c :: p) = true := fun hb => by
          obtain ⟨c', r', e, hall, _⟩ := bare_parts hb
          exact (c34 (hall c List.mem_cons_self)).1 hc
        rw [if_neg hb]
        simp only
        rw [if_pos hc]
        exact hv
    · have hrv : rv (c :: r) = ((c :: r).take (lead plC (c :: r)), (c :: r).drop (lead plC (c :: r)), decide (0 < lead plC (c :: r)) && !decide (c.toNat = 58)) := by unfold rv; simp only; rw [if_neg hc]
      rw [hrv] at h
      simp only at h
      split at h
      · rename_i h3
        simp only [Bool.and_eq_true, decide_eq_true_eq, Bool.not_eq_true', decide_eq_false_iff_not] at h3
        injection h with h
        injection h with h1 h2
        subst h1 h2
        refine ⟨(c :: r).take (lead plC (c :: r)), (List.take_append_drop _ _).symm, ?_⟩
        have hb : bareB ((c :: r).take (lead plC (c :: r))) = true := by
          unfold bareB
          obtain ⟨m, hm⟩ : ∃ m, lead plC (c :: r) = m + 1 := ⟨lead plC (c :: r) - 1, by omega⟩
          have hall : ((c :: r).take (lead plC (c :: r))).all plC = true := List.all_eq_true.2 (lead_take plC (c :: r))
          rw [hall, hm]
          simp [h3.2]
        unfold vOf
        rw [if_pos hb]
      · cases h
/-! ### Arguments -/
theorem idxE_app {a b : L8} (h : ∀ x ∈ a, x.toNat ≠ 61) : idxE (a ++ 61 :: b) = a.length := by
  unfold idxE
  rw [lead_app _ _ _ (fun x hx => by simpa using h x hx)]
  simp [lead]
theorem argW_ne {p n v : L8} (h : argW p = some (n, v)) : p ≠ [] := by
  rintro rfl
  simp [argW, vOf, bareB] at h
theorem vOf_no_name {p v : L8} (h : vOf p = some v) : ¬ (idxE p < p.length ∧ argNm (p.take (idxE p)) = true) := by
  rintro ⟨h1, h2⟩
  have hx : p[idxE p]? = some p[idxE p] := List.getElem?_eq_getElem h1
  have h61 : (p[idxE p]).toNat = 61 := by
    have := lead_stop _ p _ hx
    simpa using this
  unfold vOf at h
  by_cases hb : bareB p = true
  · obtain ⟨c, r, e, hall, _⟩ := bare_parts hb
    exact (c34 (hall _ (List.getElem_mem h1))).2.2 h61
  · rw [if_neg hb] at h
    cases p with
    | nil => cases h
    | cons c r =>
      simp only at h
      by_cases hc : c.toNat = 34
      · unfold argNm at h2
        obtain ⟨m, hm⟩ : ∃ m, idxE (c :: r) = m + 1 := ⟨idxE (c :: r) - 1, by
          have : idxE (c :: r) ≠ 0 := fun h0 => by rw [h0] at h2; simp at h2
          omega⟩
        rw [hm] at h2
        simp only [List.take_succ_cons, List.getElem?_cons_zero, Bool.and_eq_true] at h2
        exact sm34 h2.1.2 hc
      · rw [if_neg hc] at h; cases h
theorem ra_of_argW {p n v rest : L8} (h : argW p = some (n, v)) (hs : Sp rest) (c : UInt8) (hc : c.toNat = 32) : ra (c :: (p ++ rest)) = some (n, v, rest) := by
  unfold argW at h
  have hw : ∀ c, wdC c = true → c.toNat ≠ 32 := fun c h => (w61 h).2.1
  by_cases hn : idxE p < p.length ∧ argNm (p.take (idxE p)) = true
  · rw [if_pos hn] at h
    obtain ⟨h1, h2⟩ := hn
    cases hv : vOf (p.drop (idxE p + 1)) with
    | none => rw [hv] at h; cases h
    | some v' =>
      rw [hv] at h
      injection h with h
      injection h with h3 h4
      have hx : p[idxE p]? = some p[idxE p] := List.getElem?_eq_getElem h1
      have h61 : p[idxE p] = 61 := by
        have := lead_stop _ p _ hx
        have h : (p[idxE p]).toNat = 61 := by simpa using this
        exact UInt8.toNat_inj.1 h
      have hp : p = p.take (idxE p) ++ 61 :: p.drop (idxE p + 1) := by
        rw [← h61, ← List.drop_eq_getElem_cons h1]
        exact (List.take_append_drop _ _).symm
      rw [h3] at hp h2
      subst h4
      generalize p.drop (idxE p + 1) = q at hp hv
      unfold argNm at h2
      simp only [Bool.and_eq_true, decide_eq_true_eq, List.all_eq_true] at h2
      obtain ⟨⟨⟨h5, h6⟩, h7⟩, h8⟩ := h2
      subst hp
      have hl : lead wdC ((n ++ 61 :: q) ++ rest) = n.length := by
        rw [List.append_assoc, lead_app wdC n _ h8]
        rw [lead_zero wdC (l := 61 :: q ++ rest) (fun c r e => by cases e; decide)]
        omega
      have hnm : named ((n ++ 61 :: q) ++ rest) = true := by
        unfold named
        rw [hl]
        have g0 : ((n ++ 61 :: q) ++ rest)[0]? = n[0]? := by
          rw [List.append_assoc, List.getElem?_append_left h5]
        have g1 : ((n ++ 61 :: q) ++ rest)[n.length]? = some 61 := by
          rw [List.append_assoc, List.getElem?_append_right (Nat.le_refl _)]
          simp
        rw [g0, g1, h7, decide_eq_true h5, decide_eq_true h6]
        simp
      have hd : ((n ++ 61 :: q) ++ rest).drop (n.length + 1) = q ++ rest := by
        rw [show (n ++ 61 :: q) ++ rest = (n ++ [61]) ++ (q ++ rest) by simp]
        rw [List.drop_append_of_le_length (by simp)]
        simp
      have ht : ((n ++ 61 :: q) ++ rest).take n.length = n := by rw [List.append_assoc, List.take_left]
      unfold ra
      simp only
      rw [if_pos hc, if_pos hnm, hl, hd, rvO_of_vOf hv hs, ht]
      rfl
  · rw [if_neg hn] at h
    cases hv : vOf p with
    | none => rw [hv] at h; cases h
    | some v' =>
      rw [hv] at h
      injection h with h
      injection h with h3 h4
      subst h3 h4
      have hnm : ¬ named (p ++ rest) = true := fun hnm => by
        unfold named at hnm
        simp only [Bool.and_eq_true, decide_eq_true_eq] at hnm
        obtain ⟨⟨⟨h5, h6⟩, h7⟩, h8⟩ := hnm
        have hall := lead_take wdC (p ++ rest)
        by_cases hk : lead wdC (p ++ rest) < p.length
        · rw [List.getElem?_append_left hk] at h8
          obtain ⟨_, he⟩ := List.getElem?_eq_some_iff.1 h8
          have ht : (p ++ rest).take (lead wdC (p ++ rest)) = p.take (lead wdC (p ++ rest)) := List.take_append_of_le_length (by omega)
          rw [ht] at hall
          rw [List.getElem?_append_left (by omega)] at h7
          generalize lead wdC (p ++ rest) = k at *
          have hp : p = p.take k ++ 61 :: p.drop (k + 1) := by
            have := List.drop_eq_getElem_cons hk
            rw [he] at this
            rw [← this]
            exact (List.take_append_drop _ _).symm
          have hid : idxE p = k := by
            rw [hp, idxE_app (fun x hx => (w61 (hall x hx)).2.2)]
            rw [List.length_take]
            omega
          refine hn ⟨by omega, ?_⟩
          rw [hid]
          unfold argNm
          rw [List.length_take, Nat.min_eq_left (by omega), decide_eq_true h5, decide_eq_true h6, List.all_eq_true.2 hall]
          have g0 : (p.take k)[0]? = p[0]? := by rw [List.getElem?_take]; simp; omega
          rw [g0, h7]
          rfl
        · obtain ⟨c', r', rfl, hc'⟩ := hs
          by_cases hk2 : lead wdC (p ++ c' :: r') = p.length
          · rw [hk2, List.getElem?_append_right (Nat.le_refl _)] at h8
            simp at h8
            rw [h8] at hc'
            exact absurd hc' (by decide)
          · have hm : c' ∈ (p ++ c' :: r').take (lead wdC (p ++ c' :: r')) := by
              obtain ⟨m, hm⟩ : ∃ m, lead wdC (p ++ c' :: r') = p.length + (m + 1) := ⟨lead wdC (p ++ c' :: r') - p.length - 1, by omega⟩
              rw [hm, List.take_length_add_append]
              simp
            exact hw c' (hall c' hm) hc'
      unfold ra
      simp only
      rw [if_pos hc, if_neg hnm, rvO_of_vOf hv hs]
      rfl
theorem argW_of_ra {x n v rest : L8} (h : ra x = some (n, v, rest)) : ∃ c p, x = c :: (p ++ rest) ∧ c.toNat = 32 ∧ argW p = some (n, v) := by
  unfold ra at h
  cases x with
  | nil => cases h
  | cons c r =>
    simp only at h
    by_cases hc : c.toNat = 32
    · rw [if_pos hc] at h
      by_cases hnm : named r = true
      · rw [if_pos hnm] at h
        cases hv : rvO (r.drop (lead wdC r + 1)) with
        | none => rw [hv] at h; cases h
        | some y =>
          rw [hv] at h
          obtain ⟨y1, y2⟩ := y
          injection h with h
          injection h with h1 h2
          injection h2 with h2 h3
          simp only at h1 h2 h3
          subst h2 h3
          obtain ⟨q, hq, hvq⟩ := vOf_of_rvO hv
          unfold named at hnm
          simp only [Bool.and_eq_true, decide_eq_true_eq] at hnm
          obtain ⟨⟨⟨h5, h6⟩, h7⟩, h8⟩ := hnm
          obtain ⟨hk, he⟩ := List.getElem?_eq_some_iff.1 h8
          have hall := lead_take wdC r
          generalize lead wdC r = k at *
          have hr : r = n ++ 61 :: (q ++ y2) := by
            have := List.drop_eq_getElem_cons hk
            rw [he, hq] at this
            rw [← h1, ← this]
            exact (List.take_append_drop _ _).symm
          have hln : n.length = k := by rw [← h1, List.length_take]; omega
          rw [h1] at hall
          refine ⟨c, n ++ 61 :: q, by rw [hr]; simp, hc, ?_⟩
          have hid : idxE (n ++ 61 :: q) = n.length := idxE_app (fun x hx => (w61 (hall x hx)).2.2)
          unfold argW
          rw [hid, List.take_left]
          have hnA : argNm n = true := by
            unfold argNm
            rw [List.all_eq_true.2 hall, hln, decide_eq_true h5, decide_eq_true h6]
            have g0 : n[0]? = r[0]? := by rw [← h1, List.getElem?_take]; simp; omega
            rw [g0, h7]
            rfl
          rw [if_pos ⟨by simp, hnA⟩]
          have hd : (n ++ 61 :: q).drop (n.length + 1) = q := by
            rw [show n ++ 61 :: q = (n ++ [61]) ++ q by simp]
            rw [List.drop_append_of_le_length (by simp)]
            simp
          rw [hd, hvq]
          rfl
      · rw [if_neg hnm] at h
        cases hv : rvO r with
        | none => rw [hv] at h; cases h
        | some y =>
          rw [hv] at h
          obtain ⟨y1, y2⟩ := y
          injection h with h
          injection h with h1 h2
          injection h2 with h2 h3
          simp only at h1 h2 h3
          subst h1 h2 h3
          obtain ⟨p, hp, hvp⟩ := vOf_of_rvO hv
          refine ⟨c, p, by rw [hp], hc, ?_⟩
          unfold argW
          rw [if_neg (vOf_no_name hvp), hvp]
          rfl
    · rw [if_neg hc] at h; cases h
end Go.Proofs.Ytfmmpfoecjehiaa
