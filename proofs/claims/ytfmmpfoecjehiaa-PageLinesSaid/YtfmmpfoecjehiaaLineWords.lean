/- DERIVED. Words of a line and its arguments: what the one reading takes the other one takes. No condition. -/
import Derived.Test.YtfmmpfoecjehiaaLineEq
namespace Go.Proofs.Ytfmmpfoecjehiaa
theorem wds_nil (q : Bool) (cur : L8) : wds q cur [] = [cur.reverse] := by cases q <;> rfl
theorem wds_esc1 {cur : L8} {c : UInt8} (h : c.toNat = 92) : wds true cur [c] = [(c :: cur).reverse] := by
  conv => lhs; unfold wds
  rw [if_pos ⟨rfl, h⟩]
theorem wds_esc {cur : L8} {c d : UInt8} {r : L8} (h : c.toNat = 92) : wds true cur (c :: d :: r) = wds true (d :: c :: cur) r := by
  conv => lhs; unfold wds
  rw [if_pos ⟨rfl, h⟩]
theorem wds_quote {q : Bool} {cur : L8} {c : UInt8} {r : L8} (h : c.toNat = 34) : wds q cur (c :: r) = wds (!q) (c :: cur) r := by
  cases r with
  | nil =>
    conv => lhs; unfold wds
    rw [if_neg (by omega), if_pos h]
  | cons d t =>
    conv => lhs; unfold wds
    rw [if_neg (by omega), if_pos h]
theorem wds_cut {cur : L8} {c : UInt8} {r : L8} (h : c.toNat = 32) : wds false cur (c :: r) = cur.reverse :: wds false [] r := by
  cases r with
  | nil =>
    conv => lhs; unfold wds
    rw [if_neg (by simp), if_neg (by omega), if_pos ⟨h, rfl⟩]
  | cons d t =>
    conv => lhs; unfold wds
    rw [if_neg (by simp), if_neg (by omega), if_pos ⟨h, rfl⟩]
theorem wds_else {q : Bool} {cur : L8} {c : UInt8} {r : L8} (h0 : ¬ (q = true ∧ c.toNat = 92)) (h1 : ¬ c.toNat = 34) (h2 : ¬ (c.toNat = 32 ∧ q = false)) : wds q cur (c :: r) = wds q (c :: cur) r := by
  cases r with
  | nil =>
    conv => lhs; unfold wds
    rw [if_neg h0, if_neg h1, if_neg h2]
  | cons d t =>
    conv => lhs; unfold wds
    rw [if_neg h0, if_neg h1, if_neg h2]
theorem wds_out {cur : L8} {c : UInt8} {r : L8} (h : c.toNat ≠ 34) (h' : c.toNat ≠ 32) : wds false cur (c :: r) = wds false (c :: cur) r := wds_else (by simp) h (by omega)
theorem wds_in {cur : L8} {c : UInt8} {r : L8} (h : c.toNat ≠ 34) (h' : c.toNat ≠ 92) : wds true cur (c :: r) = wds true (c :: cur) r := wds_else (by omega) h (by simp)
theorem wds_ne : ∀ (l : L8) (q : Bool) (cur : L8), wds q cur l ≠ []
  | [], q, cur => by rw [wds_nil]; simp
  | [c], q, cur => by
    by_cases h0 : q = true ∧ c.toNat = 92
    · obtain ⟨rfl, h⟩ := h0; rw [wds_esc1 h]; simp
    · by_cases h1 : c.toNat = 34
      · rw [wds_quote h1]; exact wds_ne [] _ _
      · by_cases h2 : c.toNat = 32 ∧ q = false
        · obtain ⟨h, rfl⟩ := h2; rw [wds_cut h]; simp
        · rw [wds_else h0 h1 h2]; exact wds_ne [] _ _
  | c :: d :: r, q, cur => by
    by_cases h0 : q = true ∧ c.toNat = 92
    · obtain ⟨rfl, h⟩ := h0; rw [wds_esc h]; exact wds_ne r _ _
    · by_cases h1 : c.toNat = 34
      · rw [wds_quote h1]; exact wds_ne (d :: r) _ _
      · by_cases h2 : c.toNat = 32 ∧ q = false
        · obtain ⟨h, rfl⟩ := h2; rw [wds_cut h]; simp
        · rw [wds_else h0 h1 h2]; exact wds_ne (d :: r) _ _
theorem wds_pass : ∀ (a cur rest : L8), (∀ x ∈ a, x.toNat ≠ 34 ∧ x.toNat ≠ 32) → wds false cur (a ++ rest) = wds false (a.reverse ++ cur) rest
  | [], cur, rest, _ => rfl
  | c :: r, cur, rest, h => by
    have hc := h c List.mem_cons_self
    rw [List.cons_append, wds_out hc.1 hc.2, wds_pass r _ rest (fun x hx => h x (List.mem_cons_of_mem _ hx))]
    simp
theorem wds_vw : ∀ (r v cur rest : L8), vw r = some v → wds true cur (r ++ rest) = wds false (r.reverse ++ cur) rest
  | [], v, cur, rest, h => by simp [vw] at h
  | [c], v, cur, rest, h => by
    unfold vw at h
    split at h
    · rename_i hc
      show wds true cur (c :: rest) = _
      rw [wds_quote hc]
      rfl
    · cases h
  | c :: d :: r, v, cur, rest, h => by
    unfold vw at h
    by_cases h1 : c.toNat < 32 ∨ c.toNat = 34
    · rw [if_pos h1] at h; cases h
    · rw [if_neg h1] at h
      by_cases h2 : c.toNat = 92
      · rw [if_pos h2] at h
        by_cases h3 : (d.toNat = 34 ∨ d.toNat = 92) ∧ r ≠ []
        · rw [if_pos h3] at h
          cases hv : vw r with
          | none => rw [hv] at h; cases h
          | some v' =>
            show wds true cur (c :: d :: (r ++ rest)) = _
            rw [wds_esc h2, wds_vw r v' _ rest hv]
            simp
        · rw [if_neg h3] at h; cases h
      · rw [if_neg h2] at h
        cases hv : vw (d :: r) with
        | none => rw [hv] at h; cases h
        | some v' =>
          show wds true cur (c :: (d :: r ++ rest)) = _
          rw [wds_in (by omega) h2, wds_vw (d :: r) v' _ rest hv]
          simp
theorem wds_vOf {p v cur rest : L8} (h : vOf p = some v) : wds false cur (p ++ rest) = wds false (p.reverse ++ cur) rest := by
  unfold vOf at h
  by_cases hb : bareB p = true
  · obtain ⟨c, r, e, hall, _⟩ := bare_parts hb
    exact wds_pass p cur rest (fun x hx => ⟨(c34 (hall x hx)).1, (c34 (hall x hx)).2.1⟩)
  · rw [if_neg hb] at h
    cases p with
    | nil => cases h
    | cons c r =>
      simp only at h
      by_cases hc : c.toNat = 34
      · rw [if_pos hc] at h
        show wds false cur (c :: (r ++ rest)) = _
        rw [wds_quote hc]
        show wds true (c :: cur) (r ++ rest) = _
        rw [wds_vw r v _ rest h]
        simp
      · rw [if_neg hc] at h; cases h
theorem wds_argW {p n v cur rest : L8} (h : argW p = some (n, v)) : wds false cur (p ++ rest) = wds false (p.reverse ++ cur) rest := by
  unfold argW at h
  by_cases hn : idxE p < p.length ∧ argNm (p.take (idxE p)) = true
  · rw [if_pos hn] at h
    obtain ⟨h1, h2⟩ := hn
    cases hv : vOf (p.drop (idxE p + 1)) with
    | none => rw [hv] at h; cases h
    | some v' =>
      have hx : p[idxE p]? = some p[idxE p] := List.getElem?_eq_getElem h1
      have h61 : (p[idxE p]).toNat = 61 := by
        have := lead_stop _ p _ hx
        simpa using this
      have hp : p = p.take (idxE p) ++ (p[idxE p] :: p.drop (idxE p + 1)) := by
        rw [← List.drop_eq_getElem_cons h1]
        exact (List.take_append_drop _ _).symm
      unfold argNm at h2
      simp only [Bool.and_eq_true, decide_eq_true_eq, List.all_eq_true] at h2
      have hall := h2.2
      generalize p.take (idxE p) = a at hp hall
      generalize p.drop (idxE p + 1) = q at hp hv
      generalize p[idxE p] = c at hp h61
      subst hp
      rw [List.append_assoc, wds_pass a cur _ (fun x hx => ⟨(w61 (hall x hx)).1, (w61 (hall x hx)).2.1⟩)]
      rw [List.cons_append, wds_out (by omega) (by omega), wds_vOf hv]
      simp
  · rw [if_neg hn] at h
    cases hv : vOf p with
    | none => rw [hv] at h; cases h
    | some v' => exact wds_vOf hv
/-- Words, each with a space before it. -/
def joinS (ps : List L8) : L8 := (ps.map (32 :: ·)).flatten
theorem joinS_cons (p : L8) (ps : List L8) : joinS (p :: ps) = 32 :: (p ++ joinS ps) := by simp [joinS]
theorem wds_join : ∀ (ps : List L8) (as : List (L8 × L8)) (cur : L8), ps.map argW = as.map some → wds false cur (joinS ps) = cur.reverse :: ps
  | [], as, cur, _ => by show wds false cur [] = _; rw [wds_nil]
  | p :: ps, [], cur, h => by simp at h
  | p :: ps, a :: as, cur, h => by
    simp only [List.map_cons, List.cons.injEq] at h
    rw [joinS_cons, wds_cut (by rfl), wds_argW (n := a.1) (v := a.2) h.1]
    rw [wds_join ps as _ h.2]
    simp
theorem join_wds : ∀ (l : L8) (q : Bool) (cur p0 : L8) (ps : List L8), wds q cur l = p0 :: ps → cur.reverse ++ l = p0 ++ joinS ps
  | [], q, cur, p0, ps, h => by
    rw [wds_nil] at h
    injection h with h1 h2
    subst h1 h2
    simp [joinS]
  | [c], q, cur, p0, ps, h => by
    by_cases h0 : q = true ∧ c.toNat = 92
    · obtain ⟨rfl, h92⟩ := h0
      rw [wds_esc1 h92] at h
      injection h with h1 h2
      subst h1 h2
      simp [joinS]
    · by_cases h1 : c.toNat = 34
      · rw [wds_quote h1] at h
        have := join_wds [] _ _ p0 ps h
        simpa using this
      · by_cases h2 : c.toNat = 32 ∧ q = false
        · obtain ⟨h32, rfl⟩ := h2
          rw [wds_cut h32, wds_nil] at h
          injection h with h3 h4
          subst h3 h4
          have : c = 32 := UInt8.toNat_inj.1 h32
          subst this
          simp [joinS]
        · rw [wds_else h0 h1 h2] at h
          have := join_wds [] _ _ p0 ps h
          simpa using this
  | c :: d :: r, q, cur, p0, ps, h => by
    by_cases h0 : q = true ∧ c.toNat = 92
    · obtain ⟨rfl, h92⟩ := h0
      rw [wds_esc h92] at h
      have := join_wds r _ _ p0 ps h
      simpa using this
    · by_cases h1 : c.toNat = 34
      · rw [wds_quote h1] at h
        have := join_wds (d :: r) _ _ p0 ps h
        simpa using this
      · by_cases h2 : c.toNat = 32 ∧ q = false
        · obtain ⟨h32, rfl⟩ := h2
          rw [wds_cut h32] at h
          injection h with h3 h4
          subst h3
          have : c = 32 := UInt8.toNat_inj.1 h32
          subst this
          cases ps with
          | nil =>
            exact absurd h4 (wds_ne _ _ _)
          | cons p1 ps =>
            have := join_wds (d :: r) _ _ p1 ps h4
            rw [joinS_cons]
            simpa using this
        · rw [wds_else h0 h1 h2] at h
          have := join_wds (d :: r) _ _ p0 ps h
          simpa using this
/-! ### The two readings -/
theorem pa_join : ∀ (ps : List L8) (as : List (L8 × L8)) (e : Bool), ps.map argW = as.map some → PA (joinS ps ++ suf e) as e
  | [], [], e, _ => PA.fin e
  | [], a :: as, e, h => by simp at h
  | p :: ps, [], e, h => by simp at h
  | p :: ps, (n, v) :: as, e, h => by
    simp only [List.map_cons, List.cons.injEq] at h
    have ih := pa_join ps as e h.2
    have hs : Sp (joinS ps ++ suf e) := by
      cases ps with
      | nil => cases e <;> exact ⟨32, _, rfl, rfl⟩
      | cons p' ps' => rw [joinS_cons]; exact ⟨32, _, rfl, rfl⟩
    have hlen : 3 ≤ (joinS ps ++ suf e).length := by
      have : 3 ≤ (suf e).length := by cases e <;> decide
      rw [List.length_append]; omega
    have hp : 0 < p.length := List.length_pos_iff.2 (argW_ne h.1)
    rw [joinS_cons, List.cons_append, List.append_assoc]
    refine PA.step ?_ ?_ (ra_of_argW h.1 hs 32 rfl) ih
    · intro he
      have := congrArg List.length he
      simp only [List.length_cons, List.length_append (as := p), eO, List.length_nil] at this
      omega
    · intro he
      have := congrArg List.length he
      simp only [List.length_cons, List.length_append (as := p), eW, List.length_nil] at this
      omega
theorem join_pa {l : L8} {as : List (L8 × L8)} {e : Bool} (h : PA l as e) : ∃ ps, ps.map argW = as.map some ∧ l = joinS ps ++ suf e := by
  induction h with
  | fin e => exact ⟨[], rfl, rfl⟩
  | step h1 h2 h hr ih =>
    obtain ⟨ps, hp, rfl⟩ := ih
    obtain ⟨c, p, rfl, hc, ha⟩ := argW_of_ra h
    have : c = 32 := UInt8.toNat_inj.1 hc
    subst this
    exact ⟨p :: ps, by simp [hp, ha], by rw [joinS_cons]; simp⟩
theorem code_parts {p : L8} (h : codeNm p = true) : 0 < p.length ∧ p.length ≤ 20 ∧ ∀ x ∈ p, nmC x = true := by
  unfold codeNm at h
  simpa [and_assoc] using h
/-- What the reference takes the program takes. -/
theorem read_of_words {W p0 : L8} {ps : List L8} {as : List (L8 × L8)} {e : Bool} (hw : wds false [] W = p0 :: ps) (hc : codeNm p0 = true) (ha : ps.map argW = as.map some) :
    lead nmC (W ++ suf e) = p0.length ∧ (W ++ suf e).take p0.length = p0 ∧ PA ((W ++ suf e).drop p0.length) as e := by
  have hj := join_wds W false [] p0 ps hw
  simp only [List.reverse_nil, List.nil_append] at hj
  subst hj
  have hs : Sp (joinS ps ++ suf e) := by
    cases ps with
    | nil => cases e <;> exact ⟨32, _, rfl, rfl⟩
    | cons p' ps' => rw [joinS_cons]; exact ⟨32, _, rfl, rfl⟩
  obtain ⟨h1, h2, h3⟩ := code_parts hc
  rw [List.append_assoc]
  refine ⟨?_, List.take_left, ?_⟩
  · rw [lead_app nmC _ _ h3, sp_lead nmC (fun c h => (n32 h).2) hs]; omega
  · rw [List.drop_left]
    exact pa_join ps as e ha
/-- What the program takes the reference takes. -/
theorem words_of_read {l : L8} {as : List (L8 × L8)} {e : Bool} (h0 : 0 < lead nmC l) (h1 : lead nmC l ≤ 20) (h : PA (l.drop (lead nmC l)) as e) :
    ∃ W ps, l = W ++ suf e ∧ wds false [] W = l.take (lead nmC l) :: ps ∧ codeNm (l.take (lead nmC l)) = true ∧ ps.map argW = as.map some := by
  obtain ⟨ps, ha, hj⟩ := join_pa h
  have hall := lead_take nmC l
  have hle := lead_le nmC l
  refine ⟨l.take (lead nmC l) ++ joinS ps, ps, ?_, ?_, ?_, ha⟩
  · rw [List.append_assoc, ← hj, List.take_append_drop]
  · rw [wds_pass _ [] _ (fun x hx => n32 (hall x hx)), wds_join ps as _ ha]
    simp
  · unfold codeNm
    rw [List.all_eq_true.2 hall, List.length_take, Nat.min_eq_left hle, decide_eq_true h0, decide_eq_true h1]
    rfl
theorem suf_end {W W' : L8} {e e' : Bool} (h : W ++ suf e = W' ++ suf e') : e = e' ∧ W = W' := by
  have hr := congrArg List.reverse h
  rw [List.reverse_append, List.reverse_append] at hr
  have : e = e' := by
    cases e <;> cases e' <;> first | rfl | (exfalso; simp [suf, eO, eW] at hr)
  subst this
  exact ⟨rfl, List.append_cancel_right h⟩
end Go.Proofs.Ytfmmpfoecjehiaa
