/- DERIVED. Lines of shortcodes as lists of bytes: two ways to read them, and that they agree. No condition. -/
import Derived.Lib.Hide
namespace Go.Proofs.Ytfmmpfoecjehiaa
abbrev L8 := List UInt8
def smC (c : UInt8) : Bool := decide (97 ≤ c.toNat) && decide (c.toNat ≤ 122)
def bgC (c : UInt8) : Bool := decide (65 ≤ c.toNat) && decide (c.toNat ≤ 90)
def dgC (c : UInt8) : Bool := decide (48 ≤ c.toNat) && decide (c.toNat ≤ 57)
def nmC (c : UInt8) : Bool := smC c || dgC c || decide (c.toNat = 45)
def wdC (c : UInt8) : Bool := smC c || dgC c || decide (c.toNat = 95)
def plC (c : UInt8) : Bool := smC c || bgC c || dgC c || (decide (c.toNat = 45) || decide (c.toNat = 95) || decide (c.toNat = 46) || decide (c.toNat = 47) || decide (c.toNat = 58))
/-- How many bytes at the beginning are wanted ones. -/
def lead (p : UInt8 → Bool) : L8 → Nat
  | [] => 0
  | c :: r => if p c = true then lead p r + 1 else 0
theorem lead_le (p : UInt8 → Bool) : ∀ l, lead p l ≤ l.length
  | [] => Nat.le_refl _
  | c :: r => by
    have := lead_le p r
    unfold lead
    split <;> simp only [List.length_cons] <;> omega
theorem lead_app (p : UInt8 → Bool) : ∀ (a b : L8), (∀ x ∈ a, p x = true) → lead p (a ++ b) = a.length + lead p b
  | [], b, _ => by simp
  | c :: r, b, h => by
    have h1 := lead_app p r b (fun x hx => h x (List.mem_cons_of_mem _ hx))
    simp only [List.cons_append, lead, h c List.mem_cons_self, if_true, h1, List.length_cons]
    omega
theorem lead_take (p : UInt8 → Bool) : ∀ (l : L8) x, x ∈ l.take (lead p l) → p x = true
  | [], x, h => by simp at h
  | c :: r, x, h => by
    by_cases hc : p c = true
    · simp only [lead, hc, if_true, List.take_succ_cons] at h
      rcases List.mem_cons.1 h with rfl | h
      · exact hc
      · exact lead_take p r x h
    · simp only [lead, hc] at h
      simp at h
theorem lead_stop (p : UInt8 → Bool) : ∀ (l : L8) x, l[lead p l]? = some x → p x = false
  | [], x, h => by simp [lead] at h
  | c :: r, x, h => by
    by_cases hc : p c = true
    · simp only [lead, hc, if_true, List.getElem?_cons_succ] at h
      exact lead_stop p r x h
    · simp only [lead, hc] at h
      simp at h
      subst h
      simpa using hc
/-- A value from behind its quotation mark on: the value, and what is behind it. -/
def qd : L8 → Option (L8 × L8)
  | [] => none
  | [c] => if c.toNat = 34 then some ([], []) else none
  | c :: d :: r => if c.toNat < 32 then none else if c.toNat = 34 then some ([], d :: r) else if c.toNat = 92 then (if d.toNat = 34 ∨ d.toNat = 92 then (qd r).map fun x => (d :: x.1, x.2) else none) else (qd (d :: r)).map fun x => (c :: x.1, x.2)
/-- A value: what it is, what is behind it, whether it is one. -/
def rv (l : L8) : L8 × L8 × Bool :=
  match l with
  | [] => ([], [], false)
  | c :: r => if c.toNat = 34 then (match qd r with | some x => (x.1, x.2, true) | none => ([], [], false)) else ((c :: r).take (lead plC (c :: r)), (c :: r).drop (lead plC (c :: r)), decide (0 < lead plC (c :: r)) && !decide (c.toNat = 58))
def rvO (l : L8) : Option (L8 × L8) := if (rv l).2.2 = true then some ((rv l).1, (rv l).2.1) else none
/-- Whether an argument has a name, which is n bytes long. -/
def named (l : L8) : Bool :=
  decide (0 < lead wdC l) && decide (lead wdC l ≤ 20) && (match l[0]? with | some c => smC c | none => false) && decide (l[lead wdC l]? = some 61)
/-- An argument and the space before it: its name, its value, what is behind. -/
def ra (l : L8) : Option (L8 × L8 × L8) :=
  match l with
  | [] => none
  | c :: r => if c.toNat = 32 then (if named r = true then (rvO (r.drop (lead wdC r + 1))).map fun x => (r.take (lead wdC r), x.1, x.2) else (rvO r).map fun x => ([], x.1, x.2)) else none
def eO : L8 := [32, 62, 125]
def eW : L8 := [32, 47, 62, 125]
def suf : Bool → L8
  | true => eO
  | false => eW
/-- The rest of a line from behind the name on: its arguments, and whether it opens. -/
inductive PA : L8 → List (L8 × L8) → Bool → Prop
  | fin (e : Bool) : PA (suf e) [] e
  | step {l : L8} {n v r : L8} {as : List (L8 × L8)} {e : Bool} (h1 : l ≠ eO) (h2 : l ≠ eW) (h : ra l = some (n, v, r)) (hr : PA r as e) : PA l ((n, v) :: as) e
theorem suf_ne : ∀ e, suf e ≠ suf (!e)
  | true => by decide
  | false => by decide
theorem ne_suf {l : L8} (h1 : l ≠ eO) (h2 : l ≠ eW) : ∀ e, l ≠ suf e
  | true => h1
  | false => h2
theorem PA.det {l : L8} {as : List (L8 × L8)} {e : Bool} (h : PA l as e) : ∀ {as' : List (L8 × L8)} {e' : Bool}, PA l as' e' → as = as' ∧ e = e' := by
  induction h with
  | fin e =>
    intro as' e' h'
    generalize hl : suf e = l at h'
    cases h' with
    | fin =>
      refine ⟨rfl, ?_⟩
      cases e <;> cases e' <;> first | rfl | exact absurd hl (by decide)
    | step h1 h2 => exact absurd hl.symm (ne_suf h1 h2 e)
  | step h1 h2 h hr ih =>
    intro as' e' h'
    cases h' with
    | fin => exact absurd rfl (ne_suf h1 h2 e')
    | step h1' h2' h' hr' =>
      rw [h] at h'
      injection h' with h'
      injection h' with ha hb
      injection hb with hb hc
      subst ha hb hc
      obtain ⟨rfl, rfl⟩ := ih hr'
      exact ⟨rfl, rfl⟩
/-! ### Words -/
/-- The words of a string: cut at each space outside of quotation marks; q: within them, cur: the word so far, backwards. -/
def wds : Bool → L8 → L8 → List L8
  | _, cur, [] => [cur.reverse]
  | q, cur, [c] => if q = true ∧ c.toNat = 92 then [(c :: cur).reverse] else if c.toNat = 34 then wds (!q) (c :: cur) [] else if c.toNat = 32 ∧ q = false then cur.reverse :: wds q [] [] else wds q (c :: cur) []
  | q, cur, c :: d :: r => if q = true ∧ c.toNat = 92 then wds q (d :: c :: cur) r else if c.toNat = 34 then wds (!q) (c :: cur) (d :: r) else if c.toNat = 32 ∧ q = false then cur.reverse :: wds q [] (d :: r) else wds q (c :: cur) (d :: r)
def bareB (l : L8) : Bool := decide (l ≠ []) && l.all plC && (match l[0]? with | some c => !decide (c.toNat = 58) | none => true)
/-- The value of a word in quotation marks, from behind the first one on. -/
def vw : L8 → Option L8
  | [] => none
  | [c] => if c.toNat = 34 then some [] else none
  | c :: d :: r => if c.toNat < 32 ∨ c.toNat = 34 then none else if c.toNat = 92 then (if (d.toNat = 34 ∨ d.toNat = 92) ∧ r ≠ [] then (vw r).map (d :: ·) else none) else (vw (d :: r)).map (c :: ·)
def vOf (l : L8) : Option L8 :=
  if bareB l = true then some l else match l with
  | [] => none
  | c :: r => if c.toNat = 34 then vw r else none
def argNm (l : L8) : Bool := decide (0 < l.length) && decide (l.length ≤ 20) && (match l[0]? with | some c => smC c | none => false) && l.all wdC
def idxE (l : L8) : Nat := lead (fun c => !decide (c.toNat = 61)) l
def argW (l : L8) : Option (L8 × L8) :=
  if idxE l < l.length ∧ argNm (l.take (idxE l)) = true then (vOf (l.drop (idxE l + 1))).map fun v => (l.take (idxE l), v) else (vOf l).map fun v => ([], v)
def codeNm (l : L8) : Bool := decide (0 < l.length) && decide (l.length ≤ 20) && l.all nmC
end Go.Proofs.Ytfmmpfoecjehiaa
