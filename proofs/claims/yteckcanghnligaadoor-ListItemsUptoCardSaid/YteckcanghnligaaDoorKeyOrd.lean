/- DERIVED. Plain facts on keys in order: where a key stands among them, by halving and by search. No condition. -/
import Derived.Test.YteckcanghnligaaDoorConfKeys
import Derived.Lib.SlicesS
import Derived.Shelf.Spec.SearchS
namespace Go.Proofs.YteckcanghnligaaDoor
theorem bl_irr : ∀ l : List UInt8, Op.bytesLess l l = false
  | [] => rfl
  | x :: l => by simp [Op.bytesLess, bl_irr l]
theorem bl_cons (x y : UInt8) (l m : List UInt8) : Op.bytesLess (x :: l) (y :: m) = true ↔ x.toNat < y.toNat ∨ (x = y ∧ Op.bytesLess l m = true) := by
  simp only [Op.bytesLess, Bool.or_eq_true, Bool.and_eq_true, decide_eq_true_eq, beq_iff_eq, UInt8.lt_iff_toNat_lt]
theorem bl_trans : ∀ a b c : List UInt8, Op.bytesLess a b = true → Op.bytesLess b c = true → Op.bytesLess a c = true
  | [], [], _, h, _ => by cases h
  | [], _ :: _, [], _, h => by cases h
  | [], _ :: _, _ :: _, _, _ => rfl
  | _ :: _, [], _, h, _ => by cases h
  | _ :: _, _ :: _, [], _, h => by cases h
  | x :: l, y :: m, z :: n, h, h' => by
    rw [bl_cons] at h h' ⊢
    rcases h with h | ⟨rfl, h⟩ <;> rcases h' with h' | ⟨rfl, h'⟩
    · exact .inl (by omega)
    · exact .inl h
    · exact .inl h'
    · exact .inr ⟨rfl, bl_trans l m n h h'⟩
theorem bl_tri : ∀ a b : List UInt8, Op.bytesLess a b = false → Op.bytesLess b a = false → a = b
  | [], [], _, _ => rfl
  | [], _ :: _, h, _ => by cases h
  | _ :: _, [], _, h => by cases h
  | x :: l, y :: m, h, h' => by
    have g := mt (bl_cons x y l m).2 (by rw [h]; simp)
    have g' := mt (bl_cons y x m l).2 (by rw [h']; simp)
    have e : x = y := UInt8.toNat_inj.1 (by
      have g1 : ¬ x.toNat < y.toNat := fun h => g (.inl h)
      have g2 : ¬ y.toNat < x.toNat := fun h => g' (.inl h)
      omega)
    subst e
    have e := bl_tri l m (by
      cases hh : Op.bytesLess l m with
      | false => rfl
      | true => exact absurd (.inr ⟨rfl, hh⟩) g) (by
      cases hh : Op.bytesLess m l with
      | false => rfl
      | true => exact absurd (.inr ⟨rfl, hh⟩) g')
    rw [e]
def ltS (a b : ByteArray) : Bool := Op.bytesLess a.toList b.toList
theorem ltS_trans {a b c : ByteArray} (h : ltS a b = true) (h' : ltS b c = true) : ltS a c = true := bl_trans _ _ _ h h'
theorem ltS_irr (a : ByteArray) : ltS a a = false := bl_irr _
theorem ltS_tri {a b : ByteArray} (h : ltS a b = false) (h' : ltS b a = false) : a = b := by
  have e := bl_tri _ _ h h'
  rw [ByteArray.toList_eq, ByteArray.toList_eq] at e
  exact ByteArray.ext (Array.toList_inj.1 e)
theorem leS_false {a b : ByteArray} (h : leS a b = false) : ltS b a = true := by
  unfold leS at h
  simp only [Bool.or_eq_false_iff] at h
  cases hh : ltS b a with
  | true => rfl
  | false =>
    obtain rfl := ltS_tri h.1 hh
    simp at h
/-- The keys rise. -/
def Rising (l : List ByteArray) : Prop := l.Pairwise fun a b => ltS a b = true
theorem keysErr_step {p : Option ByteArray} {s : ByteArray} {r : List ByteArray} (h : keysErr leS p (s :: r) = 0) : keyB s = true ∧ (∀ q, p = some q → leS s q = false) ∧ keysErr leS (some s) r = 0 := by
  cases hk : keyB s with
  | false => unfold keysErr at h; rw [if_pos hk] at h; cases h
  | true =>
    unfold keysErr at h
    rw [if_neg (by rw [hk]; simp)] at h
    cases p with
    | none => exact ⟨rfl, fun q hq => by (cases hq), by simpa using h⟩
    | some q =>
      cases hp : leS s q with
      | true => simp [hp] at h
      | false => exact ⟨rfl, fun q' hq => by (cases hq; exact hp), by simpa [hp] using h⟩
theorem keysErr_rising : ∀ (l : List ByteArray) (p : Option ByteArray), keysErr leS p l = 0 → Rising l ∧ ∀ q, p = some q → ∀ s, s ∈ l → ltS q s = true
  | [], p, _ => ⟨List.Pairwise.nil, fun q _ s hs => by cases hs⟩
  | s :: r, p, h => by
    obtain ⟨_, hp, h⟩ := keysErr_step h
    obtain ⟨h1, h2⟩ := keysErr_rising r (some s) h
    refine ⟨List.Pairwise.cons (fun x hx => h2 s rfl x hx) h1, ?_⟩
    rintro q rfl t ht
    have hq : ltS q s = true := leS_false (hp q rfl)
    rcases List.mem_cons.1 ht with rfl | ht
    · exact hq
    · exact ltS_trans hq (h2 s rfl t ht)
theorem keysErr_keys : ∀ (l : List ByteArray) (p : Option ByteArray), keysErr leS p l = 0 → ∀ s, s ∈ l → keyB s = true
  | [], _, _, s, hs => by cases hs
  | s :: r, p, h, t, ht => by
    obtain ⟨hk, _, h⟩ := keysErr_step h
    rcases List.mem_cons.1 ht with rfl | ht
    · exact hk
    · exact keysErr_keys r (some s) h t ht
/-- Where a key stands. -/
def idxK : List ByteArray → ByteArray → Option Nat
  | [], _ => none
  | s :: r, x => if s = x then some 0 else (idxK r x).map (· + 1)
theorem idxK_some : ∀ {l : List ByteArray} {x : ByteArray} {j : Nat}, idxK l x = some j → l[j]? = some x
  | [], _, _, h => by cases h
  | s :: r, x, j, h => by
    unfold idxK at h
    by_cases e : s = x
    · rw [if_pos e] at h
      cases h
      rw [e]; rfl
    · rw [if_neg e] at h
      obtain ⟨i, hi, rfl⟩ := Option.map_eq_some_iff.1 h
      show r[i]? = some x
      exact idxK_some (l := r) hi
theorem idxK_lt {l : List ByteArray} {x : ByteArray} {j : Nat} (h : idxK l x = some j) : j < l.length := (List.getElem?_eq_some_iff.1 (idxK_some h)).1
theorem idxK_none : ∀ {l : List ByteArray} {x : ByteArray}, idxK l x = none → x ∉ l
  | [], _, _, h => by cases h
  | s :: r, x, h, hm => by
    unfold idxK at h
    by_cases e : s = x
    · rw [if_pos e] at h; cases h
    · rw [if_neg e] at h
      rcases List.mem_cons.1 hm with rfl | hm
      · exact e rfl
      · exact idxK_none (Option.map_eq_none_iff.1 h) hm
theorem idxK_miss {l : List ByteArray} {x : ByteArray} (h : x ∉ l) : idxK l x = none := by
  cases hh : idxK l x with
  | none => rfl
  | some j => exact absurd (List.mem_of_getElem? (idxK_some hh)) h
theorem rising_inj {l : List ByteArray} (h : Rising l) {i j : Nat} {x : ByteArray} (hi : l[i]? = some x) (hj : l[j]? = some x) : i = j := by
  obtain ⟨hi1, hi2⟩ := List.getElem?_eq_some_iff.1 hi
  obtain ⟨hj1, hj2⟩ := List.getElem?_eq_some_iff.1 hj
  have hp := List.pairwise_iff_getElem.1 h
  rcases Nat.lt_trichotomy i j with hl | he | hl
  · have := hp i j hi1 hj1 hl; rw [hi2, hj2, ltS_irr] at this; cases this
  · exact he
  · have := hp j i hj1 hi1 hl; rw [hi2, hj2, ltS_irr] at this; cases this
theorem idxK_at {l : List ByteArray} (h : Rising l) {j : Nat} {x : ByteArray} (hj : l[j]? = some x) : idxK l x = some j := by
  cases hh : idxK l x with
  | none => exact absurd (List.mem_of_getElem? hj) (idxK_none hh)
  | some i => rw [rising_inj h (idxK_some hh) hj]
theorem idxFrom_K (x : ByteArray) : ∀ (l : List ByteArray) (i : Nat), Lib.idxFromS l x i = match idxK l x with | none => -1 | some j => ((i + j : Nat) : Int)
  | [], _ => rfl
  | s :: r, i => by
    unfold Lib.idxFromS idxK
    by_cases e : s = x
    · rw [if_pos e, if_pos e]; rfl
    · rw [if_neg e, if_neg e, idxFrom_K x r (i + 1)]
      cases idxK r x with
      | none => rfl
      | some j => show ((i + 1 + j : Nat) : Int) = ((i + (j + 1) : Nat) : Int); congr 1; omega
theorem idxOf_K (l : List ByteArray) (x : ByteArray) : Lib.idxOfS l x = match idxK l x with | none => -1 | some j => ((j : Nat) : Int) := by
  unfold Lib.idxOfS
  rw [idxFrom_K]
  cases idxK l x with
  | none => rfl
  | some j => show ((0 + j : Nat) : Int) = _; rw [Nat.zero_add]
/-- How many keys are less than x. -/
def lessK (l : List ByteArray) (x : ByteArray) : Nat := (l.takeWhile fun s => ltS s x).length
theorem lessK_le (l : List ByteArray) (x : ByteArray) : lessK l x ≤ l.length := by
  unfold lessK
  exact (List.takeWhile_prefix _).length_le
theorem takeWhile_at {p : ByteArray → Bool} : ∀ {l : List ByteArray} {t : Nat} {s : ByteArray}, l[t]? = some s → t < (l.takeWhile p).length → p s = true
  | [], _, _, h, _ => by simp at h
  | a :: r, t, s, h, ht => by
    rw [List.takeWhile_cons] at ht
    by_cases e : p a = true
    · rw [if_pos e] at ht
      cases t with
      | zero => simp at h; rw [← h]; exact e
      | succ t => exact takeWhile_at (by simpa using h) (by simpa using ht)
    · rw [if_neg e] at ht; simp at ht
theorem takeWhile_end {p : ByteArray → Bool} : ∀ {l : List ByteArray} {s : ByteArray}, l[(l.takeWhile p).length]? = some s → p s = false
  | [], _, h => by simp at h
  | a :: r, s, h => by
    rw [List.takeWhile_cons] at h
    by_cases e : p a = true
    · rw [if_pos e] at h
      exact takeWhile_end (l := r) (by simpa using h)
    · rw [if_neg e] at h
      simp at h
      rw [← h]; simpa using e
theorem bs_less {l : List ByteArray} (hr : Rising l) (x : ByteArray) : Lib.bsGo (fun t => Op.bytesLess (l.getD t ByteArray.empty).toList x.toList) l.length 0 l.length = lessK l x := by
  have hext : ∀ (f g : Nat → Bool) (n : Nat), (∀ t, t < n → f t = g t) → ∀ fu lo hi, hi ≤ n → Lib.bsGo f fu lo hi = Lib.bsGo g fu lo hi := by
    intro f g n hfg fu
    induction fu with
    | zero => intro lo hi _; rfl
    | succ fu ih =>
      intro lo hi hn
      unfold Lib.bsGo
      by_cases h : lo < hi
      · rw [if_pos h, if_pos h, hfg _ (by omega), ih _ _ hn, ih _ _ (by omega)]
      · rw [if_neg h, if_neg h]
  rw [hext _ (fun t => decide (t < lessK l x)) l.length ?_ _ _ _ (Nat.le_refl _)]
  · exact Lib.bsGo_spec _ (lessK l x) (fun t ht => by simpa using ht) (fun t ht => by simpa using ht) _ _ _ (by omega) (Nat.zero_le _) (lessK_le l x)
  · intro t ht
    have hg : l[t]? = some (l[t]) := List.getElem?_eq_getElem ht
    show Op.bytesLess (l.getD t ByteArray.empty).toList x.toList = decide (t < lessK l x)
    rw [List.getD_eq_getElem?_getD, hg]
    show ltS l[t] x = _
    by_cases hlt : t < lessK l x
    · rw [takeWhile_at (p := fun s => ltS s x) hg hlt]; simp [hlt]
    · have hk : lessK l x < l.length := by omega
      have he : ltS l[lessK l x] x = false := takeWhile_end (p := fun s => ltS s x) (l := l) (List.getElem?_eq_getElem hk)
      have : ltS l[t] x = false := by
        rcases Nat.lt_or_ge (lessK l x) t with h | h
        · cases hh : ltS l[t] x with
          | false => rfl
          | true =>
            have := List.pairwise_iff_getElem.1 hr _ _ hk ht h
            rw [ltS_trans this hh] at he; cases he
        · have e : t = lessK l x := by omega
          subst e
          exact he
      rw [this]; simp [hlt]
/-- Where halving ends, and whether the key is there. -/
theorem less_idx {l : List ByteArray} (hr : Rising l) (x : ByteArray) : (lessK l x < l.length ∧ l.getD (lessK l x) ByteArray.empty = x) ↔ idxK l x = some (lessK l x) := by
  constructor
  · rintro ⟨h, e⟩
    refine idxK_at hr ?_
    rw [List.getElem?_eq_getElem h]
    rw [List.getD_eq_getElem?_getD, List.getElem?_eq_getElem h] at e
    exact congrArg some e
  · intro h
    have h1 := idxK_some h
    exact ⟨idxK_lt h, by rw [List.getD_eq_getElem?_getD, h1]; rfl⟩
theorem less_miss {l : List ByteArray} (hr : Rising l) (x : ByteArray) (h : idxK l x ≠ some (lessK l x)) : idxK l x = none := by
  cases hh : idxK l x with
  | none => rfl
  | some j =>
    exfalso
    apply h
    have hj := idxK_some hh
    have hjl := idxK_lt hh
    rw [hh]
    congr 1
    have hle : lessK l x ≤ j := by
      rcases Nat.lt_or_ge j (lessK l x) with hlt | hge
      · have := takeWhile_at (p := fun s => ltS s x) hj hlt
        rw [ltS_irr] at this; cases this
      · exact hge
    rcases Nat.lt_or_ge (lessK l x) j with hlt | hge
    · have hk : lessK l x < l.length := by omega
      have he : ltS l[lessK l x] x = false := takeWhile_end (p := fun s => ltS s x) (l := l) (List.getElem?_eq_getElem hk)
      have := List.pairwise_iff_getElem.1 hr _ _ hk hjl hlt
      rw [List.getElem?_eq_getElem hjl] at hj
      rw [Option.some.inj hj, he] at this
      cases this
    · omega
end Go.Proofs.YteckcanghnligaaDoor
