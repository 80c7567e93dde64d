/- DERIVED. What asset.Plain finds in a name that is made of a path: plain mathematics. No condition. -/
import Derived.Test.YthlkibadiiiohaaDoorFinger
import Derived.Test.YthlkibadiiiohaaDoorIsPrint
import Derived.Lib.LastIndexByte
import Derived.Lib.IndexLaws
import Derived.Lib.IndexBytes
import Derived.Lib.CountLaws
namespace Go.Proofs.YthlkibadiiiohaaDoor
set_option linter.unusedVariables false
theorem tpart_pos {s : ByteArray} (h : tpartB s = true) : 0 < s.size := by
  unfold tpartB at h
  simp only [Bool.and_eq_true, decide_eq_true_eq] at h
  omega
theorem dropWhile_nil {α : Type} (p : α → Bool) : ∀ l : List α, (∀ x ∈ l, p x = true) → l.dropWhile p = []
  | [], _ => rfl
  | x :: l, h => by rw [List.dropWhile_cons_of_pos (h x (by simp))]; exact dropWhile_nil p l fun y hy => h y (by simp [hy])
theorem trim_all16 (l cs : List UInt8) (h : ∀ c ∈ l, c ∈ cs) : Lib.trimS l cs = [] := by
  unfold Lib.trimS Lib.trimRightS Lib.trimLeftS
  rw [dropWhile_nil _ l.reverse (fun x hx => by simpa using h x (by simpa using hx))]
  rfl
theorem isPrB_of (s : ByteArray) (h : ∀ c ∈ s.data.toList, c ∈ hex16L) : isPrB s = true := by
  unfold isPrB
  rw [trim_all16 _ _ h]
  rfl
/-- The last place of a byte, by the list of the bytes. -/
theorem li_spec (s : ByteArray) (c : UInt8) : (Lib.lastIndexByte s (c.toNat : Int) = -1 ∧ ∀ j : Nat, s.data.toList[j]? ≠ some c) ∨
    ∃ i : Nat, i < s.size ∧ Lib.lastIndexByte s (c.toNat : Int) = i ∧ s.data.toList[i]? = some c ∧ ∀ j : Nat, i < j → s.data.toList[j]? ≠ some c := by
  have hg : ∀ j (hj : j < s.size), s.data.toList[j]? = some (s.data[j]!) := fun j hj => by
    have hj' : j < s.data.size := hj
    rw [Array.getElem?_toList, Array.getElem?_eq_getElem hj', getElem!_pos s.data j hj']
  have hlen : s.data.toList.length = s.size := Array.length_toList
  have hno : ∀ j : Nat, (j < s.size → ((s.data[j]!).toNat : Int) ≠ c.toNat) → s.data.toList[j]? ≠ some c := fun j h e => by
    by_cases hj : j < s.size
    · rw [hg j hj] at e
      have := Option.some.inj e
      exact h hj (by rw [this])
    · rw [List.getElem?_eq_none (by omega)] at e
      cases e
  rcases Lib.lastIndexByte_spec s (c.toNat : Int) with ⟨h, h1⟩ | ⟨i, h1, h2, h3, h4⟩
  · exact .inl ⟨h, fun j => hno j (h1 j)⟩
  · exact .inr ⟨i, h1, h2, by rw [hg i h1]; exact congrArg some (UInt8.toNat_inj.1 (by exact_mod_cast h3)), fun j hj => hno j (h4 j hj)⟩
theorem li_ge (s : ByteArray) (c : UInt8) : -1 ≤ Lib.lastIndexByte s (c.toNat : Int) := by
  rcases li_spec s c with ⟨h, _⟩ | ⟨i, _, h, _, _⟩ <;> omega
theorem li_is (s : ByteArray) (c : UInt8) (i : Nat) (h : s.data.toList[i]? = some c) (h1 : ∀ j : Nat, i < j → s.data.toList[j]? ≠ some c) : Lib.lastIndexByte s (c.toNat : Int) = i := by
  rcases li_spec s c with ⟨_, h2⟩ | ⟨k, _, h3, h4, h5⟩
  · exact absurd h (h2 i)
  · rw [h3]
    rcases Nat.lt_trichotomy i k with h6 | h6 | h6
    · exact absurd h4 (h1 k h6)
    · rw [h6]
    · exact absurd h (h5 i h6)
theorem li_none (s : ByteArray) (c : UInt8) (h : ∀ j : Nat, s.data.toList[j]? ≠ some c) : Lib.lastIndexByte s (c.toNat : Int) = -1 := by
  rcases li_spec s c with ⟨h, _⟩ | ⟨k, _, _, h4, _⟩
  · exact h
  · exact absurd h4 (h k)
theorem last_not : ∀ (n : Nat) (l : List UInt8), l.length ≤ n → (Lib.splitB slashS 0 (Lib.countB ⟨l.toArray⟩ slashS) ⟨l.toArray⟩).all tpartB = true → l ≠ [] ∧ l.getLast? ≠ some 47 := fun n => by
  induction n with
  | zero =>
    intro l hl h
    obtain rfl : l = [] := List.length_eq_zero_iff.1 (by omega)
    have hix : Lib.indexB (⟨([] : List UInt8).toArray⟩ : ByteArray) slashS = -1 := by decide
    rw [Lib.countB_miss _ _ hix, Lib.splitB_zero, List.all_cons, Bool.and_eq_true] at h
    exact absurd (tpart_pos h.1) (by decide)
  | succ n ih =>
    intro l hl h
    have hix : Lib.indexB (⟨l.toArray⟩ : ByteArray) slashS = Lib.indexByte l 47 := by
      show Lib.index (⟨l.toArray⟩ : ByteArray).data.toList [47] = _
      rw [Lib.index_one]
    by_cases hi : Lib.indexByte l 47 = -1
    · rw [hi] at hix
      rw [Lib.countB_miss _ _ hix, Lib.splitB_zero, List.all_cons, Bool.and_eq_true] at h
      have hp := tpart_pos h.1
      have hp : 0 < l.length := by
        have e : (⟨l.toArray⟩ : ByteArray).size = l.length := by show l.toArray.size = _; simp
        omega
      refine ⟨fun e => by rw [e] at hp; exact absurd hp (by decide), fun e => ?_⟩
      have hno := Lib.indexByte_none hi
      rw [List.getLast?_eq_getElem?] at e
      exact hno _ e
    · have hge := Lib.indexByte_ge l 47
      obtain ⟨k, hk⟩ : ∃ k : Nat, Lib.indexByte l 47 = k := ⟨(Lib.indexByte l 47).toNat, by omega⟩
      obtain ⟨h1, h2⟩ := Lib.indexByte_some hk
      rw [hk] at hix
      have hkl := (List.getElem?_eq_some_iff.1 h1).1
      have e : (⟨l.toArray⟩ : ByteArray).extract (k + slashS.size) (⟨l.toArray⟩ : ByteArray).size = ⟨(l.drop (k + 1)).toArray⟩ := by
        apply ByteArray.ext
        apply Array.toList_inj.1
        rw [Lib.extract_to_end]
        rfl
      rw [Lib.countB_hit _ _ k (by decide) hix, Nat.add_comm, Lib.splitB_hit _ _ _ _ k hix, e, List.all_cons, Bool.and_eq_true] at h
      obtain ⟨ha, hb⟩ := ih (l.drop (k + 1)) (by rw [List.length_drop]; omega) h.2
      refine ⟨fun e => by rw [e] at hkl; exact absurd hkl (by simp), fun e => hb ?_⟩
      have hl2 : 0 < (l.drop (k + 1)).length := List.length_pos_iff.2 ha
      rw [List.length_drop] at hl2
      rw [List.getLast?_eq_getElem?, List.getElem?_drop, List.length_drop]
      rw [List.getLast?_eq_getElem?] at e
      rw [← e]
      congr 1
      omega
theorem last_part (p : ByteArray) (h : (tparts p).all tpartB = true) : Lib.lastIndexByte p 47 + 1 < p.size := by
  obtain ⟨h1, h2⟩ := last_not p.data.toList.length p.data.toList (Nat.le_refl _) h
  have hlen : p.data.toList.length = p.size := Array.length_toList
  have hl : 0 < p.data.toList.length := List.length_pos_iff.2 h1
  rcases li_spec p 47 with ⟨h, _⟩ | ⟨i, h3, h4, h5, _⟩
  · have h : Lib.lastIndexByte p 47 = -1 := h
    rw [h]; omega
  · have h4 : Lib.lastIndexByte p 47 = i := h4
    rw [h4]
    rw [List.getLast?_eq_getElem?] at h2
    by_cases hi : i + 1 = p.size
    · exfalso
      apply h2
      rw [← h5]
      congr 1
      omega
    · omega
/-- Where a name that is made of a path has a point, digits and the rest. -/
theorem cat_at (P D : List UInt8) (a : Nat) (ha : a ≤ P.length) (hD : D.length = 12) (j : Nat) :
    (P.take a ++ 46 :: (D ++ P.drop a))[j]? = if j < a then P[j]? else if j = a then some 46 else if j < a + 13 then D[j - a - 1]? else P[j - 13]? := by
  have hla : (P.take a).length = a := by rw [List.length_take]; omega
  split
  · rename_i h
    rw [List.getElem?_append_left (by omega), List.getElem?_take, if_pos h]
  · rw [List.getElem?_append_right (by omega), hla]
    split
    · rename_i h
      rw [h, Nat.sub_self]; rfl
    · obtain ⟨m, hm⟩ : ∃ m, j - a = m + 1 := ⟨j - a - 1, by omega⟩
      rw [hm, List.getElem?_cons_succ]
      split
      · rw [List.getElem?_append_left (by omega)]
        congr 1
      · rw [List.getElem?_append_right (by omega), List.getElem?_drop]
        congr 1
        omega
def plB (p : ByteArray) (e : Int) : Bool := decide (Lib.lastIndexByte p 47 + 1 < e - 13) && decide (p.data.toList[(e - 13).toNat]? = some 46) && isPrB (p.extract ((e - 13).toNat + 1) e.toNat)
def plV (p : ByteArray) (e : Int) : Value := .tuple #[.string (p.extract 0 (e - 13).toNat ++ p.extract e.toNat p.size), .string (p.extract ((e - 13).toNat + 1) e.toNat), .bool true]
theorem bx (l : List UInt8) (i j : Nat) : (⟨l.toArray⟩ : ByteArray).extract i j = ⟨((l.take j).drop i).toArray⟩ := by
  apply ByteArray.ext
  apply Array.toList_inj.1
  rw [Lib.extract_data]
  show List.take (j - i) (List.drop i l) = List.drop i (List.take j l)
  rw [List.drop_take]
theorem app_b (a b : List UInt8) : (⟨a.toArray⟩ : ByteArray) ++ ⟨b.toArray⟩ = ⟨(a ++ b).toArray⟩ := by
  apply ByteArray.ext
  simp
/-- WHAT PLAIN FINDS IN A NAME: the path, and the digits. -/
theorem plain_name (P D : List UInt8) (p : ByteArray) (hp : p = ⟨P.toArray⟩) (hD : D.length = 12) (hx : ∀ c ∈ D, c ∈ hex16L) (hl : Lib.lastIndexByte p 47 + 1 < p.size) (N : ByteArray)
    (hN : N = ⟨(P.take (stemN p) ++ 46 :: (D ++ P.drop (stemN p))).toArray⟩) :
    (plB N (Lib.lastIndexByte N 46) = true ∧ plV N (Lib.lastIndexByte N 46) = .tuple #[.string p, .string ⟨D.toArray⟩, .bool true]) ∨
    (plB N (Lib.lastIndexByte N 46) = false ∧ plB N N.size = true ∧ plV N N.size = .tuple #[.string p, .string ⟨D.toArray⟩, .bool true]) := by
  have hps : p.size = P.length := by rw [hp]; show P.toArray.size = _; simp
  have hpl : p.data.toList = P := by rw [hp]
  have hD47 : ∀ k : Nat, D[k]? ≠ some 47 := fun k e => absurd (hx 47 (List.mem_of_getElem? e)) (by decide)
  have hD46 : ∀ k : Nat, D[k]? ≠ some 46 := fun k e => absurd (hx 46 (List.mem_of_getElem? e)) (by decide)
  -- where the digits stand
  obtain ⟨a, ha⟩ : ∃ a, stemN p = a := ⟨_, rfl⟩
  have hal : a ≤ P.length ∧ Lib.lastIndexByte p 47 < a := by
    rw [← ha]; unfold stemN
    split
    · rcases li_spec p 46 with ⟨h, _⟩ | ⟨i, h1, h2, _, _⟩
      · have h : Lib.lastIndexByte p 46 = -1 := h
        rcases li_spec p 47 with ⟨h', _⟩ | ⟨i, h1, h2, _, _⟩
        · have h' : Lib.lastIndexByte p 47 = -1 := h'
          omega
        · have h2 : Lib.lastIndexByte p 47 = i := h2
          omega
      · have h2 : Lib.lastIndexByte p 46 = i := h2
        omega
    · omega
  rw [ha] at hN
  have hNl : N.data.toList = P.take a ++ 46 :: (D ++ P.drop a) := by rw [hN]
  have hNs : N.size = P.length + 13 := by
    rw [hN]; show (P.take a ++ 46 :: (D ++ P.drop a)).toArray.size = _
    simp only [List.size_toArray, List.length_append, List.length_cons, List.length_take, List.length_drop, hD]; omega
  have hat := fun j => cat_at P D a hal.1 hD j
  rw [← hNl] at hat
  have no47 : ∀ j, Lib.lastIndexByte p 47 < j → P[j.toNat]? ≠ some 47 ∨ j < 0 := fun j hj => by
    rcases li_spec p 47 with ⟨_, h⟩ | ⟨i, _, h2, _, h⟩
    · exact .inl (by rw [← hpl]; exact h _)
    · have h2 : Lib.lastIndexByte p 47 = i := h2
      exact .inl (by rw [← hpl]; exact h _ (by omega))
  have hS : Lib.lastIndexByte N 47 = Lib.lastIndexByte p 47 := by
    have hN47 : ∀ j : Nat, a ≤ j → N.data.toList[j]? ≠ some 47 := fun j hj => by
      rw [hat j, if_neg (by omega)]
      split
      · decide
      · split
        · exact hD47 _
        · rcases no47 ((j - 13 : Nat) : Int) (by omega) with h | h
          · simpa using h
          · omega
    rcases li_spec p 47 with ⟨h1, h2⟩ | ⟨i, h1, h2, h3, h4⟩
    · rw [show Lib.lastIndexByte p 47 = -1 from h1]
      refine li_none N 47 fun j => ?_
      by_cases hj : j < a
      · rw [hat j, if_pos hj, ← hpl]; exact h2 j
      · exact hN47 j (by omega)
    · have h2 : Lib.lastIndexByte p 47 = i := h2
      rw [h2]
      refine li_is N 47 i (by rw [hat i, if_pos (by omega), ← hpl]; exact h3) fun j hj => ?_
      by_cases hj2 : j < a
      · rw [hat j, if_pos hj2, ← hpl]; exact h4 j hj
      · exact hN47 j (by omega)
  have hla : (P.take a).length = a := by rw [List.length_take]; omega
  have hDig : N.extract (a + 1) (a + 13) = ⟨D.toArray⟩ := by
    rw [hN, bx]
    congr 2
    rw [List.take_append, hla, List.take_of_length_le (by omega), show a + 13 - a = 13 by omega]
    rw [List.drop_append, hla, List.drop_of_length_le (by omega), show a + 1 - a = 1 by omega]
    show List.drop 1 (List.take 13 (46 :: (D ++ P.drop a))) = D
    rw [List.take_succ_cons, List.drop_succ_cons, List.drop_zero, List.take_append_of_le_length (by omega), List.take_of_length_le (by omega)]
  have hRest : N.extract 0 a ++ N.extract (a + 13) N.size = p := by
    have e1 : N.extract 0 a = ⟨(P.take a).toArray⟩ := by
      rw [hN, bx]
      congr 2
      rw [List.drop_zero, List.take_append_of_le_length (by omega), List.take_of_length_le (by omega : (P.take a).length ≤ a)]
    have e2 : N.extract (a + 13) N.size = ⟨(P.drop a).toArray⟩ := by
      rw [hNs, hN, bx]
      congr 2
      rw [List.take_of_length_le (by rw [← hNl, show N.data.toList.length = N.size from Array.length_toList, hNs]; exact Nat.le_refl _)]
      rw [List.drop_append, hla, List.drop_of_length_le (by omega), show a + 13 - a = 13 by omega, List.nil_append]
      show List.drop 12 (D ++ P.drop a) = P.drop a
      rw [List.drop_append_of_le_length (by omega), List.drop_of_length_le (by omega), List.nil_append]
    rw [e1, e2, app_b, List.take_append_drop, hp]
  have good : ∀ e : Int, e = a + 13 → Lib.lastIndexByte p 47 + 1 < a → plB N e = true ∧ plV N e = .tuple #[.string p, .string ⟨D.toArray⟩, .bool true] := fun e he hlt => by
    have e1 : (e - 13).toNat = a := by omega
    have e2 : e.toNat = a + 13 := by omega
    constructor
    · unfold plB
      rw [hS, e1, e2, hDig, hat a, if_neg (by omega), if_pos rfl, isPrB_of ⟨D.toArray⟩ (fun c hc => hx c (by simpa using hc))]
      simp only [decide_true, Bool.and_true]
      exact decide_eq_true (by omega)
    · unfold plV
      rw [e1, e2, hDig, hRest]
  by_cases hcase : Lib.lastIndexByte p 47 + 1 < Lib.lastIndexByte p 46
  · left
    have hst : (a : Int) = Lib.lastIndexByte p 46 := by rw [← ha]; unfold stemN; rw [if_pos hcase]; have hge : -1 ≤ Lib.lastIndexByte p 47 := li_ge p 47; omega
    have h46 : P[a]? = some 46 ∧ ∀ j, a < j → P[j]? ≠ some 46 := by
      rcases li_spec p 46 with ⟨h, _⟩ | ⟨i, _, h2, h3, h4⟩
      · have h : Lib.lastIndexByte p 46 = -1 := h
        omega
      · have h2 : Lib.lastIndexByte p 46 = i := h2
        obtain rfl : a = i := by omega
        rw [hpl] at h3 h4
        exact ⟨h3, h4⟩
    have hL : Lib.lastIndexByte N 46 = ((a + 13 : Nat) : Int) := by
      refine li_is N 46 (a + 13) ?_ fun j hj => ?_
      · rw [hat, if_neg (by omega), if_neg (by omega), if_neg (by omega)]; exact h46.1
      · rw [hat, if_neg (by omega), if_neg (by omega), if_neg (by omega)]; exact h46.2 _ (by omega)
    exact good _ (by rw [hL]; omega) (by omega)
  · right
    have haP : a = P.length := by rw [← ha]; unfold stemN; rw [if_neg hcase, hps]
    have hL : Lib.lastIndexByte N 46 = (a : Int) := by
      refine li_is N 46 a ?_ fun j hj => ?_
      · rw [hat, if_neg (by omega), if_pos rfl]
      · rw [hat, if_neg (by omega), if_neg (by omega)]
        split
        · exact hD46 _
        · rw [List.getElem?_eq_none (by omega)]; simp
    refine ⟨?_, good _ (by rw [hNs]; omega) (by omega)⟩
    rw [hL]
    have hge : -1 ≤ Lib.lastIndexByte N 47 := li_ge N 47
    by_cases hd : Lib.lastIndexByte N 47 + 1 < (a : Int) - 13
    · have hn : N.data.toList[((a : Int) - 13).toNat]? ≠ some 46 := by
        rw [hat, if_pos (by omega), ← hpl]
        rw [hS] at hd
        rcases li_spec p 46 with ⟨_, h⟩ | ⟨i, _, h2, _, h⟩
        · exact h _
        · have h2 : Lib.lastIndexByte p 46 = i := h2
          exact h _ (by omega)
      unfold plB
      rw [decide_eq_false hn, Bool.and_false, Bool.false_and]
    · unfold plB
      rw [decide_eq_false hd, Bool.false_and, Bool.false_and]
theorem dig16_in (k : Nat) (h : k < 16) : dig16 k ∈ hex16L := by
  have H : ∀ k, k < 16 → dig16 k ∈ hex16L := by decide
  exact H k h
theorem hexA_in : ∀ (l : List Nat) (c : UInt8), c ∈ hexA l → c ∈ hex16L
  | [], c, h => by cases h
  | n :: r, c, h => by
    unfold hexA at h
    rcases List.mem_append.1 h with h | h
    · unfold hexP at h
      obtain ⟨j, _, rfl⟩ := List.mem_map.1 h
      exact dig16_in _ (Nat.mod_lt _ (by decide))
    · exact hexA_in r c h
/-- The digits that a name gets. -/
def dg12 (b : ByteArray) : List UInt8 := (digS b).data.toList.take 12
theorem dg12_len (b : ByteArray) : (dg12 b).length = 12 := by
  unfold dg12
  rw [List.length_take, show (digS b).data.toList.length = (digS b).size from Array.length_toList, digS_size]; rfl
theorem dg12_in (b : ByteArray) : ∀ c ∈ dg12 b, c ∈ hex16L := fun c hc => by
  unfold dg12 at hc
  have h := List.mem_of_mem_take hc
  unfold digS at h
  exact hexA_in _ c (by simpa using h)
theorem fpN_eq (p b : ByteArray) : fpN p b = ⟨(p.data.toList.take (stemN p) ++ 46 :: (dg12 b ++ p.data.toList.drop (stemN p))).toArray⟩ := by
  have hp : p = ⟨(p.data.toList).toArray⟩ := rfl
  have hle := stemN_le p
  have hps : p.data.toList.length = p.size := Array.length_toList
  have e1 : p.extract 0 (stemN p) = ⟨(p.data.toList.take (stemN p)).toArray⟩ := (bx p.data.toList 0 (stemN p)).trans (by rw [List.drop_zero])
  have e2 : (digS b).extract 0 12 = ⟨(dg12 b).toArray⟩ := (bx (digS b).data.toList 0 12).trans (by rw [List.drop_zero]; rfl)
  have e3 : p.extract (stemN p) p.size = ⟨(p.data.toList.drop (stemN p)).toArray⟩ := (bx p.data.toList (stemN p) p.size).trans (by rw [List.take_of_length_le (by omega)])
  unfold fpN
  rw [e1, e2, e3, show (⟨#[46]⟩ : ByteArray) = ⟨([46] : List UInt8).toArray⟩ from rfl, app_b, app_b, app_b]
  simp only [List.append_assoc, List.cons_append, List.nil_append]
/-- What Plain returns. -/
def plO (p : ByteArray) : Value := if plB p (Lib.lastIndexByte p 46) = true then plV p (Lib.lastIndexByte p 46) else if plB p p.size = true then plV p p.size else .tuple #[.string ⟨#[]⟩, .string ⟨#[]⟩, .bool false]
theorem plO_name (p b : ByteArray) (h : tpathB p = true) : plO (fpN p b) = .tuple #[.string p, .string ⟨(dg12 b).toArray⟩, .bool true] := by
  unfold tpathB at h
  rw [Bool.and_eq_true] at h
  rcases plain_name p.data.toList (dg12 b) p rfl (dg12_len b) (dg12_in b) (last_part p h.2) (fpN p b) (fpN_eq p b) with ⟨h1, h2⟩ | ⟨h1, h2, h3⟩
  · unfold plO; rw [if_pos h1, h2]
  · unfold plO; rw [h1, if_neg (by decide), if_pos h2, h3]
end Go.Proofs.YthlkibadiiiohaaDoor
