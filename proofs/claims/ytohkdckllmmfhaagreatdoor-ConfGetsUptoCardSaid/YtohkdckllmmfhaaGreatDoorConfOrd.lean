/- DERIVED. The order of values is an order: it turns with its arguments, and goes on from value to value. No condition. -/
import Derived.Test.YtohkdckllmmfhaaGreatDoorConfBox
namespace Go.Proofs.YtohkdckllmmfhaaGreatDoor
set_option linter.unusedVariables false
/-- Three comparisons (first with second, second with third, first with third) that belong to one order. -/
structure Tr (x y z : Int) : Prop where
  t1 : x ≤ 0 → y ≤ 0 → z ≤ 0
  t2 : x < 0 → y ≤ 0 → z < 0
  t3 : x ≤ 0 → y < 0 → z < 0
  t4 : 0 ≤ x → 0 ≤ y → 0 ≤ z
  t5 : 0 < x → 0 ≤ y → 0 < z
  t6 : 0 ≤ x → 0 < y → 0 < z
/-- The second one, where the first is 0. -/
def lexC (a b : Int) : Int := if a ≠ 0 then a else b
theorem Tr.lex {x y z x' y' z' : Int} (h : Tr x y z) (h' : Tr x' y' z') : Tr (lexC x x') (lexC y y') (lexC z z') := by
  obtain ⟨a1, a2, a3, a4, a5, a6⟩ := h
  obtain ⟨b1, b2, b3, b4, b5, b6⟩ := h'
  unfold lexC
  refine ⟨?_, ?_, ?_, ?_, ?_, ?_⟩ <;> (split <;> split <;> split <;> omega)
theorem lexC_neg (a b : Int) : lexC (-a) (-b) = -(lexC a b) := by
  unfold lexC
  split <;> split <;> omega
theorem compareInt_neg (a b : Int) : Lib.compareInt b a = -(Lib.compareInt a b) := by
  rcases Int.lt_trichotomy a b with h | h | h
  · rw [compareInt_lt h, compareInt_gt h]; rfl
  · rw [compareInt_zero.2 h, compareInt_zero.2 h.symm]; rfl
  · rw [compareInt_lt h, compareInt_gt h]
theorem compareInt_spec (a b : Int) : (a < b ∧ Lib.compareInt a b = -1) ∨ (a = b ∧ Lib.compareInt a b = 0) ∨ (b < a ∧ Lib.compareInt a b = 1) := by
  rcases Int.lt_trichotomy a b with h | h | h
  · exact .inl ⟨h, compareInt_lt h⟩
  · exact .inr (.inl ⟨h, compareInt_zero.2 h⟩)
  · exact .inr (.inr ⟨h, compareInt_gt h⟩)
theorem compareInt_Tr (a b c : Int) : Tr (Lib.compareInt a b) (Lib.compareInt b c) (Lib.compareInt a c) := by
  have h := compareInt_spec a b
  have h' := compareInt_spec b c
  have h2 := compareInt_spec a c
  constructor <;> omega
/-- The order of two bytes. -/
def cB (a b : UInt8) : Int := Lib.compareInt a.toNat b.toNat
theorem compareBytes_cons (a b : UInt8) (l m : List UInt8) : Lib.compareBytes (a :: l) (b :: m) = lexC (cB a b) (Lib.compareBytes l m) := by
  rw [show Lib.compareBytes (a :: l) (b :: m) = (if a < b then (-1 : Int) else if b < a then 1 else Lib.compareBytes l m) from rfl]
  unfold lexC cB
  by_cases h1 : a < b
  · have h2 : (a.toNat : Int) < b.toNat := by exact_mod_cast UInt8.lt_iff_toNat_lt.1 h1
    rw [if_pos h1, compareInt_lt h2]
    rfl
  · rw [if_neg h1]
    by_cases h2 : b < a
    · have h3 : (b.toNat : Int) < a.toNat := by exact_mod_cast UInt8.lt_iff_toNat_lt.1 h2
      rw [if_pos h2, compareInt_gt h3]
      rfl
    · rw [if_neg h2]
      have e : a.toNat = b.toNat := by
        have g1 : ¬ a.toNat < b.toNat := fun h => h1 (UInt8.lt_iff_toNat_lt.2 h)
        have g2 : ¬ b.toNat < a.toNat := fun h => h2 (UInt8.lt_iff_toNat_lt.2 h)
        omega
      rw [compareInt_zero.2 (by omega), if_neg (by simp)]
theorem compareBytes_neg : ∀ l m : List UInt8, Lib.compareBytes m l = -(Lib.compareBytes l m)
  | [], [] => rfl
  | [], _ :: _ => rfl
  | _ :: _, [] => rfl
  | a :: l, b :: m => by rw [compareBytes_cons, compareBytes_cons, compareBytes_neg l m, ← lexC_neg]; congr 1; exact compareInt_neg _ _
theorem compareBytes_Tr : ∀ l m n : List UInt8, Tr (Lib.compareBytes l m) (Lib.compareBytes m n) (Lib.compareBytes l n)
  | [], [], [] => by simp only [Lib.compareBytes]; constructor <;> omega
  | [], [], _ :: _ => by simp only [Lib.compareBytes]; constructor <;> omega
  | [], _ :: _, [] => by simp only [Lib.compareBytes]; constructor <;> omega
  | _ :: _, [], [] => by simp only [Lib.compareBytes]; constructor <;> omega
  | [], b :: m, c :: n => by
    have h : Lib.compareBytes [] (b :: m) = -1 := rfl
    have h' : Lib.compareBytes [] (c :: n) = -1 := rfl
    rw [h, h']
    constructor <;> omega
  | _ :: _, [], _ :: _ => by
    simp only [Lib.compareBytes]
    constructor <;> omega
  | a :: l, b :: m, [] => by
    have h : Lib.compareBytes (b :: m) [] = 1 := rfl
    have h' : Lib.compareBytes (a :: l) [] = 1 := rfl
    rw [h, h']
    constructor <;> omega
  | a :: l, b :: m, c :: n => by
    rw [compareBytes_cons, compareBytes_cons, compareBytes_cons]
    exact (compareInt_Tr _ _ _).lex (compareBytes_Tr l m n)
theorem cS_bytes (a b : ByteArray) : cS a b = Lib.compareBytes a.toList b.toList := by
  have h : ∀ l m : List UInt8, (if Op.bytesLess l m = true then (-1 : Int) else if (l == m) = true then 0 else 1) = Lib.compareBytes l m := by
    intro l
    induction l with
    | nil => intro m; cases m <;> rfl
    | cons x l ih =>
      intro m
      cases m with
      | nil => rfl
      | cons y m =>
        have := ih m
        simp only [Op.bytesLess, Lib.compareBytes]
        by_cases h1 : x < y
        · simp [h1]
        · by_cases h2 : y < x
          · have hne : x ≠ y := fun e => by subst e; exact h1 h2
            simp [h1, h2, hne]
          · have e : x = y := UInt8.toNat_inj.1 (by
              have g1 : ¬ x.toNat < y.toNat := fun h => h1 (UInt8.lt_iff_toNat_lt.2 h)
              have g2 : ¬ y.toNat < x.toNat := fun h => h2 (UInt8.lt_iff_toNat_lt.2 h)
              omega)
            subst e
            simp only [h1, if_false, decide_false, Bool.false_or, beq_self_eq_true, Bool.true_and, List.cons_beq_cons]
            exact this
  exact h a.toList b.toList
theorem cS_neg (a b : ByteArray) : cS b a = -(cS a b) := by rw [cS_bytes, cS_bytes]; exact compareBytes_neg _ _
theorem cS_Tr (a b c : ByteArray) : Tr (cS a b) (cS b c) (cS a c) := by rw [cS_bytes, cS_bytes, cS_bytes]; exact compareBytes_Tr _ _ _
theorem cK_cons (a b : ByteArray) (l m : List ByteArray) : cK (a :: l) (b :: m) = lexC (cS a b) (cK l m) := rfl
theorem cK_neg : ∀ l m : List ByteArray, cK m l = -(cK l m)
  | [], [] => rfl
  | [], _ :: _ => rfl
  | _ :: _, [] => rfl
  | a :: l, b :: m => by rw [cK_cons, cK_cons, cK_neg l m, cS_neg a b, lexC_neg]
theorem cK_Tr : ∀ l m n : List ByteArray, Tr (cK l m) (cK m n) (cK l n)
  | [], [], [] => by simp only [cK]; constructor <;> omega
  | [], [], _ :: _ => by simp only [cK]; constructor <;> omega
  | [], _ :: _, [] => by simp only [cK]; constructor <;> omega
  | _ :: _, [], [] => by simp only [cK]; constructor <;> omega
  | [], b :: m, c :: n => by
    have h : cK [] (b :: m) = -1 := rfl
    have h' : cK [] (c :: n) = -1 := rfl
    rw [h, h']
    constructor <;> omega
  | _ :: _, [], _ :: _ => by
    simp only [cK]
    constructor <;> omega
  | a :: l, b :: m, [] => by
    have h : cK (b :: m) [] = 1 := rfl
    have h' : cK (a :: l) [] = 1 := rfl
    rw [h, h']
    constructor <;> omega
  | a :: l, b :: m, c :: n => by
    rw [cK_cons, cK_cons, cK_cons]
    exact (cS_Tr _ _ _).lex (cK_Tr l m n)
/-- The order of two truths. -/
def cT (a b : Bool) : Int := if a = b then 0 else if b = true then -1 else 1
theorem cT_neg (a b : Bool) : cT b a = -(cT a b) := by cases a <;> cases b <;> decide
theorem cT_Tr (a b c : Bool) : Tr (cT a b) (cT b c) (cT a c) := by cases a <;> cases b <;> cases c <;> (simp only [cT]; constructor <;> simp)
theorem cF_lex (k : Int) (bo : Bool) (i : Int) (t : ByteArray) (ks : List ByteArray) (k' : Int) (bo' : Bool) (i' : Int) (t' : ByteArray) (ks' : List ByteArray) :
    cF k bo i t ks k' bo' i' t' ks' = lexC (Lib.compareInt k k') (lexC (cT bo bo') (lexC (Lib.compareInt i i') (lexC (Lib.compareBytes t.data.toList t'.data.toList) (cK ks ks')))) := by
  unfold cF c3 lexC cT
  by_cases h : bo = bo'
  · simp [h]
  · simp only [if_neg h]
    by_cases h2 : bo' = true
    · simp [h2]
    · simp [h2]
theorem cF_neg (k : Int) (bo : Bool) (i : Int) (t : ByteArray) (ks : List ByteArray) (k' : Int) (bo' : Bool) (i' : Int) (t' : ByteArray) (ks' : List ByteArray) :
    cF k' bo' i' t' ks' k bo i t ks = -(cF k bo i t ks k' bo' i' t' ks') := by
  rw [cF_lex, cF_lex, compareInt_neg k k', cT_neg bo bo', compareInt_neg i i', compareBytes_neg t.data.toList, cK_neg ks ks', lexC_neg, lexC_neg, lexC_neg, lexC_neg]
theorem cF_Tr (k : Int) (bo : Bool) (i : Int) (t : ByteArray) (ks : List ByteArray) (k' : Int) (bo' : Bool) (i' : Int) (t' : ByteArray) (ks' : List ByteArray) (k2 : Int) (bo2 : Bool) (i2 : Int) (t2 : ByteArray) (ks2 : List ByteArray) :
    Tr (cF k bo i t ks k' bo' i' t' ks') (cF k' bo' i' t' ks' k2 bo2 i2 t2 ks2) (cF k bo i t ks k2 bo2 i2 t2 ks2) := by
  rw [cF_lex, cF_lex, cF_lex]
  exact (compareInt_Tr _ _ _).lex ((cT_Tr _ _ _).lex ((compareInt_Tr _ _ _).lex ((compareBytes_Tr _ _ _).lex (cK_Tr _ _ _))))
namespace Vals
theorem cmp_cons (k : Int) (bo : Bool) (i : Int) (t : ByteArray) (it : Vals) (ks : List ByteArray) (r : Vals) (k' : Int) (bo' : Bool) (i' : Int) (t' : ByteArray) (it' : Vals) (ks' : List ByteArray) (r' : Vals) :
    (Vals.cons k bo i t it ks r).cmp (.cons k' bo' i' t' it' ks' r') = lexC (cF k bo i t ks k' bo' i' t' ks') (lexC (it.cmp it') (r.cmp r')) := rfl
theorem cmp_neg : ∀ a b : Vals, b.cmp a = -(a.cmp b)
  | .nil, .nil => rfl
  | .nil, .cons .. => rfl
  | .cons .., .nil => rfl
  | .cons k bo i t it ks r, .cons k' bo' i' t' it' ks' r' => by
    rw [cmp_cons, cmp_cons, cmp_neg it it', cmp_neg r r', cF_neg k bo i t ks, lexC_neg, lexC_neg]
theorem cmp_Tr : ∀ a b c : Vals, Tr (a.cmp b) (b.cmp c) (a.cmp c)
  | .nil, .nil, .nil => by simp only [cmp]; constructor <;> omega
  | .nil, .nil, .cons .. => by simp only [cmp]; constructor <;> omega
  | .nil, .cons .., .nil => by simp only [cmp]; constructor <;> omega
  | .cons .., .nil, .nil => by simp only [cmp]; constructor <;> omega
  | .nil, .cons k' bo' i' t' it' ks' r', .cons k2 bo2 i2 t2 it2 ks2 r2 => by
    have h : Vals.nil.cmp (.cons k' bo' i' t' it' ks' r') = -1 := rfl
    have h' : Vals.nil.cmp (.cons k2 bo2 i2 t2 it2 ks2 r2) = -1 := rfl
    rw [h, h']
    constructor <;> omega
  | .cons .., .nil, .cons .. => by
    simp only [cmp]
    constructor <;> omega
  | .cons k bo i t it ks r, .cons k' bo' i' t' it' ks' r', .nil => by
    have h : (Vals.cons k' bo' i' t' it' ks' r').cmp .nil = 1 := rfl
    have h' : (Vals.cons k bo i t it ks r).cmp .nil = 1 := rfl
    rw [h, h']
    constructor <;> omega
  | .cons k bo i t it ks r, .cons k' bo' i' t' it' ks' r', .cons k2 bo2 i2 t2 it2 ks2 r2 => by
    rw [cmp_cons, cmp_cons, cmp_cons]
    exact (cF_Tr ..).lex ((cmp_Tr it it' it2).lex (cmp_Tr r r' r2))
end Vals
theorem cOne_neg (k : Int) (bo : Bool) (i : Int) (t : ByteArray) (it : Vals) (ks : List ByteArray) (k' : Int) (bo' : Bool) (i' : Int) (t' : ByteArray) (it' : Vals) (ks' : List ByteArray) :
    cOne k' bo' i' t' it' ks' k bo i t it ks = -(cOne k bo i t it ks k' bo' i' t' it' ks') := by
  show lexC _ _ = -(lexC _ _)
  rw [cF_neg k bo i t ks, Vals.cmp_neg it it', lexC_neg]
theorem cOne_Tr (k : Int) (bo : Bool) (i : Int) (t : ByteArray) (it : Vals) (ks : List ByteArray) (k' : Int) (bo' : Bool) (i' : Int) (t' : ByteArray) (it' : Vals) (ks' : List ByteArray) (k2 : Int) (bo2 : Bool) (i2 : Int) (t2 : ByteArray) (it2 : Vals) (ks2 : List ByteArray) :
    Tr (cOne k bo i t it ks k' bo' i' t' it' ks') (cOne k' bo' i' t' it' ks' k2 bo2 i2 t2 it2 ks2) (cOne k bo i t it ks k2 bo2 i2 t2 it2 ks2) :=
  (cF_Tr ..).lex (Vals.cmp_Tr it it' it2)
theorem cOne_self (k : Int) (bo : Bool) (i : Int) (t : ByteArray) (it : Vals) (ks : List ByteArray) : cOne k bo i t it ks k bo i t it ks = 0 := by
  have := cOne_neg k bo i t it ks k bo i t it ks
  omega
end Go.Proofs.YtohkdckllmmfhaaGreatDoor
