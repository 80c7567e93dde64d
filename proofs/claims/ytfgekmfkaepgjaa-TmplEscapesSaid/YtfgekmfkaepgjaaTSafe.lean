/- DERIVED. Whether an address has no scheme that can do harm: isSafe and SafeScheme say the same. Condition: at most 200000 bytes. -/
import Derived.Test.YtfgekmfkaepgjaaTLower
namespace Go.Proofs.Ytfgekmfkaepgjaa
set_option linter.unusedVariables false
open Go.RowKit
def c4 : List UInt8 := [58, 47, 63, 35]
def c3 : List UInt8 := [47, 63, 35]
theorem any_yes {l chars : List UInt8} {b : UInt8} (h : chars.contains b = true) : Lib.indexAny (b :: l) chars = 0 := by
  unfold Lib.indexAny
  rw [if_pos h]
theorem any_no {l chars : List UInt8} {b : UInt8} (h : chars.contains b = false) : Lib.indexAny (b :: l) chars = if Lib.indexAny l chars = -1 then -1 else Lib.indexAny l chars + 1 := by
  rw [Lib.indexAny]
  rw [if_neg (by rw [h]; decide)]
  simp
theorem byte_yes {l : List UInt8} {b : UInt8} : Lib.indexByte (b :: l) b = 0 := by rw [← Lib.indexAny_one]; exact any_yes (by simp)
theorem byte_no {l : List UInt8} {b c : UInt8} (h : b ≠ c) : Lib.indexByte (b :: l) c = if Lib.indexByte l c = -1 then -1 else Lib.indexByte l c + 1 := by
  rw [← Lib.indexAny_one, ← Lib.indexAny_one]
  exact any_no (by simpa using h)
theorem byte_ge (l : List UInt8) (c : UInt8) : -1 ≤ Lib.indexByte l c := by rw [← Lib.indexAny_one]; exact Lib.indexAny_ge _ l
/-- Where the first of the four bytes is. -/
inductive Four (l : List UInt8) : Prop where
  | none : Lib.indexAny l c4 = -1 → Lib.indexByte l 58 = -1 → Four l
  | colon (i : Nat) : l[i]? = some 58 → Lib.indexAny l c4 = i → Lib.indexByte l 58 = i → ¬ (0 ≤ Lib.indexAny l c3 ∧ Lib.indexAny l c3 < i) → Four l
  | other (i : Nat) (x : UInt8) : l[i]? = some x → x ≠ 58 → Lib.indexAny l c4 = i → Lib.indexAny l c3 = i → (Lib.indexByte l 58 < 0 ∨ (i : Int) < Lib.indexByte l 58) → Four l
theorem four : ∀ l : List UInt8, Four l
  | [] => .none rfl rfl
  | b :: r => by
    have hg := byte_ge r 58
    have hg3 := Lib.indexAny_ge c3 r
    by_cases h58 : b = 58
    · subst h58
      exact .colon 0 rfl (any_yes (by decide)) byte_yes (by omega)
    · have hB := byte_no (l := r) h58
      by_cases h3 : c3.contains b = true
      · have h4 : c4.contains b = true := by
          unfold c4
          rw [List.contains_cons]
          show (b == 58 || c3.contains b) = true
          rw [h3, Bool.or_true]
        refine .other 0 b rfl h58 (any_yes h4) (any_yes h3) ?_
        rw [hB]
        split <;> omega
      · have h3' : c3.contains b = false := by simpa using h3
        have h4 : c4.contains b = false := by
          unfold c4
          rw [List.contains_cons]
          show (b == 58 || c3.contains b) = false
          rw [h3', Bool.or_false]
          simpa using h58
        have e3 := any_no (l := r) h3'
        have e4 := any_no (l := r) h4
        cases four r with
        | none a1 a2 => exact .none (by rw [e4, if_pos a1]) (by rw [hB, if_pos a2])
        | colon i a0 a1 a2 a3 =>
          refine .colon (i + 1) (by simpa using a0) (by rw [e4, if_neg (by omega), a1]; rfl) (by rw [hB, if_neg (by omega), a2]; rfl) ?_
          rw [e3]
          split <;> (intro h; omega)
        | other i x a0 a1 a2 a3 a4 =>
          refine .other (i + 1) x (by simpa using a0) a1 (by rw [e4, if_neg (by omega), a2]; rfl) (by rw [e3, if_neg (by omega), a3]; rfl) ?_
          rw [hB]
          split <;> omega
def okS (y : ByteArray) : Bool := (y.toList == [104, 116, 116, 112]) || (y.toList == [104, 116, 116, 112, 115]) || (y.toList == [109, 97, 105, 108, 116, 111])
inductive SafeIs (s : ByteArray) : Bool → Prop where
  | none : Lib.indexAny s.data.toList c4 = -1 → Lib.indexByte s.data.toList 58 = -1 → SafeIs s true
  | colon (i : Nat) (hi : i < s.size) : s[i] = 58 → Lib.indexAny s.data.toList c4 = i → Lib.indexByte s.data.toList 58 = i → ¬ (0 ≤ Lib.indexAny s.data.toList c3 ∧ Lib.indexAny s.data.toList c3 < i) → SafeIs s (okS ⟨(lowL (s.extract 0 i).data.toList).toArray⟩)
  | other (i : Nat) (hi : i < s.size) : s[i] ≠ 58 → Lib.indexAny s.data.toList c4 = i → Lib.indexAny s.data.toList c3 = i → (Lib.indexByte s.data.toList 58 < 0 ∨ (i : Int) < Lib.indexByte s.data.toList 58) → SafeIs s true
theorem at_of {s : ByteArray} {i : Nat} {x : UInt8} (h : s.data.toList[i]? = some x) : ∃ hi : i < s.size, s[i] = x := by
  have hi : i < s.size := by
    have := (List.getElem?_eq_some_iff.1 h).1
    simpa using this
  refine ⟨hi, ?_⟩
  have := Lib.data_getElem? s i hi
  rw [h] at this
  exact (Option.some.inj this).symm
theorem safeIs_any (s : ByteArray) : ∃ b, SafeIs s b := by
  cases four s.data.toList with
  | none a1 a2 => exact ⟨_, .none a1 a2⟩
  | colon i a0 a1 a2 a3 =>
    obtain ⟨hi, hx⟩ := at_of a0
    exact ⟨_, .colon i hi hx a1 a2 a3⟩
  | other i x a0 a1 a2 a3 a4 =>
    obtain ⟨hi, hx⟩ := at_of a0
    exact ⟨_, .other i hi (by rw [hx]; exact a1) a2 a3 a4⟩
theorem ascii4 : AsciiB ⟨#[58, 47, 63, 35]⟩ := fun j b h => by
  have hj : j = 0 ∨ j = 1 ∨ j = 2 ∨ j = 3 := by
    have := (List.getElem?_eq_some_iff.1 h).1
    have h4 : (ByteArray.mk #[58, 47, 63, 35]).data.toList.length = 4 := rfl
    omega
  rcases hj with rfl | rfl | rfl | rfl <;> (have h2 := Option.some.inj h; subst h2; decide)
theorem ascii3 : AsciiB ⟨#[47, 63, 35]⟩ := fun j b h => by
  have hj : j = 0 ∨ j = 1 ∨ j = 2 := by
    have := (List.getElem?_eq_some_iff.1 h).1
    have h4 : (ByteArray.mk #[47, 63, 35]).data.toList.length = 3 := rfl
    omega
  rcases hj with rfl | rfl | rfl <;> (have h2 := Option.some.inj h; subst h2; decide)
theorem any4 (s : ByteArray) (w : World) (hs : s.size ≤ 200000) :
    Calls Try.prog 38 #[.string s, .string ⟨#[58, 47, 63, 35]⟩] w fun e w' => e = .returned (.int .i64 (Lib.indexAny s.data.toList c4)) ∧ Below w.heap.size w w' :=
  indexAny_any s ⟨#[58, 47, 63, 35]⟩ w (by decide) (by decide) (by omega) ascii4
theorem any3 (s : ByteArray) (w : World) (hs : s.size ≤ 200000) :
    Calls Try.prog 38 #[.string s, .string ⟨#[47, 63, 35]⟩] w fun e w' => e = .returned (.int .i64 (Lib.indexAny s.data.toList c3)) ∧ Below w.heap.size w w' :=
  indexAny_any s ⟨#[47, 63, 35]⟩ w (by decide) (by decide) (by omega) ascii3

set_option maxRecDepth 100000 in
set_option maxHeartbeats 1000000 in
theorem isSafe_any (s : ByteArray) (v : Bool) (w : World) (hs : s.size ≤ 200000) (h : SafeIs s v) :
    Calls Try.prog 14 #[.string s] w fun e w' => e = .returned (.bool v) ∧ Below w.heap.size w w' := by
  have h4 := any4 s w hs
  cases h with
  | none a1 a2 =>
    rw [a1] at h4
    have H4 := Lib.hid h4; clear h4 a1 a2
    go_enter Try.func14, Try.ntmps14
    go_wp2_with fail
    refine H4.out.mono ?_
    rintro e w1 ⟨rfl, hb1⟩
    go_wp2_with fail
    go_ret
    exact ⟨rfl, hb1⟩
  | other i hi a0 a1 a2 a3 =>
    rw [a1] at h4
    have H4 := Lib.hid h4; clear h4 a1 a2 a3
    obtain ⟨x, hx⟩ : ∃ x : UInt8, s[i]'hi = x := ⟨_, rfl⟩
    rw [hx] at a0
    have hne : ((x.toNat : Int) != 58) = true := by
      have : ¬ x.toNat = 58 := fun e => a0 (UInt8.toNat.inj e)
      simp; omega
    clear a0
    go_enter Try.func14, Try.ntmps14
    go_wp2_with fail
    refine H4.out.mono ?_
    rintro e w1 ⟨rfl, hb1⟩
    go_wp2_with fail
    go_ret
    exact ⟨rfl, hb1⟩
  | colon i hi a0 a1 a2 a3 =>
    rw [a1] at h4
    have H4 := Lib.hid h4; clear h4 a1 a2 a3
    have HL := Lib.hid (fun wX => lower_any (s.extract 0 i) wX (by rw [ByteArray.size_extract]; omega))
    generalize (ByteArray.mk (lowL (s.extract 0 i).data.toList).toArray) = y at HL
    obtain ⟨r, hr⟩ : ∃ r, okS y = r := ⟨_, rfl⟩
    rw [hr]
    unfold okS at hr
    have q1 : (i : Int) ≤ (s.size : Int) := by omega
    cases b1 : (y.toList == [104, 116, 116, 112]) <;> cases b2 : (y.toList == [104, 116, 116, 112, 115]) <;> cases b3 : (y.toList == [109, 97, 105, 108, 116, 111]) <;>
    (rw [b1, b2, b3] at hr
     have HR := Lib.hid hr; clear hr
     go_enter Try.func14, Try.ntmps14
     go_wp2_with fail
     refine H4.out.mono ?_
     rintro e w1 ⟨rfl, hb1⟩
     go_wp2_with fail
     refine (HL.out _).mono ?_
     rintro e w2 ⟨rfl, hb2⟩
     go_wp2_with fail
     go_ret
     exact ⟨by rw [← HR.out]; rfl, hb1.trans (hb2.mono hb1.size)⟩)

set_option maxRecDepth 100000 in
set_option maxHeartbeats 1000000 in
theorem safeScheme_any (s : ByteArray) (v : Bool) (w : World) (hs : s.size ≤ 200000) (h : SafeIs s v) :
    Calls Try.prog 23 #[.string s] w fun e w' => e = .returned (.bool v) ∧ Below w.heap.size w w' := by
  have h3 := any3 s w hs
  have hB := fun wX => Try.strings_IndexByte s 58 wX
  have hback : ((58 : Int)).toNat.toUInt8 = 58 := rfl
  rw [hback] at hB
  clear hback
  cases h with
  | none a1 a2 =>
    rw [a2] at hB
    have H3 := Lib.hid h3; clear h3 a1 a2
    have HB := Lib.hid hB; clear hB
    generalize Lib.indexAny s.data.toList c3 = o at H3
    go_enter Try.func23, Try.ntmps23
    go_wp2_with fail
    refine (HB.out _).mono ?_
    rintro e w0 ⟨rfl, hw⟩
    rw [hw]
    clear hw w0
    dsimp only
    go_wp2_with fail
    refine H3.out.mono ?_
    rintro e w1 ⟨rfl, hb1⟩
    go_wp2_with fail
    go_ret
    exact ⟨rfl, hb1⟩
  | other i hi a0 a1 a2 a3 =>
    rw [a2] at h3
    have H3 := Lib.hid h3; clear h3 a1 a2 a0
    generalize Lib.indexByte s.data.toList 58 = o at hB a3
    have HB := Lib.hid hB; clear hB
    rcases a3 with a3 | a3
    · go_enter Try.func23, Try.ntmps23
      go_wp2_with fail
      refine (HB.out _).mono ?_
      rintro e w0 ⟨rfl, hw⟩
      rw [hw]
      clear hw w0
      dsimp only
      go_wp2_with fail
      refine H3.out.mono ?_
      rintro e w1 ⟨rfl, hb1⟩
      go_wp2_with fail
      go_ret
      exact ⟨rfl, hb1⟩
    · have a4 : ¬ o < 0 := by omega
      go_enter Try.func23, Try.ntmps23
      go_wp2_with fail
      refine (HB.out _).mono ?_
      rintro e w0 ⟨rfl, hw⟩
      rw [hw]
      clear hw w0
      dsimp only
      go_wp2_with fail
      refine H3.out.mono ?_
      rintro e w1 ⟨rfl, hb1⟩
      go_wp2_with fail
      go_ret
      exact ⟨rfl, hb1⟩
  | colon i hi a0 a1 a2 a3 =>
    rw [a2] at hB
    have HB := Lib.hid hB; clear hB a1 a2
    generalize Lib.indexAny s.data.toList c3 = o at h3 a3
    have H3 := Lib.hid h3; clear h3
    have HL := Lib.hid (fun wX => lowerR_any (s.extract 0 i) wX (by rw [ByteArray.size_extract]; omega))
    generalize (ByteArray.mk (lowL (s.extract 0 i).data.toList).toArray) = y at HL
    obtain ⟨r, hr⟩ : ∃ r, okS y = r := ⟨_, rfl⟩
    rw [hr]
    unfold okS at hr
    have q1 : (i : Int) ≤ (s.size : Int) := by omega
    by_cases ho : 0 ≤ o
    · have ho2 : ¬ o < (i : Int) := fun h => a3 ⟨ho, h⟩
      clear a3
      cases b1 : (y.toList == [104, 116, 116, 112]) <;> cases b2 : (y.toList == [104, 116, 116, 112, 115]) <;> cases b3 : (y.toList == [109, 97, 105, 108, 116, 111]) <;>
      (rw [b1, b2, b3] at hr
       have HR := Lib.hid hr; clear hr
       go_enter Try.func23, Try.ntmps23
       go_wp2_with fail
       refine (HB.out _).mono ?_
       rintro e w0 ⟨rfl, hw⟩
       rw [hw]
       clear hw w0
       dsimp only
       go_wp2_with fail
       refine H3.out.mono ?_
       rintro e w1 ⟨rfl, hb1⟩
       go_wp2_with fail
       refine (HL.out _).mono ?_
       rintro e w2 ⟨rfl, hb2⟩
       go_wp2_with fail
       go_ret
       exact ⟨by rw [← HR.out]; rfl, hb1.trans (hb2.mono hb1.size)⟩)
    · clear a3
      cases b1 : (y.toList == [104, 116, 116, 112]) <;> cases b2 : (y.toList == [104, 116, 116, 112, 115]) <;> cases b3 : (y.toList == [109, 97, 105, 108, 116, 111]) <;>
      (rw [b1, b2, b3] at hr
       have HR := Lib.hid hr; clear hr
       go_enter Try.func23, Try.ntmps23
       go_wp2_with fail
       refine (HB.out _).mono ?_
       rintro e w0 ⟨rfl, hw⟩
       rw [hw]
       clear hw w0
       dsimp only
       go_wp2_with fail
       refine H3.out.mono ?_
       rintro e w1 ⟨rfl, hb1⟩
       go_wp2_with fail
       refine (HL.out _).mono ?_
       rintro e w2 ⟨rfl, hb2⟩
       go_wp2_with fail
       go_ret
       exact ⟨by rw [← HR.out]; rfl, hb1.trans (hb2.mono hb1.size)⟩)
end Go.Proofs.Ytfgekmfkaepgjaa
