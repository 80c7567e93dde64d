/- DERIVED. What list.PartAddress and the reference's AddressOfPart return. Conditions: the library's variables MaxLen and of powers of ten are as the program's text lays them; strings of at most 2^21 bytes. -/
import Derived.Test.YtkkimcefjelnbaaDoorTerm
import Derived.Lib.ItoaLen
namespace Go.Proofs.YtkkimcefjelnbaaDoor
set_option linter.unusedVariables false
open Go.RowKit
def itoaS (x : Int) : ByteArray := ⟨(Lib.itoa x).toArray⟩
theorem itoaS_size (x : Int) (h0 : -9223372036854775808 ≤ x) (h1 : x ≤ 9223372036854775807) : (itoaS x).size ≤ 21 := by
  have := Lib.itoa_length_le x h0 h1
  show (Lib.itoa x).toArray.size ≤ 21
  simpa using this
theorem Vars.below {w w' : World} (h : Vars w) (hb : Below w.heap.size w w') : Vars w' := ⟨h.1.below hb, Lib.tabBelow_of_tabIs (h.2 w' hb)⟩
theorem itoaS_any (x : Int) (w : World) (hv : Vars w) (h0 : -9223372036854775808 ≤ x) (h1 : x ≤ 9223372036854775807) :
    Calls Tryd.prog 14 #[.int .i64 x] w fun e w' => e = .returned (.string (itoaS x)) ∧ Below w.heap.size w w' := by
  refine (Tryd.strconv_Itoa x h0 h1 w hv.2.here).mono ?_
  rintro e w' ⟨rfl, k, os, rfl⟩
  exact ⟨rfl, Lib.below_grow _ _ (Nat.le_refl _) _ _⟩
def pageS : ByteArray := ⟨#[112, 97, 103, 101, 47]⟩
def partS (b : ByteArray) (x : Int) : ByteArray := b ++ pageS ++ itoaS x ++ slashS
theorem partS_assoc (b : ByteArray) (x : Int) : b ++ (pageS ++ itoaS x ++ slashS) = partS b x := by
  unfold partS
  rw [ByteArray.append_assoc, ByteArray.append_assoc, ByteArray.append_assoc]
theorem partS_size (b : ByteArray) (x : Int) (hb : b.size ≤ 140737488351232) (h0 : -9223372036854775808 ≤ x) (h1 : x ≤ 9223372036854775807) : (partS b x).size ≤ 140737488351259 := by
  have := itoaS_size x h0 h1
  unfold partS
  rw [ByteArray.size_append, ByteArray.size_append, ByteArray.size_append]
  have h2 : pageS.size = 5 := rfl
  have h3 : slashS.size = 1 := rfl
  omega
def partOut (b : ByteArray) (x : Int) : Value :=
  if taddrB b = false then .tuple #[.string ⟨#[]⟩, .int .i64 3] else if x < 1 ∨ 2000 < x then .tuple #[.string ⟨#[]⟩, .int .i64 2] else if x = 1 then .tuple #[.string b, .int .i64 0] else addrOut (partS b x)
set_option maxRecDepth 100000 in
set_option maxHeartbeats 800000 in
theorem partAddress_any (b : ByteArray) (x : Int) (w : World) (hv : Vars w) (hb : b.size ≤ 140737488351232) (h0 : -9223372036854775808 ≤ x) (h1 : x ≤ 9223372036854775807) :
    Calls Tryd.prog 6 #[.string b, .int .i64 x] w fun e w' => e = .returned (partOut b x) ∧ Below w.heap.size w w' := by
  have g1 := checkAddress_any b w hv.1 (by omega)
  unfold addrErr at g1
  cases ha : taddrB b with
  | false =>
    have HO := Lib.hid (show partOut b x = .tuple #[.string ⟨#[]⟩, .int .i64 3] by unfold partOut; rw [if_pos ha])
    rw [ha] at g1
    have G1 := Lib.hid g1
    clear g1 hv ha
    go_enter Tryd.func6, Tryd.ntmps6
    go_wp2_with fail
    refine G1.out.mono ?_
    rintro e w1 ⟨rfl, hb1⟩
    go_wp2_with fail
    go_ret2
    exact ⟨by rw [HO.out]; rfl, hb1⟩
  | true =>
    rw [ha] at g1
    have G1 := Lib.hid g1
    have ho : partOut b x = if x < 1 ∨ 2000 < x then .tuple #[.string ⟨#[]⟩, .int .i64 2] else if x = 1 then .tuple #[.string b, .int .i64 0] else addrOut (partS b x) := by
      unfold partOut; rw [if_neg (by rw [ha]; simp)]
    by_cases hr : x < 1
    · have HO := Lib.hid (ho.trans (if_pos (.inl hr)))
      clear g1 hv ha ho
      go_enter Tryd.func6, Tryd.ntmps6
      go_wp2_with fail
      refine G1.out.mono ?_
      rintro e w1 ⟨rfl, hb1⟩
      go_wp2_with fail
      go_ret2
      exact ⟨by rw [HO.out]; rfl, hb1⟩
    · by_cases hr2 : 2000 < x
      · have HO := Lib.hid (ho.trans (if_pos (.inr hr2)))
        clear g1 hv ha ho
        go_enter Tryd.func6, Tryd.ntmps6
        go_wp2_with fail
        refine G1.out.mono ?_
        rintro e w1 ⟨rfl, hb1⟩
        go_wp2_with fail
        go_ret2
        exact ⟨by rw [HO.out]; rfl, hb1⟩
      · have ho2 := ho.trans (if_neg (by omega))
        by_cases h2 : x = 1
        · have HO := Lib.hid (ho2.trans (if_pos h2))
          have e1 : (x == 1) = true := by simpa using h2
          clear g1 hv ha ho ho2
          subst h2
          go_enter Tryd.func6, Tryd.ntmps6
          go_wp2_with fail
          refine G1.out.mono ?_
          rintro e w1 ⟨rfl, hb1⟩
          go_wp2_with fail
          go_ret2
          exact ⟨by rw [HO.out]; rfl, hb1⟩
        · have ho3 := ho2.trans (if_neg h2)
          have hr' : 1 ≤ x := by omega
          have hr2' : x ≤ 2000 := by omega
          clear hr hr2
          have e1 : (x == 1) = false := by simpa using h2
          have hsz := partS_size b x hb h0 h1
          have g2 := fun wX (hX : Below w.heap.size w wX) => itoaS_any x wX (hv.below hX) h0 h1
          have g3 := fun wX (hX : Below w.heap.size w wX) => checkedAddress_any (partS b x) wX (hv.1.below hX) (by omega)
          have hi := itoaS_size x h0 h1
          unfold addrOut at g3 ho3
          unfold partS pageS slashS at g3 ho3
          generalize itoaS x = t at g2 g3 ho3 hi
          have d1 : decide (x < 1) = false := by simp; omega
          have d2 : decide (2000 < x) = false := by simp; omega
          have G2 := Lib.hid g2
          clear hv ha ho ho2 g1 g2 hsz
          cases hz : taddrB (b ++ ⟨#[112, 97, 103, 101, 47]⟩ ++ t ++ ⟨#[47]⟩) <;> (
            rw [hz] at g3 ho3
            have G3 := Lib.hid g3
            have HO := Lib.hid ho3
            clear g3 ho3 hz
            go_enter Tryd.func6, Tryd.ntmps6
            go_wp2_with fail
            refine G1.out.mono ?_
            rintro e w1 ⟨rfl, hb1⟩
            go_wp2_with fail
            refine (G2.out _ hb1).mono ?_
            rintro e w2 ⟨rfl, hb2⟩
            have hb12 := hb1.trans (hb2.mono hb1.size)
            go_wp2_with fail
            refine (G3.out _ hb12).mono ?_
            rintro e w3 ⟨rfl, hb3⟩
            go_wp2_with fail
            go_ret2
            exact ⟨by rw [HO.out]; rfl, hb12.trans (hb3.mono hb12.size)⟩)
set_option maxRecDepth 100000 in
set_option maxHeartbeats 800000 in
theorem addressOfPart_any (b : ByteArray) (x : Int) (w : World) (hv : Vars w) (hb : b.size ≤ 140737488351232) (h0 : -9223372036854775808 ≤ x) (h1 : x ≤ 9223372036854775807) :
    Calls Tryd.prog 7 #[.string b, .int .i64 x] w fun e w' => e = .returned (partOut b x) ∧ Below w.heap.size w w' := by
  have g1 := fun wX (hX : Below w.heap.size w wX) => rAddr_any b wX (hv.1.below hX) (by omega)
  by_cases h2 : x = 1
  · have e1 : (x != 1) = false := by simpa using h2
    cases ha : taddrB b <;> (
      have HO := Lib.hid (show partOut b x = if taddrB b = false then .tuple #[.string ⟨#[]⟩, .int .i64 3] else .tuple #[.string b, .int .i64 0] by unfold partOut; rw [if_neg (show ¬ (x < 1 ∨ 2000 < x) by omega), if_pos h2])
      rw [ha] at g1 HO
      have G1 := Lib.hid g1
      clear g1 hv ha
      subst h2
      go_enter Tryd.func7, Tryd.ntmps7
      go_wp2_with fail
      refine (G1.out _ (Below.refl _ _)).mono ?_
      rintro e w1 ⟨rfl, hb1⟩
      go_wp2_with (first | (go_at_call 12; refine (G1.out _ hb1).mono ?_; rintro e w2 ⟨rfl, hb2⟩))
      go_ret2
      exact ⟨by rw [HO.out]; rfl, by first | exact hb1 | exact hb1.trans (hb2.mono hb1.size)⟩)
  · have e1 : (x != 1) = true := by simpa using h2
    have g2 := itoaS_any x w hv h0 h1
    have hsz := partS_size b x hb h0 h1
    have hi := itoaS_size x h0 h1
    have ha3 := partS_assoc b x
    have g3 := fun wX (hX : Below w.heap.size w wX) => rAddr_any (partS b x) wX (hv.1.below hX) (by omega)
    have ho : partOut b x = if taddrB b = false then .tuple #[.string ⟨#[]⟩, .int .i64 3] else if x < 1 ∨ 2000 < x then .tuple #[.string ⟨#[]⟩, .int .i64 2] else addrOut (partS b x) := by
      unfold partOut; rw [if_neg h2]
    unfold addrOut at ho
    generalize hq : partS b x = Q at g3 ho ha3
    rw [← ha3] at g3 ho
    have HQ := Lib.hid hq; clear hq
    unfold pageS slashS at g3 ho
    generalize itoaS x = t at g2 g3 ho hi
    have G2 := Lib.hid g2
    clear g2 ha3 hsz hv
    cases ha : taddrB b with
    | false =>
      rw [ha] at g1 ho
      have G1 := Lib.hid g1
      have HO := Lib.hid ho
      clear g1 g3 ha ho
      go_enter Tryd.func7, Tryd.ntmps7
      go_wp2_with fail
      refine G2.out.mono ?_
      rintro e w1 ⟨rfl, hb1⟩
      go_wp2_with fail
      refine (G1.out _ hb1).mono ?_
      rintro e w2 ⟨rfl, hb2⟩
      go_wp2_with fail
      go_ret2
      exact ⟨by rw [HO.out]; rfl, hb1.trans (hb2.mono hb1.size)⟩
    | true =>
      rw [ha] at g1 ho
      have G1 := Lib.hid g1
      clear g1 ha
      rw [if_neg (by simp)] at ho
      by_cases hr : x < 1
      · rw [if_pos (.inl hr)] at ho
        have HO := Lib.hid ho
        clear g3 ho
        go_enter Tryd.func7, Tryd.ntmps7
        go_wp2_with fail
        refine G2.out.mono ?_
        rintro e w1 ⟨rfl, hb1⟩
        go_wp2_with fail
        refine (G1.out _ hb1).mono ?_
        rintro e w2 ⟨rfl, hb2⟩
        go_wp2_with fail
        go_ret2
        exact ⟨by rw [HO.out]; rfl, hb1.trans (hb2.mono hb1.size)⟩
      · by_cases hr2 : 2000 < x
        · rw [if_pos (.inr hr2)] at ho
          have HO := Lib.hid ho
          have d1 : decide (x < 1) = false := by simp; omega
          have d2 : decide (2000 < x) = true := by simp; omega
          clear g3 ho
          go_enter Tryd.func7, Tryd.ntmps7
          go_wp2_with fail
          refine G2.out.mono ?_
          rintro e w1 ⟨rfl, hb1⟩
          go_wp2_with fail
          refine (G1.out _ hb1).mono ?_
          rintro e w2 ⟨rfl, hb2⟩
          go_wp2_with fail
          go_ret2
          exact ⟨by rw [HO.out]; rfl, hb1.trans (hb2.mono hb1.size)⟩
        · rw [if_neg (by omega)] at ho
          have d1 : decide (x < 1) = false := by simp; omega
          have d2 : decide (2000 < x) = false := by simp; omega
          have hr' : 1 ≤ x := by omega
          have hr2' : x ≤ 2000 := by omega
          clear hr hr2
          cases hz : taddrB (b ++ (⟨#[112, 97, 103, 101, 47]⟩ ++ t ++ ⟨#[47]⟩)) <;> (
            rw [hz] at g3 ho
            have G3 := Lib.hid g3
            have HO := Lib.hid ho
            clear g3 ho hz
            go_enter Tryd.func7, Tryd.ntmps7
            go_wp2_with fail
            refine G2.out.mono ?_
            rintro e w1 ⟨rfl, hb1⟩
            go_wp2_with fail
            refine (G1.out _ hb1).mono ?_
            rintro e w2 ⟨rfl, hb2⟩
            have hb12 := hb1.trans (hb2.mono hb1.size)
            go_wp2_with fail
            refine (G3.out _ hb12).mono ?_
            rintro e w3 ⟨rfl, hb3⟩
            go_wp2_with fail
            go_ret2
            exact ⟨by rw [HO.out]; rfl, hb12.trans (hb3.mono hb12.size)⟩)
end Go.Proofs.YtkkimcefjelnbaaDoor
