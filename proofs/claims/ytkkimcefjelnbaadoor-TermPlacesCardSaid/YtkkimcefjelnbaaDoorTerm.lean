/- DERIVED. What list.TermAddress, PartAddress and the reference's AddressOfTerm, AddressOfPart return. Conditions: the library's variables MaxLen and of powers of ten are as the program's text lays them; strings of at most 2^21 bytes. -/
import Derived.Test.YtkkimcefjelnbaaDoorTAddr
import Derived.Test.YtkkimcefjelnbaaDoorTPure
import Derived.Lib.AppendIntMem
namespace Go.Proofs.YtkkimcefjelnbaaDoor
set_option linter.unusedVariables false
open Go.RowKit
/-- The library's variables. -/
def Vars (w : World) : Prop := MaxT w ∧ Lib.TabBelow Tryd.prog w.heap.size w "internal/strconv.uint64pow10" .u64 Lib.pow10Tab
/-- What is returned: the address, or its error. -/
def addrOut (s : ByteArray) : Value := if taddrB s = true then .tuple #[.string s, .int .i64 0] else .tuple #[.string ⟨#[]⟩, .int .i64 3]
theorem checkedAddress_any (s : ByteArray) (w : World) (hm : MaxT w) (hs : s.size ≤ 9223372036854775807) :
    Calls Tryd.prog 11 #[.string s] w fun e w' => e = .returned (addrOut s) ∧ Below w.heap.size w w' := by
  have h := checkAddress_any s w hm hs
  unfold addrErr at h
  unfold addrOut
  cases hb : taddrB s <;> (
    rw [hb] at h
    have H := Lib.hid h
    clear h hm
    go_enter Tryd.func11, Tryd.ntmps11
    go_wp2_with fail
    refine H.out.mono ?_
    rintro e w1 ⟨rfl, hb1⟩
    go_wp2_with fail
    go_ret2
    exact ⟨rfl, hb1⟩)
def termS (b n : ByteArray) : ByteArray := b ++ n ++ slashS
def termOut (b n : ByteArray) : Value := if (taddrB b && tpartB n) = true then addrOut (termS b n) else .tuple #[.string ⟨#[]⟩, .int .i64 3]
set_option maxRecDepth 100000 in
set_option maxHeartbeats 800000 in
theorem termAddress_any (b n : ByteArray) (w : World) (hm : MaxT w) (hb : b.size ≤ 140737488351232) (hn : n.size ≤ 140737488351232) :
    Calls Tryd.prog 4 #[.string b, .string n] w fun e w' => e = .returned (termOut b n) ∧ Below w.heap.size w w' := by
  have h1 := checkAddress_any b w hm (by omega)
  unfold addrErr at h1
  have HO := Lib.hid (show termOut b n = if (taddrB b && tpartB n) = true then addrOut (termS b n) else .tuple #[.string ⟨#[]⟩, .int .i64 3] from rfl)
  cases ha : taddrB b with
  | false =>
    rw [ha] at h1 HO
    have H1 := Lib.hid h1
    clear h1 hm ha
    go_enter Tryd.func4, Tryd.ntmps4
    go_wp2_with fail
    refine H1.out.mono ?_
    rintro e w1 ⟨rfl, hb1⟩
    go_wp2_with fail
    go_ret2
    exact ⟨by rw [HO.out]; rfl, hb1⟩
  | true =>
    rw [ha] at h1 HO
    have hp := name_part n
    have h2 := fun wX (hX : Below w.heap.size w wX) => checkPath_any n wX (hm.below hX)
    have h3 := fun wX => Tryd.strings_Contains_one n 47 wX
    have h4 := fun wX (hX : Below w.heap.size w wX) => checkedAddress_any (termS b n) wX (hm.below hX) (by unfold termS; rw [ByteArray.size_append, ByteArray.size_append]; have : slashS.size = 1 := rfl; omega)
    unfold termS slashS at h4
    have H1 := Lib.hid h1
    cases hpa : tpathB n with
    | false =>
      rw [hpa] at h2 hp
      rw [← hp] at HO
      have H2 := Lib.hid h2
      clear h1 h2 h3 h4 hm ha hp hpa
      go_enter Tryd.func4, Tryd.ntmps4
      go_wp2_with fail
      refine H1.out.mono ?_
      rintro e w1 ⟨rfl, hb1⟩
      go_wp2_with fail
      refine (H2.out _ hb1).mono ?_
      rintro e w2 ⟨rfl, hb2⟩
      go_wp2_with fail
      go_ret2
      exact ⟨by rw [HO.out]; rfl, hb1.trans (hb2.mono hb1.size)⟩
    | true =>
      rw [hpa] at h2 hp
      have H2 := Lib.hid h2
      cases hc : decide (0 ≤ Lib.indexByte n.data.toList 47) with
      | true =>
        rw [hc] at h3 hp
        rw [← hp] at HO
        have H3 := Lib.hid h3
        clear h1 h2 h3 h4 hm ha hp hpa hc
        go_enter Tryd.func4, Tryd.ntmps4
        go_wp2_with fail
        refine H1.out.mono ?_
        rintro e w1 ⟨rfl, hb1⟩
        go_wp2_with fail
        refine (H2.out _ hb1).mono ?_
        rintro e w2 ⟨rfl, hb2⟩
        go_wp2_with fail
        refine (H3.out _).mono ?_
        rintro e w' ⟨rfl, rfl⟩
        go_wp2_with fail
        go_ret2
        exact ⟨by rw [HO.out]; rfl, hb1.trans (hb2.mono hb1.size)⟩
      | false =>
        rw [hc] at h3 hp
        rw [← hp] at HO
        have H3 := Lib.hid h3
        unfold addrOut at h4 HO
        have e0 : termS b n = b ++ n ++ ⟨#[47]⟩ := rfl
        rw [e0] at HO
        cases hz : taddrB (b ++ n ++ ⟨#[47]⟩) <;> (
          rw [hz] at h4 HO
          have H4 := Lib.hid h4
          clear h1 h2 h3 h4 hm ha hp hpa hc hz e0
          go_enter Tryd.func4, Tryd.ntmps4
          go_wp2_with fail
          refine H1.out.mono ?_
          rintro e w1 ⟨rfl, hb1⟩
          go_wp2_with fail
          refine (H2.out _ hb1).mono ?_
          rintro e w2 ⟨rfl, hb2⟩
          have hb12 := hb1.trans (hb2.mono hb1.size)
          go_wp2_with fail
          refine (H3.out _).mono ?_
          rintro e w' ⟨rfl, hw⟩
          rw [hw]
          clear hw w'
          dsimp only
          go_wp2_with fail
          refine (H4.out _ hb12).mono ?_
          rintro e w3 ⟨rfl, hb3⟩
          go_wp2_with fail
          go_ret2
          exact ⟨by rw [HO.out]; rfl, hb12.trans (hb3.mono hb12.size)⟩)
set_option maxRecDepth 100000 in
set_option maxHeartbeats 800000 in
theorem addressOfTerm_any (b n : ByteArray) (w : World) (hm : MaxT w) (hb : b.size ≤ 140737488351232) (hn : n.size ≤ 140737488351232) :
    Calls Tryd.prog 5 #[.string b, .string n] w fun e w' => e = .returned (termOut b n) ∧ Below w.heap.size w w' := by
  have h1 := rAddr_any b w hm (by omega)
  have h2 := fun wX => rPart_any n wX (by omega)
  have h3 := fun wX (hX : Below w.heap.size w wX) => rAddr_any (termS b n) wX (hm.below hX) (by unfold termS; rw [ByteArray.size_append, ByteArray.size_append]; have : slashS.size = 1 := rfl; omega)
  have HO := Lib.hid (show termOut b n = if (taddrB b && tpartB n) = true then addrOut (termS b n) else .tuple #[.string ⟨#[]⟩, .int .i64 3] from rfl)
  unfold addrOut at HO
  unfold termS slashS at HO h3
  clear hm
  cases ha : taddrB b with
  | false =>
    rw [ha] at h1 HO
    have H1 := Lib.hid h1
    clear h1 h2 h3 ha
    go_enter Tryd.func5, Tryd.ntmps5
    go_wp2_with fail
    refine H1.out.mono ?_
    rintro e w1 ⟨rfl, hb1⟩
    go_wp2_with fail
    go_ret2
    exact ⟨by rw [HO.out]; rfl, hb1⟩
  | true =>
    rw [ha] at h1 HO
    have H1 := Lib.hid h1
    cases hp : tpartB n with
    | false =>
      rw [hp] at h2 HO
      have H2 := Lib.hid h2
      clear h1 h2 h3 ha hp
      go_enter Tryd.func5, Tryd.ntmps5
      go_wp2_with fail
      refine H1.out.mono ?_
      rintro e w1 ⟨rfl, hb1⟩
      go_wp2_with fail
      refine (H2.out _).mono ?_
      rintro e w2 ⟨rfl, hb2⟩
      go_wp2_with fail
      go_ret2
      exact ⟨by rw [HO.out]; rfl, hb1.trans (hb2.mono hb1.size)⟩
    | true =>
      rw [hp] at h2 HO
      have H2 := Lib.hid h2
      cases hz : taddrB (b ++ n ++ ⟨#[47]⟩) <;> (
        rw [hz] at h3 HO
        have H3 := Lib.hid h3
        clear h1 h2 h3 ha hp hz
        go_enter Tryd.func5, Tryd.ntmps5
        go_wp2_with fail
        refine H1.out.mono ?_
        rintro e w1 ⟨rfl, hb1⟩
        go_wp2_with fail
        refine (H2.out _).mono ?_
        rintro e w2 ⟨rfl, hb2⟩
        have hb12 := hb1.trans (hb2.mono hb1.size)
        go_wp2_with fail
        refine (H3.out _ hb12).mono ?_
        rintro e w3 ⟨rfl, hb3⟩
        go_wp2_with fail
        go_ret2
        exact ⟨by rw [HO.out]; rfl, hb12.trans (hb3.mono hb12.size)⟩)
end Go.Proofs.YtkkimcefjelnbaaDoor
