/- DERIVED. What EscapeAddr and AddrEscaped return: the same. Condition: at most 200000 bytes. -/
import Derived.Test.YtfgekmfkaepgjaaTSafe
import Derived.Test.YtfgekmfkaepgjaaEscWalk
namespace Go.Proofs.Ytfgekmfkaepgjaa
set_option linter.unusedVariables false
open Go.RowKit
open EscPlain
theorem isB_below {B b : Nat} {bs : List Value} {W W' : World} (h : Lib.IsBuilderF 39 5 B b bs W) (hb : Below W.heap.size W W') : Lib.IsBuilderF 39 5 B b bs W' := by
  have one : ∀ p, Lib.BuilderAtF 39 5 B b p bs W → Lib.BuilderAtF 39 5 B b p bs W' := fun p h => by
    have hlt := h.lt
    obtain ⟨g1, v, g2, g3, g4⟩ := h
    refine ⟨g1, v, (hb.block b hlt).trans g2, ?_, g4⟩
    exact g3.kept (row := none) ⟨hb.os, hb.tape, hb.output, hb.size, fun k hk _ => hb.block k hk⟩ (Classical.em _)
  exact h.elim (fun x => .inl (one _ x)) (fun x => .inr (one _ x))
def upD : ByteArray := ⟨#[48, 49, 50, 51, 52, 53, 54, 55, 56, 57, 65, 66, 67, 68, 69, 70]⟩
def oth1 : List UInt8 := [45, 95, 46, 126]
def oth2 : List UInt8 := [58, 47, 63, 35, 61, 38, 37, 43, 44, 64]
def pct (c : UInt8) : List UInt8 := [37, dg upD (c.toNat / 16), dg upD (c.toNat % 16)]
def escA (f : Bool) (c : UInt8) : List UInt8 := if (letB c || digB c || oth1.contains c) = true then [c] else if (f && oth2.contains c) = true then [c] else pct c
def addrE (f : Bool) (l : List UInt8) : List UInt8 := (l.map (escA f)).flatten
theorem escA_len (f : Bool) (c : UInt8) : (escA f c).length ≤ 3 := by
  unfold escA
  split
  · simp
  · split
    · simp
    · simp [pct]
theorem addrE_len (f : Bool) : ∀ l : List UInt8, (addrE f l).length ≤ 3 * l.length
  | [] => Nat.le_refl _
  | c :: r => by
    have h1 := addrE_len f r
    have h2 := escA_len f c
    have e : addrE f (c :: r) = escA f c ++ addrE f r := by simp [addrE]
    rw [e, List.length_append, List.length_cons]
    omega
theorem addrE_take (f : Bool) (s : ByteArray) (k : Nat) (h : k < s.size) : addrE f (s.data.toList.take (k + 1)) = addrE f (s.data.toList.take k) ++ escA f s[k] := by
  rw [take_snoc s k h]
  simp [addrE]
theorem addrE_take_len (f : Bool) (s : ByteArray) (k : Nat) : (addrE f (s.data.toList.take k)).length ≤ 3 * k := by
  have h1 := addrE_len f (s.data.toList.take k)
  have h2 : (s.data.toList.take k).length ≤ k := List.length_take_le _ _
  omega
theorem con1 (c : UInt8) : oth1.contains c = decide (0 ≤ Lib.indexByte (ByteArray.mk #[45, 95, 46, 126]).data.toList c) := Lib.contains_iff_indexByte _ c
theorem con2 (c : UInt8) : oth2.contains c = decide (0 ≤ Lib.indexByte (ByteArray.mk #[58, 47, 63, 35, 61, 38, 37, 43, 44, 64]).data.toList c) := Lib.contains_iff_indexByte _ c
theorem ib1 (c : UInt8) (w : World) : Calls Try.prog 17 #[.string ⟨#[45, 95, 46, 126]⟩, .int .u8 c.toNat] w fun e w' => e = .returned (.int .i64 (Lib.indexByte (ByteArray.mk #[45, 95, 46, 126]).data.toList c)) ∧ w' = w := by
  have h := Try.strings_IndexByte ⟨#[45, 95, 46, 126]⟩ c.toNat w
  rwa [show ((c.toNat : Int)).toNat.toUInt8 = c by simp] at h
theorem ib2 (c : UInt8) (w : World) : Calls Try.prog 17 #[.string ⟨#[58, 47, 63, 35, 61, 38, 37, 43, 44, 64]⟩, .int .u8 c.toNat] w fun e w' => e = .returned (.int .i64 (Lib.indexByte (ByteArray.mk #[58, 47, 63, 35, 61, 38, 37, 43, 44, 64]).data.toList c)) ∧ w' = w := by
  have h := Try.strings_IndexByte ⟨#[58, 47, 63, 35, 61, 38, 37, 43, 44, 64]⟩ c.toNat w
  rwa [show ((c.toNat : Int)).toNat.toUInt8 = c by simp] at h
def addrR (f v : Bool) (s : ByteArray) : ByteArray := if (f && !v) = true then ⟨#[35]⟩ else ⟨(esc (addrE f s.data.toList)).toArray⟩

set_option maxRecDepth 100000 in
set_option maxHeartbeats 4000000 in
theorem escapeAddrF_any (s : ByteArray) (w : World) (hs : s.size ≤ 200000) :
    Calls Try.prog 6 #[.string s, .bool false] w fun e w' => e = .returned (.string ⟨(esc (addrE false s.data.toList)).toArray⟩) ∧ Below w.heap.size w w' := by
  have hb0 := Below.refl w.heap.size w
  go_enter Try.func6, Try.ntmps6
  go_wp2_with fail
  obtain ⟨wb, hwb⟩ : ∃ wb, wb = w := ⟨_, rfl⟩
  obtain rfl := hwb
  go_loopw [16] (fun i wr => ∃ k : Nat, k ≤ s.size ∧ i = .int .i64 k ∧ Bd wb.heap.size wb.heap.size (addrE false (s.data.toList.take k)) wr ∧ Below wb.heap.size wb wr) (fun i _ => s.size - (intOf i).toNat)
  case atStart => exact ⟨0, Nat.zero_le _, rfl, Lib.IsBuilderF.of (Lib.fresh_isBuilder 39 5 wb), (Below.refl _ _).alloc (Nat.le_refl _) _⟩
  case round =>
    obtain ⟨k, hk, rfl, hbd, hbw⟩ := hrel
    have hw := hbw.size
    by_cases hlt : k < s.size
    · have hl := addrE_take_len false s k
      obtain ⟨c, hc⟩ : ∃ c : UInt8, s[k]'hlt = c := ⟨_, rfl⟩
      have ht := addrE_take false s k hlt
      rw [hc] at ht
      have HT := Lib.hid ht; clear ht
      have HBD := Lib.hid hbd; clear hbd
      have room : ∀ m, m ≤ 6 → (Lib.byteCells (addrE false (s.data.toList.take k))).length + m ≤ 140737488355328 := fun m hm => by rw [Lib.byteCells_length]; omega
      have HR := Lib.hid room; clear room hl
      have HC := Lib.hid (fun wX => isLetter_any c wX)
      have HD := Lib.hid (fun wX => isDigit_any c wX)
      have H1 := Lib.hid (fun wX => ib1 c wX)
      have H2 := Lib.hid (fun wX => ib2 c wX)
      have HX := Lib.hid (fun wX => hex_any c ⟨#[48, 49, 50, 51, 52, 53, 54, 55, 56, 57, 65, 66, 67, 68, 69, 70]⟩ wX rfl)
      have hco1 := con1 c
      have hco2 := con2 c
      generalize Lib.indexByte (ByteArray.mk #[45, 95, 46, 126]).data.toList c = o1 at H1 hco1
      generalize Lib.indexByte (ByteArray.mk #[58, 47, 63, 35, 61, 38, 37, 43, 44, 64]).data.toList c = o2 at H2 hco2
      have he : escA false c = if (letB c || digB c || oth1.contains c) = true then [c] else if (false && oth2.contains c) = true then [c] else pct c := rfl
      cases hLt : letB c
      · rw [hLt] at HC he
        cases hDg : digB c
        · rw [hDg] at HD he
          cases hO1 : oth1.contains c
          · rw [hO1] at hco1 he
            have n1 : ¬ (0 : Int) ≤ o1 := of_decide_eq_false hco1.symm
            clear hco1
            have HE := Lib.hid he
            clear hco2 he
            go_wp2_with fail
            refine (HC.out _).mono ?_
            rintro e w9 ⟨rfl, hw⟩
            rw [hw]
            clear hw w9
            dsimp only
            go_wp2_with fail
            refine (HD.out _).mono ?_
            rintro e w9 ⟨rfl, hw⟩
            rw [hw]
            clear hw w9
            dsimp only
            go_wp2_with fail
            refine (H1.out _).mono ?_
            rintro e w9 ⟨rfl, hw⟩
            rw [hw]
            clear hw w9
            dsimp only
            go_wp2_with fail
            refine (writeByte_any wb.heap.size wb.heap.size (Lib.byteCells (addrE false (s.data.toList.take k))) _ _ HBD.out (HR.out 1 (by decide)) hw).mono ?_
            rintro e w3 ⟨rfl, hb3, hbel3⟩
            have HB3 := Lib.hid hb3; clear hb3
            have hw3 := hbel3.size
            go_wp2_with fail
            refine (HX.out _).mono ?_
            rintro e w4 ⟨rfl, hb4⟩
            have HB4 := Lib.hid (isB_below HB3.out hb4)
            have hw4 := hb4.size
            go_wp2_with fail
            refine (writeString_any wb.heap.size wb.heap.size _ _ _ HB4.out (by rw [List.length_append]; have := HR.out 3 (by decide); show _ + 1 + 2 ≤ _; omega) (by omega)).mono ?_
            rintro e w5 ⟨rfl, hb5, hbel5⟩
            have hb5' : Lib.IsBuilderF 39 5 wb.heap.size wb.heap.size ((Lib.byteCells (addrE false (s.data.toList.take k))) ++ Lib.byteCells (pct c)) w5 := by
              rw [List.append_assoc] at hb5
              exact hb5
            have HF := Lib.hid hb5'; clear hb5 hb5'
            go_wp2_with fail
            go_roundw
            case rel =>
              refine ⟨k + 1, by omega, by go_num, ?_, hbw.trans (hbel3.trans ((hb4.mono (by omega)).trans hbel5))⟩
              rw [HT.out, HE.out]
              show Lib.IsBuilderF _ _ _ _ (Lib.byteCells (_ ++ _)) _
              rw [Lib.byteCells_append]
              exact HF.out
            case measure => simp [intOf]; omega
          · rw [hO1] at hco1 he
            have n1 : (0 : Int) ≤ o1 := of_decide_eq_true hco1.symm
            have HE := Lib.hid he
            clear hco1 hco2 he
            go_wp2_with fail
            refine (HC.out _).mono ?_
            rintro e w9 ⟨rfl, hw⟩
            rw [hw]
            clear hw w9
            dsimp only
            go_wp2_with fail
            refine (HD.out _).mono ?_
            rintro e w9 ⟨rfl, hw⟩
            rw [hw]
            clear hw w9
            dsimp only
            go_wp2_with fail
            refine (H1.out _).mono ?_
            rintro e w9 ⟨rfl, hw⟩
            rw [hw]
            clear hw w9
            dsimp only
            go_wp2_with fail
            refine (writeByte_any wb.heap.size wb.heap.size (Lib.byteCells (addrE false (s.data.toList.take k))) _ _ HBD.out (HR.out 1 (by decide)) hw).mono ?_
            rintro e w3 ⟨rfl, hb3, hbel3⟩
            have HF := Lib.hid hb3; clear hb3
            go_wp2_with fail
            go_roundw
            case rel =>
              refine ⟨k + 1, by omega, by go_num, ?_, hbw.trans hbel3⟩
              rw [HT.out, HE.out]
              show Lib.IsBuilderF _ _ _ _ (Lib.byteCells (_ ++ _)) _
              rw [Lib.byteCells_append]
              exact HF.out
            case measure => simp [intOf]; omega
        · rw [hDg] at HD he
          have HE := Lib.hid he
          clear hco1 hco2 he
          go_wp2_with fail
          refine (HC.out _).mono ?_
          rintro e w9 ⟨rfl, hw⟩
          rw [hw]
          clear hw w9
          dsimp only
          go_wp2_with fail
          refine (HD.out _).mono ?_
          rintro e w9 ⟨rfl, hw⟩
          rw [hw]
          clear hw w9
          dsimp only
          go_wp2_with fail
          refine (writeByte_any wb.heap.size wb.heap.size (Lib.byteCells (addrE false (s.data.toList.take k))) _ _ HBD.out (HR.out 1 (by decide)) hw).mono ?_
          rintro e w3 ⟨rfl, hb3, hbel3⟩
          have HF := Lib.hid hb3; clear hb3
          go_wp2_with fail
          go_roundw
          case rel =>
            refine ⟨k + 1, by omega, by go_num, ?_, hbw.trans hbel3⟩
            rw [HT.out, HE.out]
            show Lib.IsBuilderF _ _ _ _ (Lib.byteCells (_ ++ _)) _
            rw [Lib.byteCells_append]
            exact HF.out
          case measure => simp [intOf]; omega
      · rw [hLt] at HC he
        have HE := Lib.hid he
        clear hco1 hco2 he
        go_wp2_with fail
        refine (HC.out _).mono ?_
        rintro e w9 ⟨rfl, hw⟩
        rw [hw]
        clear hw w9
        dsimp only
        go_wp2_with fail
        refine (writeByte_any wb.heap.size wb.heap.size (Lib.byteCells (addrE false (s.data.toList.take k))) _ _ HBD.out (HR.out 1 (by decide)) hw).mono ?_
        rintro e w3 ⟨rfl, hb3, hbel3⟩
        have HF := Lib.hid hb3; clear hb3
        go_wp2_with fail
        go_roundw
        case rel =>
          refine ⟨k + 1, by omega, by go_num, ?_, hbw.trans hbel3⟩
          rw [HT.out, HE.out]
          show Lib.IsBuilderF _ _ _ _ (Lib.byteCells (_ ++ _)) _
          rw [Lib.byteCells_append]
          exact HF.out
        case measure => simp [intOf]; omega
    · have hkn : k = s.size := by omega
      have HK := Lib.hid hkn; clear hkn
      have hll := addrE_len false s.data.toList
      have hls : s.data.toList.length = s.size := Array.length_toList
      have HES := Lib.hid (fun wX => escape_any ⟨(addrE false s.data.toList).toArray⟩ wX (by show (addrE false s.data.toList).toArray.size ≤ _; simp; omega))
      have hal : addrE false (s.data.toList.take k) = addrE false s.data.toList := by rw [HK.out, List.take_of_length_le (by simp)]
      rw [hal] at hbd
      clear hll hls hal
      go_wp2_with fail
      refine (Try.Builder_String_any_k wb.heap.size wb.heap.size (addrE false s.data.toList) _ hbd hw).mono ?_
      rintro e w1 ⟨rfl, _, hbel1, _⟩
      have hc1 := hbw.trans hbel1
      go_wp2_with fail
      refine (HES.out _).mono ?_
      rintro e w2 ⟨rfl, hb2⟩
      go_wp2_with fail
      go_ret
      exact ⟨rfl, hb0.trans ((hc1.trans (hb2.mono hc1.size)).mono hb0.size)⟩
set_option maxRecDepth 100000 in
set_option maxHeartbeats 4000000 in
theorem escapeAddrT_any (s : ByteArray) (w : World) (hs : s.size ≤ 200000) (h : SafeIs s true) :
    Calls Try.prog 6 #[.string s, .bool true] w fun e w' => e = .returned (.string ⟨(esc (addrE true s.data.toList)).toArray⟩) ∧ Below w.heap.size w w' := by
  have HS := Lib.hid (isSafe_any s true w hs h)
  clear h
  go_enter Try.func6, Try.ntmps6
  go_wp2_with fail
  refine HS.out.mono ?_
  rintro e wb ⟨rfl, hb0⟩
  go_wp2_with fail
  go_loopw [16] (fun i wr => ∃ k : Nat, k ≤ s.size ∧ i = .int .i64 k ∧ Bd wb.heap.size wb.heap.size (addrE true (s.data.toList.take k)) wr ∧ Below wb.heap.size wb wr) (fun i _ => s.size - (intOf i).toNat)
  case atStart => exact ⟨0, Nat.zero_le _, rfl, Lib.IsBuilderF.of (Lib.fresh_isBuilder 39 5 wb), (Below.refl _ _).alloc (Nat.le_refl _) _⟩
  case round =>
    obtain ⟨k, hk, rfl, hbd, hbw⟩ := hrel
    have hw := hbw.size
    by_cases hlt : k < s.size
    · have hl := addrE_take_len true s k
      obtain ⟨c, hc⟩ : ∃ c : UInt8, s[k]'hlt = c := ⟨_, rfl⟩
      have ht := addrE_take true s k hlt
      rw [hc] at ht
      have HT := Lib.hid ht; clear ht
      have HBD := Lib.hid hbd; clear hbd
      have room : ∀ m, m ≤ 6 → (Lib.byteCells (addrE true (s.data.toList.take k))).length + m ≤ 140737488355328 := fun m hm => by rw [Lib.byteCells_length]; omega
      have HR := Lib.hid room; clear room hl
      have HC := Lib.hid (fun wX => isLetter_any c wX)
      have HD := Lib.hid (fun wX => isDigit_any c wX)
      have H1 := Lib.hid (fun wX => ib1 c wX)
      have H2 := Lib.hid (fun wX => ib2 c wX)
      have HX := Lib.hid (fun wX => hex_any c ⟨#[48, 49, 50, 51, 52, 53, 54, 55, 56, 57, 65, 66, 67, 68, 69, 70]⟩ wX rfl)
      have hco1 := con1 c
      have hco2 := con2 c
      generalize Lib.indexByte (ByteArray.mk #[45, 95, 46, 126]).data.toList c = o1 at H1 hco1
      generalize Lib.indexByte (ByteArray.mk #[58, 47, 63, 35, 61, 38, 37, 43, 44, 64]).data.toList c = o2 at H2 hco2
      have he : escA true c = if (letB c || digB c || oth1.contains c) = true then [c] else if (true && oth2.contains c) = true then [c] else pct c := rfl
      cases hLt : letB c
      · rw [hLt] at HC he
        cases hDg : digB c
        · rw [hDg] at HD he
          cases hO1 : oth1.contains c
          · rw [hO1] at hco1 he
            have n1 : ¬ (0 : Int) ≤ o1 := of_decide_eq_false hco1.symm
            clear hco1
            cases hO2 : oth2.contains c
            · rw [hO2] at hco2 he
              have n2 : ¬ (0 : Int) ≤ o2 := of_decide_eq_false hco2.symm
              have HE := Lib.hid he
              clear hco2 he
              go_wp2_with fail
              refine (HC.out _).mono ?_
              rintro e w9 ⟨rfl, hw⟩
              rw [hw]
              clear hw w9
              dsimp only
              go_wp2_with fail
              refine (HD.out _).mono ?_
              rintro e w9 ⟨rfl, hw⟩
              rw [hw]
              clear hw w9
              dsimp only
              go_wp2_with fail
              refine (H1.out _).mono ?_
              rintro e w9 ⟨rfl, hw⟩
              rw [hw]
              clear hw w9
              dsimp only
              go_wp2_with fail
              refine (H2.out _).mono ?_
              rintro e w9 ⟨rfl, hw⟩
              rw [hw]
              clear hw w9
              dsimp only
              go_wp2_with fail
              refine (writeByte_any wb.heap.size wb.heap.size (Lib.byteCells (addrE true (s.data.toList.take k))) _ _ HBD.out (HR.out 1 (by decide)) hw).mono ?_
              rintro e w3 ⟨rfl, hb3, hbel3⟩
              have HB3 := Lib.hid hb3; clear hb3
              have hw3 := hbel3.size
              go_wp2_with fail
              refine (HX.out _).mono ?_
              rintro e w4 ⟨rfl, hb4⟩
              have HB4 := Lib.hid (isB_below HB3.out hb4)
              have hw4 := hb4.size
              go_wp2_with fail
              refine (writeString_any wb.heap.size wb.heap.size _ _ _ HB4.out (by rw [List.length_append]; have := HR.out 3 (by decide); show _ + 1 + 2 ≤ _; omega) (by omega)).mono ?_
              rintro e w5 ⟨rfl, hb5, hbel5⟩
              have hb5' : Lib.IsBuilderF 39 5 wb.heap.size wb.heap.size ((Lib.byteCells (addrE true (s.data.toList.take k))) ++ Lib.byteCells (pct c)) w5 := by
                rw [List.append_assoc] at hb5
                exact hb5
              have HF := Lib.hid hb5'; clear hb5 hb5'
              go_wp2_with fail
              go_roundw
              case rel =>
                refine ⟨k + 1, by omega, by go_num, ?_, hbw.trans (hbel3.trans ((hb4.mono (by omega)).trans hbel5))⟩
                rw [HT.out, HE.out]
                show Lib.IsBuilderF _ _ _ _ (Lib.byteCells (_ ++ _)) _
                rw [Lib.byteCells_append]
                exact HF.out
              case measure => simp [intOf]; omega
            · rw [hO2] at hco2 he
              have n2 : (0 : Int) ≤ o2 := of_decide_eq_true hco2.symm
              have HE := Lib.hid he
              clear hco2 he
              go_wp2_with fail
              refine (HC.out _).mono ?_
              rintro e w9 ⟨rfl, hw⟩
              rw [hw]
              clear hw w9
              dsimp only
              go_wp2_with fail
              refine (HD.out _).mono ?_
              rintro e w9 ⟨rfl, hw⟩
              rw [hw]
              clear hw w9
              dsimp only
              go_wp2_with fail
              refine (H1.out _).mono ?_
              rintro e w9 ⟨rfl, hw⟩
              rw [hw]
              clear hw w9
              dsimp only
              go_wp2_with fail
              refine (H2.out _).mono ?_
              rintro e w9 ⟨rfl, hw⟩
              rw [hw]
              clear hw w9
              dsimp only
              go_wp2_with fail
              refine (writeByte_any wb.heap.size wb.heap.size (Lib.byteCells (addrE true (s.data.toList.take k))) _ _ HBD.out (HR.out 1 (by decide)) hw).mono ?_
              rintro e w3 ⟨rfl, hb3, hbel3⟩
              have HF := Lib.hid hb3; clear hb3
              go_wp2_with fail
              go_roundw
              case rel =>
                refine ⟨k + 1, by omega, by go_num, ?_, hbw.trans hbel3⟩
                rw [HT.out, HE.out]
                show Lib.IsBuilderF _ _ _ _ (Lib.byteCells (_ ++ _)) _
                rw [Lib.byteCells_append]
                exact HF.out
              case measure => simp [intOf]; omega
          · rw [hO1] at hco1 he
            have n1 : (0 : Int) ≤ o1 := of_decide_eq_true hco1.symm
            have HE := Lib.hid he
            clear hco1 hco2 he
            go_wp2_with fail
            refine (HC.out _).mono ?_
            rintro e w9 ⟨rfl, hw⟩
            rw [hw]
            clear hw w9
            dsimp only
            go_wp2_with fail
            refine (HD.out _).mono ?_
            rintro e w9 ⟨rfl, hw⟩
            rw [hw]
            clear hw w9
            dsimp only
            go_wp2_with fail
            refine (H1.out _).mono ?_
            rintro e w9 ⟨rfl, hw⟩
            rw [hw]
            clear hw w9
            dsimp only
            go_wp2_with fail
            refine (writeByte_any wb.heap.size wb.heap.size (Lib.byteCells (addrE true (s.data.toList.take k))) _ _ HBD.out (HR.out 1 (by decide)) hw).mono ?_
            rintro e w3 ⟨rfl, hb3, hbel3⟩
            have HF := Lib.hid hb3; clear hb3
            go_wp2_with fail
            go_roundw
            case rel =>
              refine ⟨k + 1, by omega, by go_num, ?_, hbw.trans hbel3⟩
              rw [HT.out, HE.out]
              show Lib.IsBuilderF _ _ _ _ (Lib.byteCells (_ ++ _)) _
              rw [Lib.byteCells_append]
              exact HF.out
            case measure => simp [intOf]; omega
        · rw [hDg] at HD he
          have HE := Lib.hid he
          clear hco1 hco2 he
          go_wp2_with fail
          refine (HC.out _).mono ?_
          rintro e w9 ⟨rfl, hw⟩
          rw [hw]
          clear hw w9
          dsimp only
          go_wp2_with fail
          refine (HD.out _).mono ?_
          rintro e w9 ⟨rfl, hw⟩
          rw [hw]
          clear hw w9
          dsimp only
          go_wp2_with fail
          refine (writeByte_any wb.heap.size wb.heap.size (Lib.byteCells (addrE true (s.data.toList.take k))) _ _ HBD.out (HR.out 1 (by decide)) hw).mono ?_
          rintro e w3 ⟨rfl, hb3, hbel3⟩
          have HF := Lib.hid hb3; clear hb3
          go_wp2_with fail
          go_roundw
          case rel =>
            refine ⟨k + 1, by omega, by go_num, ?_, hbw.trans hbel3⟩
            rw [HT.out, HE.out]
            show Lib.IsBuilderF _ _ _ _ (Lib.byteCells (_ ++ _)) _
            rw [Lib.byteCells_append]
            exact HF.out
          case measure => simp [intOf]; omega
      · rw [hLt] at HC he
        have HE := Lib.hid he
        clear hco1 hco2 he
        go_wp2_with fail
        refine (HC.out _).mono ?_
        rintro e w9 ⟨rfl, hw⟩
        rw [hw]
        clear hw w9
        dsimp only
        go_wp2_with fail
        refine (writeByte_any wb.heap.size wb.heap.size (Lib.byteCells (addrE true (s.data.toList.take k))) _ _ HBD.out (HR.out 1 (by decide)) hw).mono ?_
        rintro e w3 ⟨rfl, hb3, hbel3⟩
        have HF := Lib.hid hb3; clear hb3
        go_wp2_with fail
        go_roundw
        case rel =>
          refine ⟨k + 1, by omega, by go_num, ?_, hbw.trans hbel3⟩
          rw [HT.out, HE.out]
          show Lib.IsBuilderF _ _ _ _ (Lib.byteCells (_ ++ _)) _
          rw [Lib.byteCells_append]
          exact HF.out
        case measure => simp [intOf]; omega
    · have hkn : k = s.size := by omega
      have HK := Lib.hid hkn; clear hkn
      have hll := addrE_len true s.data.toList
      have hls : s.data.toList.length = s.size := Array.length_toList
      have HES := Lib.hid (fun wX => escape_any ⟨(addrE true s.data.toList).toArray⟩ wX (by show (addrE true s.data.toList).toArray.size ≤ _; simp; omega))
      have hal : addrE true (s.data.toList.take k) = addrE true s.data.toList := by rw [HK.out, List.take_of_length_le (by simp)]
      rw [hal] at hbd
      clear hll hls hal
      go_wp2_with fail
      refine (Try.Builder_String_any_k wb.heap.size wb.heap.size (addrE true s.data.toList) _ hbd hw).mono ?_
      rintro e w1 ⟨rfl, _, hbel1, _⟩
      have hc1 := hbw.trans hbel1
      go_wp2_with fail
      refine (HES.out _).mono ?_
      rintro e w2 ⟨rfl, hb2⟩
      go_wp2_with fail
      go_ret
      exact ⟨rfl, hb0.trans ((hc1.trans (hb2.mono hc1.size)).mono hb0.size)⟩
set_option maxRecDepth 100000 in
theorem escapeAddr_any (s : ByteArray) (f v : Bool) (w : World) (hs : s.size ≤ 200000) (h : SafeIs s v) :
    Calls Try.prog 6 #[.string s, .bool f] w fun e w' => e = .returned (.string (addrR f v s)) ∧ Below w.heap.size w w' := by
  cases f
  · exact escapeAddrF_any s w hs
  · cases v
    · have HS := Lib.hid (isSafe_any s false w hs h)
      clear h
      go_enter Try.func6, Try.ntmps6
      go_wp2_with fail
      refine HS.out.mono ?_
      rintro e w1 ⟨rfl, hb1⟩
      go_wp2_with fail
      go_ret
      exact ⟨rfl, hb1⟩
    · exact escapeAddrT_any s w hs h
end Go.Proofs.Ytfgekmfkaepgjaa
