/- DERIVED. What mark.Escape returns for every string of at most 4000000 bytes: by a walk of its text. -/
import Derived.Test.YtfgekmfkaepgjaaBuilder
import Derived.Test.YtfgekmfkaepgjaaShelf
import Derived.Test.YtfgekmfkaepgjaaEscPlain
import Derived.WalkSpells
import Derived.WalkLawsBesides
import Derived.WalkSmall
namespace Go.Proofs.Ytfgekmfkaepgjaa
open Go.RowKit
open EscPlain

theorem ret_str {a b : List UInt8} (h : a = b) : Ending.returned (.string ⟨a.toArray⟩) = .returned (.string ⟨b.toArray⟩) := by rw [h]
theorem take_snoc (s : ByteArray) (k : Nat) (h : k < s.size) : s.data.toList.take (k + 1) = s.data.toList.take k ++ [s[k]] := by
  rw [List.take_succ_eq_append_getElem (by simpa using h)]; rfl
theorem esc_take (s : ByteArray) (k : Nat) (h : k < s.size) : esc (s.data.toList.take (k + 1)) = esc (s.data.toList.take k) ++ escB s[k] := by
  rw [take_snoc s k h, esc_snoc]
theorem esc_take_len (s : ByteArray) (k : Nat) : (esc (s.data.toList.take k)).length ≤ 6 * k := by
  have h1 := esc_len (s.data.toList.take k)
  have h2 : (s.data.toList.take k).length ≤ k := List.length_take_le _ _
  omega
theorem escB_38 {c : UInt8} (h : (c.toNat : Int) = 38) : escB c = amp := by
  have : c = 38 := by apply UInt8.toNat.inj; show c.toNat = 38; omega
  simp [escB, this]
theorem escB_60 {c : UInt8} (h : (c.toNat : Int) = 60) : escB c = lt := by
  have : c = 60 := by apply UInt8.toNat.inj; show c.toNat = 60; omega
  simp [escB, this]
theorem escB_62 {c : UInt8} (h : (c.toNat : Int) = 62) : escB c = gt := by
  have : c = 62 := by apply UInt8.toNat.inj; show c.toNat = 62; omega
  simp [escB, this]
theorem escB_34 {c : UInt8} (h : (c.toNat : Int) = 34) : escB c = quot := by
  have : c = 34 := by apply UInt8.toNat.inj; show c.toNat = 34; omega
  simp [escB, this]
theorem escB_else {c : UInt8} (h1 : (c.toNat : Int) ≠ 38) (h2 : (c.toNat : Int) ≠ 60) (h3 : (c.toNat : Int) ≠ 62) (h4 : (c.toNat : Int) ≠ 34) : escB c = [c] := by
  have e1 : c ≠ 38 := by rintro rfl; exact h1 rfl
  have e2 : c ≠ 60 := by rintro rfl; exact h2 rfl
  have e3 : c ≠ 62 := by rintro rfl; exact h3 rfl
  have e4 : c ≠ 34 := by rintro rfl; exact h4 rfl
  simp [escB, e1, e2, e3, e4]

set_option maxRecDepth 100000 in
set_option maxHeartbeats 800000 in
theorem escape_any (s : ByteArray) (w : World) (hs : s.size ≤ 4000000) :
    Calls Try.prog 21 #[.string s] w fun e w' => e = .returned (.string ⟨(esc s.data.toList).toArray⟩) ∧ Below w.heap.size w w' := by
  go_enter Try.func21, Try.ntmps21
  go_wp2_with fail
  go_loopw [7] (fun i wr => ∃ k : Nat, k ≤ s.size ∧ i = .int .i64 k ∧ Bd w.heap.size w.heap.size (esc (s.data.toList.take k)) wr ∧ Below w.heap.size w wr) (fun i _ => s.size - (intOf i).toNat)
  case atStart => exact ⟨0, Nat.zero_le _, rfl, Lib.IsBuilderF.of (Lib.fresh_isBuilder 39 5 w), (Below.refl _ _).alloc (Nat.le_refl _) _⟩
  case round =>
    obtain ⟨k, hk, rfl, hbd, hbw⟩ := hrel
    have hw := hbw.size
    by_cases hlt : k < s.size
    · have hl := esc_take_len s k
      have HT := Lib.hid (esc_take s k hlt)
      have HBD := Lib.hid hbd; clear hbd
      have room : ∀ m, m ≤ 6 → (Lib.byteCells (esc (s.data.toList.take k))).length + m ≤ 140737488355328 := fun m hm => by rw [Lib.byteCells_length]; omega
      have HR := Lib.hid room; clear room
      clear hl
      by_cases h38 : (s[k].toNat : Int) = 38
      · have t38 : ((s[k].toNat : Int) == 38) = true := by rw [h38]; rfl
        have HE := Lib.hid (escB_38 h38); clear h38
        go_wp2_with (go_at_call 19; refine (writeString_any w.heap.size w.heap.size (Lib.byteCells (esc (s.data.toList.take k))) ⟨#[38, 97, 109, 112, 59]⟩ _ HBD.out (HR.out 5 (by decide)) hw).mono ?_; rintro e w1 ⟨rfl, hb1, hbel1⟩)
        go_roundw
        case rel =>
          refine ⟨k + 1, by omega, by go_num, ?_, hbw.trans hbel1⟩
          have := hb1
          rw [HT.out, HE.out]
          show Lib.IsBuilderF _ _ _ _ (Lib.byteCells (_ ++ amp)) _
          rw [Lib.byteCells_append]
          exact this
        case measure => simp [intOf]; omega
      have f38 : ((s[k].toNat : Int) == 38) = false := by simpa using h38
      by_cases h60 : (s[k].toNat : Int) = 60
      · have t60 : ((s[k].toNat : Int) == 60) = true := by rw [h60]; rfl
        have HE := Lib.hid (escB_60 h60); clear h60
        go_wp2_with (go_at_call 19; refine (writeString_any w.heap.size w.heap.size (Lib.byteCells (esc (s.data.toList.take k))) ⟨#[38, 108, 116, 59]⟩ _ HBD.out (HR.out 4 (by decide)) hw).mono ?_; rintro e w1 ⟨rfl, hb1, hbel1⟩)
        go_roundw
        case rel =>
          refine ⟨k + 1, by omega, by go_num, ?_, hbw.trans hbel1⟩
          have := hb1
          rw [HT.out, HE.out]
          show Lib.IsBuilderF _ _ _ _ (Lib.byteCells (_ ++ lt)) _
          rw [Lib.byteCells_append]
          exact this
        case measure => simp [intOf]; omega
      have f60 : ((s[k].toNat : Int) == 60) = false := by simpa using h60
      by_cases h62 : (s[k].toNat : Int) = 62
      · have t62 : ((s[k].toNat : Int) == 62) = true := by rw [h62]; rfl
        have HE := Lib.hid (escB_62 h62); clear h62
        go_wp2_with (go_at_call 19; refine (writeString_any w.heap.size w.heap.size (Lib.byteCells (esc (s.data.toList.take k))) ⟨#[38, 103, 116, 59]⟩ _ HBD.out (HR.out 4 (by decide)) hw).mono ?_; rintro e w1 ⟨rfl, hb1, hbel1⟩)
        go_roundw
        case rel =>
          refine ⟨k + 1, by omega, by go_num, ?_, hbw.trans hbel1⟩
          have := hb1
          rw [HT.out, HE.out]
          show Lib.IsBuilderF _ _ _ _ (Lib.byteCells (_ ++ gt)) _
          rw [Lib.byteCells_append]
          exact this
        case measure => simp [intOf]; omega
      have f62 : ((s[k].toNat : Int) == 62) = false := by simpa using h62
      by_cases h34 : (s[k].toNat : Int) = 34
      · have t34 : ((s[k].toNat : Int) == 34) = true := by rw [h34]; rfl
        have HE := Lib.hid (escB_34 h34); clear h34
        go_wp2_with (go_at_call 19; refine (writeString_any w.heap.size w.heap.size (Lib.byteCells (esc (s.data.toList.take k))) ⟨#[38, 113, 117, 111, 116, 59]⟩ _ HBD.out (HR.out 6 (by decide)) hw).mono ?_; rintro e w1 ⟨rfl, hb1, hbel1⟩)
        go_roundw
        case rel =>
          refine ⟨k + 1, by omega, by go_num, ?_, hbw.trans hbel1⟩
          have := hb1
          rw [HT.out, HE.out]
          show Lib.IsBuilderF _ _ _ _ (Lib.byteCells (_ ++ quot)) _
          rw [Lib.byteCells_append]
          exact this
        case measure => simp [intOf]; omega
      have f34 : ((s[k].toNat : Int) == 34) = false := by simpa using h34
      have HE := Lib.hid (escB_else h38 h60 h62 h34)
      clear h38 h60 h62 h34
      go_wp2_with (go_at_call 18; refine (writeByte_any w.heap.size w.heap.size (Lib.byteCells (esc (s.data.toList.take k))) _ _ HBD.out (HR.out 1 (by decide)) hw).mono ?_; rintro e w1 ⟨rfl, hb1, hbel1⟩)
      go_roundw
      case rel =>
        refine ⟨k + 1, by omega, by go_num, ?_, hbw.trans hbel1⟩
        have := hb1
        rw [HT.out, HE.out]
        show Lib.IsBuilderF _ _ _ _ (Lib.byteCells (_ ++ [s[k]])) _
        rw [Lib.byteCells_append]
        exact this
      case measure => simp [intOf]; omega
    · have hkn : k = s.size := by omega
      have HK := Lib.hid hkn; clear hkn
      go_wp2_with (go_at_call 22; refine (Try.Builder_String_any_k w.heap.size w.heap.size (esc (s.data.toList.take k)) _ hbd hw).mono ?_; rintro e w1 ⟨rfl, _, hbel1, _⟩)
      go_ret
      have e1 : esc (s.data.toList.take k) = esc s.data.toList := by rw [HK.out, List.take_of_length_le (by simp)]
      exact ⟨ret_str e1, hbw.trans hbel1⟩

/-- A string that is known by its bytes. -/
theorem str_of (l : List UInt8) : (⟨l.toArray⟩ : ByteArray).data.toList = l := rfl
theorem str_app (l : List UInt8) (s : ByteArray) : (⟨l.toArray⟩ : ByteArray) ++ s = ⟨(l ++ s.data.toList).toArray⟩ := by
  apply ByteArray.ext
  simp [ByteArray.data_append]
theorem str_size (l : List UInt8) : (⟨l.toArray⟩ : ByteArray).size = l.length := by
  show l.toArray.size = l.length
  simp

theorem str_next {o c : ByteArray} {a b : List UInt8} (ho : o = ⟨a.toArray⟩) (hb : b = a ++ c.data.toList) : Value.string (o ++ c) = .string ⟨b.toArray⟩ := by
  subst ho; subst hb
  rw [str_app]
theorem one_size (s : ByteArray) (k : Nat) (h : k < s.size) : (s.extract k (k + 1)).size = 1 := by
  rw [ByteArray.size_extract]; omega
theorem one_list (s : ByteArray) (k : Nat) (h : k < s.size) : (s.extract k (k + 1)).data.toList = [s[k]] := by
  rw [ByteArray.data_extract, Array.toList_extract]
  apply List.ext_getElem?
  intro i
  have hs : k < s.data.toList.length := by simpa using h
  rcases i with _ | i
  · simp [List.extract, h]
    rfl
  · simp [List.extract]; omega

set_option maxRecDepth 100000 in
set_option maxHeartbeats 800000 in
theorem escaped_any (s : ByteArray) (w : World) (hs : s.size ≤ 4000000) :
    Calls Try.prog 26 #[.string s] w fun e w' => e = .returned (.string ⟨(esc s.data.toList).toArray⟩) ∧ w = w' := by
  go_enter Try.func26, Try.ntmps26
  go_wp2_with fail
  go_loop [3, 4] (fun o i => ∃ k : Nat, k ≤ s.size ∧ i = .int .i64 k ∧ o = .string ⟨(esc (s.data.toList.take k)).toArray⟩) (fun _ i => s.size - (intOf i).toNat)
  case atStart => exact ⟨0, Nat.zero_le _, rfl, rfl⟩
  case round =>
    obtain ⟨k, hk, rfl, rfl⟩ := hrel
    by_cases hlt : k < s.size
    · have hl := esc_take_len s k
      have HT := Lib.hid (esc_take s k hlt)
      obtain ⟨o, ho⟩ : ∃ o : ByteArray, o = ⟨(esc (s.data.toList.take k)).toArray⟩ := ⟨_, rfl⟩
      have hol : o.size ≤ 6 * k := by rw [ho, str_size]; exact hl
      rw [← ho]
      have HO := Lib.hid ho; clear ho
      clear hl
      by_cases h38 : (s[k].toNat : Int) = 38
      · have t38 : ((s[k].toNat : Int) == 38) = true := by rw [h38]; rfl
        have HE := Lib.hid (escB_38 h38); clear h38
        have ha := fun wx => run_string_add_sum (P := Try.prog) (w := wx) o ⟨#[38, 97, 109, 112, 59]⟩ (by show o.size + 5 ≤ _; omega)
        go_wp2_with fail
        go_round
        case rel => exact ⟨k + 1, by omega, by go_num, str_next HO.out (by rw [HT.out, HE.out]; rfl)⟩
        case measure => simp [intOf]; omega
      have f38 : ((s[k].toNat : Int) == 38) = false := by simpa using h38
      by_cases h60 : (s[k].toNat : Int) = 60
      · have t60 : ((s[k].toNat : Int) == 60) = true := by rw [h60]; rfl
        have HE := Lib.hid (escB_60 h60); clear h60
        have ha := fun wx => run_string_add_sum (P := Try.prog) (w := wx) o ⟨#[38, 108, 116, 59]⟩ (by show o.size + 4 ≤ _; omega)
        go_wp2_with fail
        go_round
        case rel => exact ⟨k + 1, by omega, by go_num, str_next HO.out (by rw [HT.out, HE.out]; rfl)⟩
        case measure => simp [intOf]; omega
      have f60 : ((s[k].toNat : Int) == 60) = false := by simpa using h60
      by_cases h62 : (s[k].toNat : Int) = 62
      · have t62 : ((s[k].toNat : Int) == 62) = true := by rw [h62]; rfl
        have HE := Lib.hid (escB_62 h62); clear h62
        have ha := fun wx => run_string_add_sum (P := Try.prog) (w := wx) o ⟨#[38, 103, 116, 59]⟩ (by show o.size + 4 ≤ _; omega)
        go_wp2_with fail
        go_round
        case rel => exact ⟨k + 1, by omega, by go_num, str_next HO.out (by rw [HT.out, HE.out]; rfl)⟩
        case measure => simp [intOf]; omega
      have f62 : ((s[k].toNat : Int) == 62) = false := by simpa using h62
      by_cases h34 : (s[k].toNat : Int) = 34
      · have t34 : ((s[k].toNat : Int) == 34) = true := by rw [h34]; rfl
        have HE := Lib.hid (escB_34 h34); clear h34
        have ha := fun wx => run_string_add_sum (P := Try.prog) (w := wx) o ⟨#[38, 113, 117, 111, 116, 59]⟩ (by show o.size + 6 ≤ _; omega)
        go_wp2_with fail
        go_round
        case rel => exact ⟨k + 1, by omega, by go_num, str_next HO.out (by rw [HT.out, HE.out]; rfl)⟩
        case measure => simp [intOf]; omega
      have f34 : ((s[k].toNat : Int) == 34) = false := by simpa using h34
      have HE := Lib.hid (escB_else h38 h60 h62 h34)
      clear h38 h60 h62 h34
      have ha := fun wx => run_string_add_sum (P := Try.prog) (w := wx) o (s.extract k (k + 1)) (by rw [one_size s k hlt]; omega)
      go_wp2_with fail
      go_round
      case rel => exact ⟨k + 1, by omega, by go_num, str_next HO.out (by rw [HT.out, HE.out, one_list s k hlt])⟩
      case measure => simp [intOf]; omega
    · have hkn : k = s.size := by omega
      have HK := Lib.hid hkn; clear hkn
      go_wp2_with fail
      go_ret
      have e1 : esc (s.data.toList.take k) = esc s.data.toList := by rw [HK.out, List.take_of_length_le (by simp)]
      exact ⟨ret_str e1, rfl⟩

theorem head_list (s : ByteArray) (h : 0 < s.size) : s.data.toList.headD 0 = s[0] := by
  have : s.data.toList = s[0] :: s.data.toList.drop 1 := by
    have e := List.drop_eq_getElem_cons (l := s.data.toList) (i := 0) (by simpa using h)
    simp only [List.drop_zero, Nat.zero_add] at e
    exact e
  rw [this]; rfl

def strLen : Value → Nat
  | .string s => s.size
  | _ => 0
theorem rest_list (r : ByteArray) (wd : Nat) : (r.extract wd r.size).data.toList = r.data.toList.drop wd := by
  rw [ByteArray.data_extract, Array.toList_extract]
  have : r.data.toList.length = r.size := by simp
  simp only [List.extract]
  exact List.take_of_length_le (by rw [List.length_drop]; omega)
theorem empty_list (r : ByteArray) (h : r.size = 0) : r.data.toList = [] := by
  apply List.eq_nil_of_length_eq_zero
  simpa using h
theorem toList_eq (r : ByteArray) : r.toList = r.data.toList := by exact Lib.toList_data r

end Go.Proofs.Ytfgekmfkaepgjaa
