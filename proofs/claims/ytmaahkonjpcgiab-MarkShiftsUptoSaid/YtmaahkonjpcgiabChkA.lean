/- DERIVED. What the small functions of Check and of DocError return: bytes, kinds. Condition: strings shorter than 2^63 bytes. -/
import Derived.Test.YtmaahkonjpcgiabRows
import Derived.Test.YtmaahkonjpcgiabShelf
import Derived.Test.YtmaahkonjpcgiabChkPlain
import Derived.WalkKit
import Derived.WalkSpells
import Derived.WalkLawsBesides
import Derived.Lib.Hide
import Derived.Lib.IndexLaws
namespace Go.Proofs.Ytmaahkonjpcgiab
open Go.RowKit

theorem retB {a b : Bool} (h : a = b) : Ending.returned (.bool b) = .returned (.bool a) := by rw [h]
theorem indexB {al : ByteArray} {c : UInt8} : (∃ o : Nat, Lib.indexByte al.data.toList c = o ∧ al.data.toList.contains c = true) ∨ (Lib.indexByte al.data.toList c = -1 ∧ al.data.toList.contains c = false) := by
  have h := Lib.indexByte_ge al.data.toList c
  by_cases h1 : Lib.indexByte al.data.toList c = -1
  · refine .inr ⟨h1, ?_⟩
    have hn := Lib.indexByte_none h1
    cases hc : al.data.toList.contains c with
    | false => rfl
    | true =>
      obtain ⟨i, hi⟩ := List.mem_iff_getElem?.1 (List.contains_iff_mem.1 hc)
      exact absurd hi (hn i)
  · obtain ⟨o, ho⟩ : ∃ o : Nat, Lib.indexByte al.data.toList c = o := ⟨(Lib.indexByte al.data.toList c).toNat, by omega⟩
    exact .inl ⟨o, ho, List.contains_iff_mem.2 (List.mem_iff_getElem?.2 ⟨o, (Lib.indexByte_some ho).1⟩)⟩

set_option maxRecDepth 100000 in
set_option maxHeartbeats 400000 in
theorem hasControl_any (s al : ByteArray) (w : World) (hs : s.size ≤ 9223372036854775807) :
    Calls Try.prog 20 #[.string s, .string al] w fun e w' => e = .returned (.bool (ctl al.data.toList s.data.toList)) ∧ w = w' := by
  go_enter Try.func20, Try.ntmps20
  go_wp2_with fail
  go_loop [8] (fun i => ∃ k : Nat, k ≤ s.size ∧ i = .int .i64 k ∧ (s.data.toList.take k).any (ctlB al.data.toList) = false) (fun i => s.size - (intOf i).toNat)
  case atStart => exact ⟨0, Nat.zero_le _, rfl, rfl⟩
  case round =>
    obtain ⟨k, hk, rfl, h0⟩ := hrel
    have H0 := Lib.hid h0; clear h0
    by_cases hlt : k < s.size
    · by_cases h32 : (s[k].toNat : Int) < 32
      · rcases (@indexB al s[k]) with ⟨o, ho, hc⟩ | ⟨ho, hc⟩
        · have hcall : ∀ wx, Calls Try.prog 35 #[.string al, .int .u8 s[k].toNat] wx fun e w' => e = .returned (.int .i64 o) ∧ wx = w' := fun wx => by
            refine (Try.strings_IndexByte al (s[k].toNat : Int) wx).mono ?_
            rintro e w' ⟨rfl, rfl⟩
            exact ⟨by rw [← ho]; congr 4; exact UInt8.toNat.inj (by simp), rfl⟩
          have HC := Lib.hid hcall; clear hcall
          have hp : ctlB al.data.toList s[k] = false := by simp only [ctlB, hc]; simp
          have HP := Lib.hid hp; clear hp ho hc
          go_wp2_with fail
          refine (HC.out _).mono ?_
          rintro e w' ⟨rfl, rfl⟩
          go_wp2_with fail
          go_round
          case rel => exact ⟨k + 1, by omega, by go_num, any_snoc hlt H0.out HP.out⟩
          case measure => simp [intOf]; omega
        · have hcall : ∀ wx, Calls Try.prog 35 #[.string al, .int .u8 s[k].toNat] wx fun e w' => e = .returned (.int .i64 (-1)) ∧ wx = w' := fun wx => by
            refine (Try.strings_IndexByte al (s[k].toNat : Int) wx).mono ?_
            rintro e w' ⟨rfl, rfl⟩
            exact ⟨by rw [← ho]; congr 4; exact UInt8.toNat.inj (by simp), rfl⟩
          have HC := Lib.hid hcall; clear hcall
          have hp : ctlB al.data.toList s[k] = true := by simp only [ctlB, hc]; simp; omega
          have HP := Lib.hid hp; clear hp ho hc
          go_wp2_with fail
          refine (HC.out _).mono ?_
          rintro e w' ⟨rfl, rfl⟩
          go_wp2_with fail
          go_ret
          exact ⟨retB (any_hit hlt HP.out), rfl⟩
      · have hp : ctlB al.data.toList s[k] = false := by simp [ctlB]; omega
        have HP := Lib.hid hp; clear hp
        go_wp2_with fail
        go_round
        case rel => exact ⟨k + 1, by omega, by go_num, any_snoc hlt H0.out HP.out⟩
        case measure => simp [intOf]; omega
    · have hks : k = s.size := by omega
      have HK := Lib.hid hks; clear hks
      go_wp2_with fail
      go_ret
      exact ⟨retB (any_all HK.out H0.out), rfl⟩

set_option maxRecDepth 100000 in
set_option maxHeartbeats 400000 in
theorem badBytes_any (s : ByteArray) (tab feed : Bool) (w : World) (hs : s.size ≤ 9223372036854775807) :
    Calls Try.prog 44 #[.string s, .bool tab, .bool feed] w fun e w' => e = .returned (.bool (ctl (al1 tab feed) s.data.toList)) ∧ w = w' := by
  go_enter Try.func44, Try.ntmps44
  go_wp2_with fail
  go_loop [7] (fun i => ∃ k : Nat, k ≤ s.size ∧ i = .int .i64 k ∧ (s.data.toList.take k).any (ctlB (al1 tab feed)) = false) (fun i => s.size - (intOf i).toNat)
  case atStart => exact ⟨0, Nat.zero_le _, rfl, rfl⟩
  case round =>
    obtain ⟨k, hk, rfl, h0⟩ := hrel
    have H0 := Lib.hid h0; clear h0
    by_cases hlt : k < s.size
    · have four : (32 : Int) ≤ s[k].toNat ∨ s[k] = 9 ∨ s[k] = 10 ∨ ((s[k].toNat : Int) < 32 ∧ s[k] ≠ 9 ∧ s[k] ≠ 10) := by
        by_cases a : (32 : Int) ≤ s[k].toNat
        · exact .inl a
        · by_cases b : s[k] = 9
          · exact .inr (.inl b)
          · by_cases c : s[k] = 10
            · exact .inr (.inr (.inl c))
            · exact .inr (.inr (.inr ⟨by omega, b, c⟩))
      rcases four with h | h | h | ⟨h, h9, h10⟩
      · have hp : ctlB (al1 tab feed) s[k] = false := by simp [ctlB]; omega
        have HP := Lib.hid hp; clear hp
        go_wp2_with fail
        go_round
        case rel => exact ⟨k + 1, by omega, by go_num, any_snoc hlt H0.out HP.out⟩
        case measure => simp [intOf]; omega
      · have t32 : (s[k].toNat : Int) < 32 := by rw [h]; decide
        have t9 : ((s[k].toNat : Int) == 9) = true := by rw [h]; rfl
        have t10 : ((s[k].toNat : Int) == 10) = false := by rw [h]; rfl
        cases tab
        · cases feed
          · have hp : ctlB (al1 false false) s[k] = true := by rw [h]; rfl
            have HP := Lib.hid hp; clear hp h
            go_wp2_with fail
            go_ret
            exact ⟨retB (any_hit hlt HP.out), rfl⟩
          · have hp : ctlB (al1 false true) s[k] = true := by rw [h]; rfl
            have HP := Lib.hid hp; clear hp h
            go_wp2_with fail
            go_ret
            exact ⟨retB (any_hit hlt HP.out), rfl⟩
        · cases feed
          · have hp : ctlB (al1 true false) s[k] = false := by rw [h]; rfl
            have HP := Lib.hid hp; clear hp h
            go_wp2_with fail
            go_round
            case rel => exact ⟨k + 1, by omega, by go_num, any_snoc hlt H0.out HP.out⟩
            case measure => simp [intOf]; omega
          · have hp : ctlB (al1 true true) s[k] = false := by rw [h]; rfl
            have HP := Lib.hid hp; clear hp h
            go_wp2_with fail
            go_round
            case rel => exact ⟨k + 1, by omega, by go_num, any_snoc hlt H0.out HP.out⟩
            case measure => simp [intOf]; omega
      · have t32 : (s[k].toNat : Int) < 32 := by rw [h]; decide
        have t9 : ((s[k].toNat : Int) == 9) = false := by rw [h]; rfl
        have t10 : ((s[k].toNat : Int) == 10) = true := by rw [h]; rfl
        cases tab
        · cases feed
          · have hp : ctlB (al1 false false) s[k] = true := by rw [h]; rfl
            have HP := Lib.hid hp; clear hp h
            go_wp2_with fail
            go_ret
            exact ⟨retB (any_hit hlt HP.out), rfl⟩
          · have hp : ctlB (al1 false true) s[k] = false := by rw [h]; rfl
            have HP := Lib.hid hp; clear hp h
            go_wp2_with fail
            go_round
            case rel => exact ⟨k + 1, by omega, by go_num, any_snoc hlt H0.out HP.out⟩
            case measure => simp [intOf]; omega
        · cases feed
          · have hp : ctlB (al1 true false) s[k] = true := by rw [h]; rfl
            have HP := Lib.hid hp; clear hp h
            go_wp2_with fail
            go_ret
            exact ⟨retB (any_hit hlt HP.out), rfl⟩
          · have hp : ctlB (al1 true true) s[k] = false := by rw [h]; rfl
            have HP := Lib.hid hp; clear hp h
            go_wp2_with fail
            go_round
            case rel => exact ⟨k + 1, by omega, by go_num, any_snoc hlt H0.out HP.out⟩
            case measure => simp [intOf]; omega
      · have t9 : ((s[k].toNat : Int) == 9) = false := by simp; intro e; exact h9 (UInt8.toNat_inj.1 (by show s[k].toNat = 9; omega))
        have t10 : ((s[k].toNat : Int) == 10) = false := by simp; intro e; exact h10 (UInt8.toNat_inj.1 (by show s[k].toNat = 10; omega))
        cases tab
        · cases feed
          · have hp : ctlB (al1 false false) s[k] = true := by simp [ctlB, al1]; omega
            have HP := Lib.hid hp; clear hp h9 h10
            go_wp2_with fail
            go_ret
            exact ⟨retB (any_hit hlt HP.out), rfl⟩
          · have hp : ctlB (al1 false true) s[k] = true := by simp [ctlB, al1, h10]; omega
            have HP := Lib.hid hp; clear hp h9 h10
            go_wp2_with fail
            go_ret
            exact ⟨retB (any_hit hlt HP.out), rfl⟩
        · cases feed
          · have hp : ctlB (al1 true false) s[k] = true := by simp [ctlB, al1, h9]; omega
            have HP := Lib.hid hp; clear hp h9 h10
            go_wp2_with fail
            go_ret
            exact ⟨retB (any_hit hlt HP.out), rfl⟩
          · have hp : ctlB (al1 true true) s[k] = true := by simp [ctlB, al1, h9, h10]; omega
            have HP := Lib.hid hp; clear hp h9 h10
            go_wp2_with fail
            go_ret
            exact ⟨retB (any_hit hlt HP.out), rfl⟩
    · have hks : k = s.size := by omega
      have HK := Lib.hid hks; clear hks
      go_wp2_with fail
      go_ret
      exact ⟨retB (any_all HK.out H0.out), rfl⟩
end Go.Proofs.Ytmaahkonjpcgiab
