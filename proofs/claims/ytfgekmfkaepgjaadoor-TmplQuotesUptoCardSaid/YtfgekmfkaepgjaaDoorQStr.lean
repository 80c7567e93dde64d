/- DERIVED. What quoteString of the reference returns. Condition: at most 2^50 bytes. -/
import Derived.Test.YtfgekmfkaepgjaaDoorQuoter
namespace Go.Proofs.YtfgekmfkaepgjaaDoor
set_option linter.unusedVariables false
open Go.RowKit
theorem qs_app (l : List UInt8) (s : ByteArray) : (⟨l.toArray⟩ : ByteArray) ++ s = ⟨(l ++ s.data.toList).toArray⟩ := by
  apply ByteArray.ext
  simp [ByteArray.data_append]
theorem qs_next {o c : ByteArray} {a b : List UInt8} (ho : o = ⟨a.toArray⟩) (hb : b = a ++ c.data.toList) : Value.string (o ++ c) = .string ⟨b.toArray⟩ := by
  subst ho; subst hb
  rw [qs_app]
theorem qs_size (s : ByteArray) (k : Nat) (h : k < s.size) : (s.extract k (k + 1)).size = 1 := by
  rw [ByteArray.size_extract]; omega
theorem qs_one (s : ByteArray) (k : Nat) (h : k < s.size) : (s.extract k (k + 1)).data.toList = [s[k]] := by
  rw [ByteArray.data_extract, Array.toList_extract]
  apply List.ext_getElem?
  intro i
  have hs : k < s.data.toList.length := by simpa using h
  rcases i with _ | i
  · simp [List.extract, h]
    rfl
  · simp [List.extract]; omega
theorem lo_piece (a : Nat) (h : a < 16) : (ByteArray.mk #[48, 49, 50, 51, 52, 53, 54, 55, 56, 57, 97, 98, 99, 100, 101, 102]).extract a (a + 1) = ⟨#[dg loD a]⟩ := by
  apply ByteArray.ext
  have h2 := qs_one (ByteArray.mk #[48, 49, 50, 51, 52, 53, 54, 55, 56, 57, 97, 98, 99, 100, 101, 102]) a h
  have h3 := dg_at (ByteArray.mk #[48, 49, 50, 51, 52, 53, 54, 55, 56, 57, 97, 98, 99, 100, 101, 102]) a h
  apply Array.toList_inj.1
  rw [h2, h3]
  rfl

set_option maxRecDepth 100000 in
set_option maxHeartbeats 2000000 in
theorem quoteStr_any (s : ByteArray) (w : World) (hs : s.size ≤ 1125899906842624) :
    Calls Tryd.prog 18 #[.string s] w fun e w' => e = .returned (.string ⟨(qS s.data.toList).toArray⟩) ∧ Below w.heap.size w w' := by
  have hb0 := Below.refl w.heap.size w
  go_enter Tryd.func18, Tryd.ntmps18
  go_wp2_with fail
  go_loopw [3, 4] (fun o i wr => ∃ k : Nat, k ≤ s.size ∧ i = .int .i64 k ∧ o = .string ⟨(34 :: qcs (s.data.toList.take k)).toArray⟩ ∧ Below w.heap.size w wr) (fun _ i _ => s.size - (intOf i).toNat)
  case atStart => exact ⟨0, Nat.zero_le _, rfl, rfl, hb0⟩
  case round =>
    obtain ⟨k, hk, rfl, rfl, hbw⟩ := hrel
    have hl6 := qcs_len (s.data.toList.take k)
    have hlk : (s.data.toList.take k).length ≤ k := List.length_take_le _ _
    obtain ⟨o, ho⟩ : ∃ o : ByteArray, o = ⟨(34 :: qcs (s.data.toList.take k)).toArray⟩ := ⟨_, rfl⟩
    have hol : o.size ≤ 6 * k + 1 := by rw [ho]; show (34 :: qcs (s.data.toList.take k)).toArray.size ≤ _; simp; omega
    rw [← ho]
    have HO := Lib.hid ho; clear ho hl6 hlk
    by_cases hlt : k < s.size
    · obtain ⟨c, hc⟩ : ∃ c : UInt8, s[k]'hlt = c := ⟨_, rfl⟩
      have ht : (34 :: qcs (s.data.toList.take (k + 1))) = (34 :: qcs (s.data.toList.take k)) ++ qc c := by
        rw [List.take_succ_eq_append_getElem (by simpa using hlt), qcs_snoc]
        rw [show s.data.toList[k]'(by simpa using hlt) = c from hc]
        rfl
      have HT := Lib.hid ht; clear ht
      by_cases h34 : (c.toNat : Int) = 34
      · have HC := Lib.hid (show c = 34 from UInt8.toNat_inj.1 (by show c.toNat = 34; omega))
        have HE := Lib.hid (show qc c = [92, 34] by unfold qc; rw [if_pos (by simp [h34]), HC.out])
        have HPC := Lib.hid (show (ByteArray.mk #[92] ++ s.extract k (k + 1)).data.toList = [92, 34] by rw [ByteArray.data_append, Array.toList_append, qs_one s k hlt, hc]; simp [HC.out])
        have p1 := fun wx => run_string_add_sum (P := Tryd.prog) (w := wx) (ByteArray.mk #[92]) (s.extract k (k + 1)) (by rw [qs_size s k hlt]; show 1 + 1 ≤ _; omega)
        have p2 := fun wx => run_string_add_sum (P := Tryd.prog) (w := wx) o (ByteArray.mk #[92] ++ s.extract k (k + 1)) (by rw [ByteArray.size_append, qs_size s k hlt]; show o.size + (1 + 1) ≤ _; omega)
        go_wp2_with fail
        go_roundw
        case rel => exact ⟨k + 1, by omega, by go_num, qs_next HO.out (by rw [HT.out, HE.out, HPC.out]), by first | exact hbw | exact below_drewN hbw _⟩
        case measure => simp [intOf]; omega
      · by_cases h92 : (c.toNat : Int) = 92
        · have HC := Lib.hid (show c = 92 from UInt8.toNat_inj.1 (by show c.toNat = 92; omega))
          have HE := Lib.hid (show qc c = [92, 92] by unfold qc; rw [if_pos (by simp [h92]), HC.out])
          have HPC := Lib.hid (show (ByteArray.mk #[92] ++ s.extract k (k + 1)).data.toList = [92, 92] by rw [ByteArray.data_append, Array.toList_append, qs_one s k hlt, hc]; simp [HC.out])
          have p1 := fun wx => run_string_add_sum (P := Tryd.prog) (w := wx) (ByteArray.mk #[92]) (s.extract k (k + 1)) (by rw [qs_size s k hlt]; show 1 + 1 ≤ _; omega)
          have p2 := fun wx => run_string_add_sum (P := Tryd.prog) (w := wx) o (ByteArray.mk #[92] ++ s.extract k (k + 1)) (by rw [ByteArray.size_append, qs_size s k hlt]; show o.size + (1 + 1) ≤ _; omega)
          go_wp2_with fail
          go_roundw
          case rel => exact ⟨k + 1, by omega, by go_num, qs_next HO.out (by rw [HT.out, HE.out, HPC.out]), by first | exact hbw | exact below_drewN hbw _⟩
          case measure => simp [intOf]; omega
        · have hAB : ((c.toNat : Int) == 34 || (c.toNat : Int) == 92) = false := by simp [h34, h92]
          have HE0 := Lib.hid (show qc c = if (decide ((c.toNat : Int) < 32) || qset.contains c) = true then qhex c else [c] by unfold qc; rw [if_neg (by simp [h34, h92])])
          by_cases h32 : (c.toNat : Int) < 32
          · have HE := Lib.hid (show qc c = qhex c by rw [HE0.out]; simp [h32])
            go_wp2_with fail
            obtain ⟨a, ha⟩ : ∃ a : Nat, c.toNat / 16 = a := ⟨_, rfl⟩
            obtain ⟨b, hb⟩ : ∃ b : Nat, c.toNat % 16 = b := ⟨_, rfl⟩
            have hc255 := c.toNat_lt
            have ea := lo_piece a (by omega)
            have eb := lo_piece b (by omega)
            have HQH := Lib.hid (show qhex c = [92, 117, 48, 48, dg loD a, dg loD b] by unfold qhex; rw [ha, hb])
            have p1 := fun wx => run_string_add_sum (P := Tryd.prog) (w := wx) (ByteArray.mk #[92, 117, 48, 48]) (ByteArray.mk #[dg loD a]) (by show 4 + 1 ≤ _; omega)
            have p2 := fun wx => run_string_add_sum (P := Tryd.prog) (w := wx) (ByteArray.mk #[92, 117, 48, 48] ++ ByteArray.mk #[dg loD a]) (ByteArray.mk #[dg loD b]) (by show 5 + 1 ≤ _; omega)
            rw [show (ByteArray.mk #[92, 117, 48, 48] ++ ByteArray.mk #[dg loD a]) ++ ByteArray.mk #[dg loD b] = ⟨#[92, 117, 48, 48, dg loD a, dg loD b]⟩ from rfl] at p2
            have p3 := fun wx => run_string_add_sum (P := Tryd.prog) (w := wx) o (ByteArray.mk #[92, 117, 48, 48, dg loD a, dg loD b]) (by show o.size + 6 ≤ _; omega)
            have hai : (c.toNat : Int) / 16 = (a : Int) := by omega
            have hbi : (c.toNat : Int) % 16 = (b : Int) := by omega
            have ha15 : a ≤ 15 := by omega
            have hb15 : b ≤ 15 := by omega
            have hc0 : (0 : Int) ≤ (c.toNat : Int) := by omega
            have hc1 : (c.toNat : Int) ≤ 255 := by omega
            have wa : IntKind.u8.wrap ((a : Int) + 1) = (a : Int) + 1 := by unfold IntKind.wrap; simp [IntKind.bits, IntKind.signed]; omega
            have wb : IntKind.u8.wrap ((b : Int) + 1) = (b : Int) + 1 := by unfold IntKind.wrap; simp [IntKind.bits, IntKind.signed]; omega
            have ta : ((a : Int) + 1).toNat = a + 1 := by omega
            have tb : ((b : Int) + 1).toNat = b + 1 := by omega
            clear ha hb
            go_quiet (fail)
            go_wp2_with fail
            go_roundw
            case rel => exact ⟨k + 1, by omega, by go_num, qs_next HO.out (by rw [HT.out, HE.out, HQH.out]), by first | exact hbw | exact below_drewN hbw _⟩
            case measure => simp [intOf]; omega
          · have HI := Lib.hid (fun wX => ib4 c wX)
            have hcon := con4 c
            generalize Lib.indexByte (ByteArray.mk #[60, 62, 38, 39]).data.toList c = o1 at HI hcon
            by_cases hI : 0 ≤ o1
            · have HE := Lib.hid (show qc c = qhex c by rw [HE0.out, hcon]; simp [hI])
              clear hcon
              go_wp2_with fail
              refine (HI.out _).mono ?_
              rintro e w9 ⟨rfl, hw⟩
              rw [hw]
              clear hw w9
              dsimp only
              go_wp2_with fail
              obtain ⟨a, ha⟩ : ∃ a : Nat, c.toNat / 16 = a := ⟨_, rfl⟩
              obtain ⟨b, hb⟩ : ∃ b : Nat, c.toNat % 16 = b := ⟨_, rfl⟩
              have hc255 := c.toNat_lt
              have ea := lo_piece a (by omega)
              have eb := lo_piece b (by omega)
              have HQH := Lib.hid (show qhex c = [92, 117, 48, 48, dg loD a, dg loD b] by unfold qhex; rw [ha, hb])
              have p1 := fun wx => run_string_add_sum (P := Tryd.prog) (w := wx) (ByteArray.mk #[92, 117, 48, 48]) (ByteArray.mk #[dg loD a]) (by show 4 + 1 ≤ _; omega)
              have p2 := fun wx => run_string_add_sum (P := Tryd.prog) (w := wx) (ByteArray.mk #[92, 117, 48, 48] ++ ByteArray.mk #[dg loD a]) (ByteArray.mk #[dg loD b]) (by show 5 + 1 ≤ _; omega)
              rw [show (ByteArray.mk #[92, 117, 48, 48] ++ ByteArray.mk #[dg loD a]) ++ ByteArray.mk #[dg loD b] = ⟨#[92, 117, 48, 48, dg loD a, dg loD b]⟩ from rfl] at p2
              have p3 := fun wx => run_string_add_sum (P := Tryd.prog) (w := wx) o (ByteArray.mk #[92, 117, 48, 48, dg loD a, dg loD b]) (by show o.size + 6 ≤ _; omega)
              have hai : (c.toNat : Int) / 16 = (a : Int) := by omega
              have hbi : (c.toNat : Int) % 16 = (b : Int) := by omega
              have ha15 : a ≤ 15 := by omega
              have hb15 : b ≤ 15 := by omega
              have hc0 : (0 : Int) ≤ (c.toNat : Int) := by omega
              have hc1 : (c.toNat : Int) ≤ 255 := by omega
              have wa : IntKind.u8.wrap ((a : Int) + 1) = (a : Int) + 1 := by unfold IntKind.wrap; simp [IntKind.bits, IntKind.signed]; omega
              have wb : IntKind.u8.wrap ((b : Int) + 1) = (b : Int) + 1 := by unfold IntKind.wrap; simp [IntKind.bits, IntKind.signed]; omega
              have ta : ((a : Int) + 1).toNat = a + 1 := by omega
              have tb : ((b : Int) + 1).toNat = b + 1 := by omega
              clear ha hb
              go_quiet (fail)
              go_wp2_with fail
              go_roundw
              case rel => exact ⟨k + 1, by omega, by go_num, qs_next HO.out (by rw [HT.out, HE.out, HQH.out]), by first | exact hbw | exact below_drewN hbw _⟩
              case measure => simp [intOf]; omega
            · have HE := Lib.hid (show qc c = [c] by rw [HE0.out, hcon]; simp [h32, hI])
              clear hcon
              go_wp2_with fail
              refine (HI.out _).mono ?_
              rintro e w9 ⟨rfl, hw⟩
              rw [hw]
              clear hw w9
              dsimp only
              have HPC := Lib.hid (show (s.extract k (k + 1)).data.toList = [c] by rw [qs_one s k hlt, hc])
              have p1 := fun wx => run_string_add_sum (P := Tryd.prog) (w := wx) o (s.extract k (k + 1)) (by rw [qs_size s k hlt]; omega)
              go_wp2_with fail
              go_roundw
              case rel => exact ⟨k + 1, by omega, by go_num, qs_next HO.out (by rw [HT.out, HE.out, HPC.out]), by first | exact hbw | exact below_drewN hbw _⟩
              case measure => simp [intOf]; omega
    · have hkn : k = s.size := by omega
      have HK := Lib.hid hkn; clear hkn
      have p1 := fun wx => run_string_add_sum (P := Tryd.prog) (w := wx) o (ByteArray.mk #[34]) (by show o.size + 1 ≤ _; omega)
      go_wp2_with fail
      go_ret
      exact ⟨by rw [show qS s.data.toList = (34 :: qcs (s.data.toList.take k)) ++ (ByteArray.mk #[34]).data.toList by rw [HK.out, List.take_of_length_le (by simp)]; rfl, ← qs_app, ← HO.out]; rfl, hbw⟩
end Go.Proofs.YtfgekmfkaepgjaaDoor
