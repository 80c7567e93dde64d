/- DERIVED. What AddrEscaped of the reference returns: what EscapeAddr returns. Condition: at most 200000 bytes. -/
import Derived.Test.YtfgekmfkaepgjaaTEsc
namespace Go.Proofs.Ytfgekmfkaepgjaa
set_option linter.unusedVariables false
open Go.RowKit
open EscPlain
theorem up_piece (a : Nat) (h : a < 16) : (ByteArray.mk #[48, 49, 50, 51, 52, 53, 54, 55, 56, 57, 65, 66, 67, 68, 69, 70]).extract a (a + 1) = ⟨#[dg upD a]⟩ := by
  apply ByteArray.ext
  have h2 := one_list (ByteArray.mk #[48, 49, 50, 51, 52, 53, 54, 55, 56, 57, 65, 66, 67, 68, 69, 70]) a h
  have h3 := dg_at (ByteArray.mk #[48, 49, 50, 51, 52, 53, 54, 55, 56, 57, 65, 66, 67, 68, 69, 70]) a h
  apply Array.toList_inj.1
  rw [h2, h3]
  rfl
theorem pct_str (c : UInt8) : (ByteArray.mk #[37] ++ ByteArray.mk #[dg upD (c.toNat / 16)]) ++ ByteArray.mk #[dg upD (c.toNat % 16)] = ⟨(pct c).toArray⟩ := rfl

set_option maxRecDepth 100000 in
set_option maxHeartbeats 1000000 in
theorem addrEscapedF_any (s : ByteArray) (w : World) (hs : s.size ≤ 200000) :
    Calls Try.prog 7 #[.string s, .bool false] w fun e w' => e = .returned (.string ⟨(esc (addrE false s.data.toList)).toArray⟩) ∧ Below w.heap.size w w' := by
  have hb0 := Below.refl w.heap.size w
  go_enter Try.func7, Try.ntmps7
  go_wp2_with fail
  go_loopw [5, 6] (fun o i wr => ∃ k : Nat, k ≤ s.size ∧ i = .int .i64 k ∧ o = .string ⟨(addrE false (s.data.toList.take k)).toArray⟩ ∧ Below w.heap.size w wr) (fun _ i _ => s.size - (intOf i).toNat)
  case atStart => exact ⟨0, Nat.zero_le _, rfl, rfl, hb0⟩
  case round =>
    obtain ⟨k, hk, rfl, rfl, hbw⟩ := hrel
    by_cases hlt : k < s.size
    · have hl := addrE_take_len false s k
      obtain ⟨c, hc⟩ : ∃ c : UInt8, s[k]'hlt = c := ⟨_, rfl⟩
      have ht := addrE_take false s k hlt
      rw [hc] at ht
      have HT := Lib.hid ht; clear ht
      obtain ⟨o, ho⟩ : ∃ o : ByteArray, o = ⟨(addrE false (s.data.toList.take k)).toArray⟩ := ⟨_, rfl⟩
      have hol : o.size ≤ 3 * k := by rw [ho, str_size]; exact hl
      rw [← ho]
      have HO := Lib.hid ho; clear ho hl
      have HC := Lib.hid (fun wX => isLetterR_any c wX)
      have HD := Lib.hid (fun wX => isDigitR_any c wX)
      have H1 := Lib.hid (fun wX => ib1 c wX)
      have H2 := Lib.hid (fun wX => ib2 c wX)
      have hco1 := con1 c
      have hco2 := con2 c
      generalize Lib.indexByte (ByteArray.mk #[45, 95, 46, 126]).data.toList c = o1 at H1 hco1
      generalize Lib.indexByte (ByteArray.mk #[58, 47, 63, 35, 61, 38, 37, 43, 44, 64]).data.toList c = o2 at H2 hco2
      have he : escA false c = if (letB c || digB c || oth1.contains c) = true then [c] else if (false && oth2.contains c) = true then [c] else pct c := rfl
      cases hLt : letB c
      · rw [hLt] at HC he
        cases hDg : digB c
        · rw [hDg] at HD he
          cases hO1 : oth1.contains c
          · rw [hO1] at hco1 he
            have n1 : ¬ (0 : Int) ≤ o1 := of_decide_eq_false hco1.symm
            clear hco1
            have HE := Lib.hid he
            clear hco2 he
            have HPC := Lib.hid (show (ByteArray.mk (pct c).toArray).data.toList = pct c from rfl)
            go_wp2_with fail
            refine (HC.out _).mono ?_
            rintro e w9 ⟨rfl, hw⟩
            rw [hw]
            clear hw w9
            dsimp only
            go_wp2_with fail
            refine (HD.out _).mono ?_
            rintro e w9 ⟨rfl, hw⟩
            rw [hw]
            clear hw w9
            dsimp only
            go_wp2_with fail
            refine (H1.out _).mono ?_
            rintro e w9 ⟨rfl, hw⟩
            rw [hw]
            clear hw w9
            dsimp only
            go_wp2_with fail
            obtain ⟨a, ha⟩ : ∃ a : Nat, c.toNat / 16 = a := ⟨_, rfl⟩
            obtain ⟨b, hb⟩ : ∃ b : Nat, c.toNat % 16 = b := ⟨_, rfl⟩
            have hps := pct_str c
            rw [ha, hb] at hps
            have hc255 := c.toNat_lt
            have ea := up_piece a (by omega)
            have eb := up_piece b (by omega)
            have p1 := fun wx => run_string_add_sum (P := Try.prog) (w := wx) (ByteArray.mk #[37]) (ByteArray.mk #[dg upD a]) (by show 1 + 1 ≤ _; omega)
            have p2 := fun wx => run_string_add_sum (P := Try.prog) (w := wx) (ByteArray.mk #[37] ++ ByteArray.mk #[dg upD a]) (ByteArray.mk #[dg upD b]) (by show 2 + 1 ≤ _; omega)
            rw [hps] at p2
            have p3 := fun wx => run_string_add_sum (P := Try.prog) (w := wx) o (ByteArray.mk (pct c).toArray) (by show o.size + 3 ≤ _; omega)
            have hai : (c.toNat : Int) / 16 = (a : Int) := by omega
            have hbi : (c.toNat : Int) % 16 = (b : Int) := by omega
            have ha15 : a ≤ 15 := by omega
            have hb15 : b ≤ 15 := by omega
            have hc0 : (0 : Int) ≤ (c.toNat : Int) := by omega
            have hc1 : (c.toNat : Int) ≤ 255 := by omega
            have wa : IntKind.u8.wrap ((a : Int) + 1) = (a : Int) + 1 := by unfold IntKind.wrap; simp [IntKind.bits, IntKind.signed]; omega
            have wb : IntKind.u8.wrap ((b : Int) + 1) = (b : Int) + 1 := by unfold IntKind.wrap; simp [IntKind.bits, IntKind.signed]; omega
            have ta : ((a : Int) + 1).toNat = a + 1 := by omega
            have tb : ((b : Int) + 1).toNat = b + 1 := by omega
            clear hps ha hb
            go_quiet (fail)
            go_wp2_with fail
            go_roundw
            case rel => exact ⟨k + 1, by omega, by go_num, str_next HO.out (by rw [HT.out, HE.out]; rfl), by first | exact hbw | exact below_drewN hbw _⟩
            case measure => simp [intOf]; omega
          · rw [hO1] at hco1 he
            have n1 : (0 : Int) ≤ o1 := of_decide_eq_true hco1.symm
            have HE := Lib.hid he
            clear hco1 hco2 he
            have ha := fun wx => run_string_add_sum (P := Try.prog) (w := wx) o (s.extract k (k + 1)) (by rw [one_size s k hlt]; omega)
            have HPC := Lib.hid (show (s.extract k (k + 1)).data.toList = [c] by rw [one_list s k hlt, hc])
            go_wp2_with fail
            refine (HC.out _).mono ?_
            rintro e w9 ⟨rfl, hw⟩
            rw [hw]
            clear hw w9
            dsimp only
            go_wp2_with fail
            refine (HD.out _).mono ?_
            rintro e w9 ⟨rfl, hw⟩
            rw [hw]
            clear hw w9
            dsimp only
            go_wp2_with fail
            refine (H1.out _).mono ?_
            rintro e w9 ⟨rfl, hw⟩
            rw [hw]
            clear hw w9
            dsimp only
            go_wp2_with fail
            go_roundw
            case rel => exact ⟨k + 1, by omega, by go_num, str_next HO.out (by rw [HT.out, HE.out, HPC.out]; rfl), by first | exact hbw | exact below_drewN hbw _⟩
            case measure => simp [intOf]; omega
        · rw [hDg] at HD he
          have HE := Lib.hid he
          clear hco1 hco2 he
          have ha := fun wx => run_string_add_sum (P := Try.prog) (w := wx) o (s.extract k (k + 1)) (by rw [one_size s k hlt]; omega)
          have HPC := Lib.hid (show (s.extract k (k + 1)).data.toList = [c] by rw [one_list s k hlt, hc])
          go_wp2_with fail
          refine (HC.out _).mono ?_
          rintro e w9 ⟨rfl, hw⟩
          rw [hw]
          clear hw w9
          dsimp only
          go_wp2_with fail
          refine (HD.out _).mono ?_
          rintro e w9 ⟨rfl, hw⟩
          rw [hw]
          clear hw w9
          dsimp only
          go_wp2_with fail
          go_roundw
          case rel => exact ⟨k + 1, by omega, by go_num, str_next HO.out (by rw [HT.out, HE.out, HPC.out]; rfl), by first | exact hbw | exact below_drewN hbw _⟩
          case measure => simp [intOf]; omega
      · rw [hLt] at HC he
        have HE := Lib.hid he
        clear hco1 hco2 he
        have ha := fun wx => run_string_add_sum (P := Try.prog) (w := wx) o (s.extract k (k + 1)) (by rw [one_size s k hlt]; omega)
        have HPC := Lib.hid (show (s.extract k (k + 1)).data.toList = [c] by rw [one_list s k hlt, hc])
        go_wp2_with fail
        refine (HC.out _).mono ?_
        rintro e w9 ⟨rfl, hw⟩
        rw [hw]
        clear hw w9
        dsimp only
        go_wp2_with fail
        go_roundw
        case rel => exact ⟨k + 1, by omega, by go_num, str_next HO.out (by rw [HT.out, HE.out, HPC.out]; rfl), by first | exact hbw | exact below_drewN hbw _⟩
        case measure => simp [intOf]; omega
    · have hkn : k = s.size := by omega
      have HK := Lib.hid hkn; clear hkn
      have hll := addrE_len false s.data.toList
      have hls : s.data.toList.length = s.size := Array.length_toList
      have HES := Lib.hid (fun wX => escaped_any ⟨(addrE false s.data.toList).toArray⟩ wX (by show (addrE false s.data.toList).toArray.size ≤ _; simp; omega))
      have hal : addrE false (s.data.toList.take k) = addrE false s.data.toList := by rw [HK.out, List.take_of_length_le (by simp)]
      rw [hal]
      clear hll hls hal
      go_wp2_with fail
      refine (HES.out _).mono ?_
      rintro e w2 ⟨rfl, rfl⟩
      go_wp2_with fail
      go_ret
      exact ⟨rfl, hbw⟩
set_option maxRecDepth 100000 in
set_option maxHeartbeats 1000000 in
theorem addrEscapedT_any (s : ByteArray) (w : World) (hs : s.size ≤ 200000) (h : SafeIs s true) :
    Calls Try.prog 7 #[.string s, .bool true] w fun e w' => e = .returned (.string ⟨(esc (addrE true s.data.toList)).toArray⟩) ∧ Below w.heap.size w w' := by
  have HS := Lib.hid (safeScheme_any s true w hs h)
  clear h
  go_enter Try.func7, Try.ntmps7
  go_wp2_with fail
  refine HS.out.mono ?_
  rintro e wb ⟨rfl, hb0⟩
  go_wp2_with fail
  go_loopw [5, 6] (fun o i wr => ∃ k : Nat, k ≤ s.size ∧ i = .int .i64 k ∧ o = .string ⟨(addrE true (s.data.toList.take k)).toArray⟩ ∧ Below w.heap.size w wr) (fun _ i _ => s.size - (intOf i).toNat)
  case atStart => exact ⟨0, Nat.zero_le _, rfl, rfl, hb0⟩
  case round =>
    obtain ⟨k, hk, rfl, rfl, hbw⟩ := hrel
    by_cases hlt : k < s.size
    · have hl := addrE_take_len true s k
      obtain ⟨c, hc⟩ : ∃ c : UInt8, s[k]'hlt = c := ⟨_, rfl⟩
      have ht := addrE_take true s k hlt
      rw [hc] at ht
      have HT := Lib.hid ht; clear ht
      obtain ⟨o, ho⟩ : ∃ o : ByteArray, o = ⟨(addrE true (s.data.toList.take k)).toArray⟩ := ⟨_, rfl⟩
      have hol : o.size ≤ 3 * k := by rw [ho, str_size]; exact hl
      rw [← ho]
      have HO := Lib.hid ho; clear ho hl
      have HC := Lib.hid (fun wX => isLetterR_any c wX)
      have HD := Lib.hid (fun wX => isDigitR_any c wX)
      have H1 := Lib.hid (fun wX => ib1 c wX)
      have H2 := Lib.hid (fun wX => ib2 c wX)
      have hco1 := con1 c
      have hco2 := con2 c
      generalize Lib.indexByte (ByteArray.mk #[45, 95, 46, 126]).data.toList c = o1 at H1 hco1
      generalize Lib.indexByte (ByteArray.mk #[58, 47, 63, 35, 61, 38, 37, 43, 44, 64]).data.toList c = o2 at H2 hco2
      have he : escA true c = if (letB c || digB c || oth1.contains c) = true then [c] else if (true && oth2.contains c) = true then [c] else pct c := rfl
      cases hLt : letB c
      · rw [hLt] at HC he
        cases hDg : digB c
        · rw [hDg] at HD he
          cases hO1 : oth1.contains c
          · rw [hO1] at hco1 he
            have n1 : ¬ (0 : Int) ≤ o1 := of_decide_eq_false hco1.symm
            clear hco1
            cases hO2 : oth2.contains c
            · rw [hO2] at hco2 he
              have n2 : ¬ (0 : Int) ≤ o2 := of_decide_eq_false hco2.symm
              have HE := Lib.hid he
              clear hco2 he
              have HPC := Lib.hid (show (ByteArray.mk (pct c).toArray).data.toList = pct c from rfl)
              go_wp2_with fail
              refine (HC.out _).mono ?_
              rintro e w9 ⟨rfl, hw⟩
              rw [hw]
              clear hw w9
              dsimp only
              go_wp2_with fail
              refine (HD.out _).mono ?_
              rintro e w9 ⟨rfl, hw⟩
              rw [hw]
              clear hw w9
              dsimp only
              go_wp2_with fail
              refine (H1.out _).mono ?_
              rintro e w9 ⟨rfl, hw⟩
              rw [hw]
              clear hw w9
              dsimp only
              go_wp2_with fail
              refine (H2.out _).mono ?_
              rintro e w9 ⟨rfl, hw⟩
              rw [hw]
              clear hw w9
              dsimp only
              go_wp2_with fail
              obtain ⟨a, ha⟩ : ∃ a : Nat, c.toNat / 16 = a := ⟨_, rfl⟩
              obtain ⟨b, hb⟩ : ∃ b : Nat, c.toNat % 16 = b := ⟨_, rfl⟩
              have hps := pct_str c
              rw [ha, hb] at hps
              have hc255 := c.toNat_lt
              have ea := up_piece a (by omega)
              have eb := up_piece b (by omega)
              have p1 := fun wx => run_string_add_sum (P := Try.prog) (w := wx) (ByteArray.mk #[37]) (ByteArray.mk #[dg upD a]) (by show 1 + 1 ≤ _; omega)
              have p2 := fun wx => run_string_add_sum (P := Try.prog) (w := wx) (ByteArray.mk #[37] ++ ByteArray.mk #[dg upD a]) (ByteArray.mk #[dg upD b]) (by show 2 + 1 ≤ _; omega)
              rw [hps] at p2
              have p3 := fun wx => run_string_add_sum (P := Try.prog) (w := wx) o (ByteArray.mk (pct c).toArray) (by show o.size + 3 ≤ _; omega)
              have hai : (c.toNat : Int) / 16 = (a : Int) := by omega
              have hbi : (c.toNat : Int) % 16 = (b : Int) := by omega
              have ha15 : a ≤ 15 := by omega
              have hb15 : b ≤ 15 := by omega
              have hc0 : (0 : Int) ≤ (c.toNat : Int) := by omega
              have hc1 : (c.toNat : Int) ≤ 255 := by omega
              have wa : IntKind.u8.wrap ((a : Int) + 1) = (a : Int) + 1 := by unfold IntKind.wrap; simp [IntKind.bits, IntKind.signed]; omega
              have wb : IntKind.u8.wrap ((b : Int) + 1) = (b : Int) + 1 := by unfold IntKind.wrap; simp [IntKind.bits, IntKind.signed]; omega
              have ta : ((a : Int) + 1).toNat = a + 1 := by omega
              have tb : ((b : Int) + 1).toNat = b + 1 := by omega
              clear hps ha hb
              go_quiet (fail)
              go_wp2_with fail
              go_roundw
              case rel => exact ⟨k + 1, by omega, by go_num, str_next HO.out (by rw [HT.out, HE.out]; rfl), by first | exact hbw | exact below_drewN hbw _⟩
              case measure => simp [intOf]; omega
            · rw [hO2] at hco2 he
              have n2 : (0 : Int) ≤ o2 := of_decide_eq_true hco2.symm
              have HE := Lib.hid he
              clear hco2 he
              have ha := fun wx => run_string_add_sum (P := Try.prog) (w := wx) o (s.extract k (k + 1)) (by rw [one_size s k hlt]; omega)
              have HPC := Lib.hid (show (s.extract k (k + 1)).data.toList = [c] by rw [one_list s k hlt, hc])
              go_wp2_with fail
              refine (HC.out _).mono ?_
              rintro e w9 ⟨rfl, hw⟩
              rw [hw]
              clear hw w9
              dsimp only
              go_wp2_with fail
              refine (HD.out _).mono ?_
              rintro e w9 ⟨rfl, hw⟩
              rw [hw]
              clear hw w9
              dsimp only
              go_wp2_with fail
              refine (H1.out _).mono ?_
              rintro e w9 ⟨rfl, hw⟩
              rw [hw]
              clear hw w9
              dsimp only
              go_wp2_with fail
              refine (H2.out _).mono ?_
              rintro e w9 ⟨rfl, hw⟩
              rw [hw]
              clear hw w9
              dsimp only
              go_wp2_with fail
              go_roundw
              case rel => exact ⟨k + 1, by omega, by go_num, str_next HO.out (by rw [HT.out, HE.out, HPC.out]; rfl), by first | exact hbw | exact below_drewN hbw _⟩
              case measure => simp [intOf]; omega
          · rw [hO1] at hco1 he
            have n1 : (0 : Int) ≤ o1 := of_decide_eq_true hco1.symm
            have HE := Lib.hid he
            clear hco1 hco2 he
            have ha := fun wx => run_string_add_sum (P := Try.prog) (w := wx) o (s.extract k (k + 1)) (by rw [one_size s k hlt]; omega)
            have HPC := Lib.hid (show (s.extract k (k + 1)).data.toList = [c] by rw [one_list s k hlt, hc])
            go_wp2_with fail
            refine (HC.out _).mono ?_
            rintro e w9 ⟨rfl, hw⟩
            rw [hw]
            clear hw w9
            dsimp only
            go_wp2_with fail
            refine (HD.out _).mono ?_
            rintro e w9 ⟨rfl, hw⟩
            rw [hw]
            clear hw w9
            dsimp only
            go_wp2_with fail
            refine (H1.out _).mono ?_
            rintro e w9 ⟨rfl, hw⟩
            rw [hw]
            clear hw w9
            dsimp only
            go_wp2_with fail
            go_roundw
            case rel => exact ⟨k + 1, by omega, by go_num, str_next HO.out (by rw [HT.out, HE.out, HPC.out]; rfl), by first | exact hbw | exact below_drewN hbw _⟩
            case measure => simp [intOf]; omega
        · rw [hDg] at HD he
          have HE := Lib.hid he
          clear hco1 hco2 he
          have ha := fun wx => run_string_add_sum (P := Try.prog) (w := wx) o (s.extract k (k + 1)) (by rw [one_size s k hlt]; omega)
          have HPC := Lib.hid (show (s.extract k (k + 1)).data.toList = [c] by rw [one_list s k hlt, hc])
          go_wp2_with fail
          refine (HC.out _).mono ?_
          rintro e w9 ⟨rfl, hw⟩
          rw [hw]
          clear hw w9
          dsimp only
          go_wp2_with fail
          refine (HD.out _).mono ?_
          rintro e w9 ⟨rfl, hw⟩
          rw [hw]
          clear hw w9
          dsimp only
          go_wp2_with fail
          go_roundw
          case rel => exact ⟨k + 1, by omega, by go_num, str_next HO.out (by rw [HT.out, HE.out, HPC.out]; rfl), by first | exact hbw | exact below_drewN hbw _⟩
          case measure => simp [intOf]; omega
      · rw [hLt] at HC he
        have HE := Lib.hid he
        clear hco1 hco2 he
        have ha := fun wx => run_string_add_sum (P := Try.prog) (w := wx) o (s.extract k (k + 1)) (by rw [one_size s k hlt]; omega)
        have HPC := Lib.hid (show (s.extract k (k + 1)).data.toList = [c] by rw [one_list s k hlt, hc])
        go_wp2_with fail
        refine (HC.out _).mono ?_
        rintro e w9 ⟨rfl, hw⟩
        rw [hw]
        clear hw w9
        dsimp only
        go_wp2_with fail
        go_roundw
        case rel => exact ⟨k + 1, by omega, by go_num, str_next HO.out (by rw [HT.out, HE.out, HPC.out]; rfl), by first | exact hbw | exact below_drewN hbw _⟩
        case measure => simp [intOf]; omega
    · have hkn : k = s.size := by omega
      have HK := Lib.hid hkn; clear hkn
      have hll := addrE_len true s.data.toList
      have hls : s.data.toList.length = s.size := Array.length_toList
      have HES := Lib.hid (fun wX => escaped_any ⟨(addrE true s.data.toList).toArray⟩ wX (by show (addrE true s.data.toList).toArray.size ≤ _; simp; omega))
      have hal : addrE true (s.data.toList.take k) = addrE true s.data.toList := by rw [HK.out, List.take_of_length_le (by simp)]
      rw [hal]
      clear hll hls hal
      go_wp2_with fail
      refine (HES.out _).mono ?_
      rintro e w2 ⟨rfl, rfl⟩
      go_wp2_with fail
      go_ret
      exact ⟨rfl, hbw⟩
set_option maxRecDepth 100000 in
theorem addrEscaped_any (s : ByteArray) (f v : Bool) (w : World) (hs : s.size ≤ 200000) (h : SafeIs s v) :
    Calls Try.prog 7 #[.string s, .bool f] w fun e w' => e = .returned (.string (addrR f v s)) ∧ Below w.heap.size w w' := by
  cases f
  · exact addrEscapedF_any s w hs
  · cases v
    · have HS := Lib.hid (safeScheme_any s false w hs h)
      clear h
      go_enter Try.func7, Try.ntmps7
      go_wp2_with fail
      refine HS.out.mono ?_
      rintro e w1 ⟨rfl, hb1⟩
      go_wp2_with fail
      go_ret
      exact ⟨rfl, hb1⟩
    · exact addrEscapedT_any s w hs h
end Go.Proofs.Ytfgekmfkaepgjaa
