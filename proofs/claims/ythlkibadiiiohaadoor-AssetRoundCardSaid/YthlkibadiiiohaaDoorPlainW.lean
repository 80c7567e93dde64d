/- DERIVED. asset.Plain of any string. Condition: a string that a slice can hold. -/
import Derived.Test.YthlkibadiiiohaaDoorRndPlain
import Derived.RegionTactic
import Derived.BigRegion
import Derived.Deep.RegionLaw
import Derived.Deep.Cut
import Derived.BigQuiet
import Derived.OwnWalk
namespace Go.Proofs.YthlkibadiiiohaaDoor
open Go.RowKit
set_option linter.unusedVariables false
set_option linter.unusedSimpArgs false
theorem at_two (a b : Value) (wx : World) : (Instr.index 41 (.agg #[a, b]) (.int .i64 0)).run Tryd.prog wx = .ok a wx ∧ (Instr.index 41 (.agg #[a, b]) (.int .i64 1)).run Tryd.prog wx = .ok b wx := by
  have hu := Tryd.underlying41
  obtain ⟨i0, hin, hz⟩ : ∃ i0, Tryd.prog.info? 3 = some i0 ∧ i0.size = 1 := by
    have h : (Tryd.prog.info? 3).map (·.size) = some 1 := by kernel_rfl
    obtain ⟨i0, h1, h2⟩ := Option.map_eq_some_iff.1 h
    exact ⟨i0, h1, h2⟩
  have hu2 := Tryd.underlying3
  refine ⟨?_, ?_⟩ <;> simp [Instr.index, run_underlying hu, run_underlying hu2, asIntOf, part, sizeOf, typeInfo, hin, hz, go_sem]
theorem sl_mid (s : ByteArray) (i j : Nat) (hij : i ≤ j) (h : j ≤ s.size) (wX : World) : (Instr.slice 9 (.string s) (some (.int .i64 (i : Int))) (some (.int .i64 (j : Int))) none).run Tryd.prog wX = .ok (.string (s.extract i j)) wX := by
  have h1 : (Instr.slice 9 (.string s) (some (.int .i64 (i : Int))) (some (.int .i64 (j : Int))) none).run Tryd.prog wX = if (i : Int) ≤ j ∧ (j : Int) ≤ s.size then .ok (.string (s.extract i j)) wX else (Instr.slice 9 (.string s) (some (.int .i64 (i : Int))) (some (.int .i64 (j : Int))) none).run Tryd.prog wX := by
    split
    · simp [Instr.slice, run_underlying Tryd.underlying9, asIntOf, go_sem, hij, h]
    · rfl
  rw [h1, if_pos ⟨by omega, by omega⟩]
set_option maxRecDepth 100000 in
set_option maxHeartbeats 3200000 in
theorem plain_any (p : ByteArray) (hs : p.size ≤ 1048576) (w : World) : Calls Tryd.prog 7 #[.string p] w fun e w' => e = .returned (plO p) ∧ Below w.heap.size w w' := by
  have HS := Lib.hid (fun wX => startOf_any p (by omega) wX)
  have HL := Lib.hid (fun wX => Tryd.strings_LastIndexByte p 46 (by omega) wX)
  have HP := Lib.hid (fun s wX (h : ByteArray.size s ≤ 1048576) => isPrint_any s (by omega) wX)
  have hb : -1 ≤ Lib.lastIndexByte p 46 ∧ Lib.lastIndexByte p 46 < p.size := by
    rcases Lib.lastIndexByte_spec p 46 with ⟨h, _⟩ | ⟨i, h1, h2, _⟩ <;> omega
  have hc : -1 ≤ Lib.lastIndexByte p 47 ∧ Lib.lastIndexByte p 47 < p.size := by
    rcases Lib.lastIndexByte_spec p 47 with ⟨h, _⟩ | ⟨i, h1, h2, _⟩ <;> omega
  obtain ⟨E, hE⟩ : ∃ E : Nat → Int, E = fun k => if k = 0 then Lib.lastIndexByte p 46 else (p.size : Int) := ⟨_, rfl⟩
  have hE0 : E 0 = Lib.lastIndexByte p 46 := by rw [hE]; rfl
  have hE1 : E 1 = (p.size : Int) := by rw [hE]; rfl
  have hEb : ∀ k, -1 ≤ E k ∧ E k ≤ p.size := fun k => by rw [hE]; dsimp only; split <;> omega
  have HB := Lib.hid (fun e => show plB p e = (decide (Lib.lastIndexByte p 47 + 1 < e - 13) && decide (p.data.toList[(e - 13).toNat]? = some 46) && isPrB (p.extract ((e - 13).toNat + 1) e.toNat)) from rfl)
  have HO := Lib.hid (show plO p = if plB p (E 0) = true then plV p (E 0) else if plB p (E 1) = true then plV p (E 1) else .tuple #[.string ⟨#[]⟩, .string ⟨#[]⟩, .bool false] by rw [hE0, hE1]; rfl)
  have HI := Lib.hid (fun (k : Nat) (hk : k < 2) (z : Int) (hz : z = (k : Int)) wX => show (Instr.index 41 (.agg #[.int .i64 (Lib.lastIndexByte p 46), .int .i64 (p.size : Int)]) (.int .i64 z)).run Tryd.prog wX = .ok (.int .i64 (E k)) wX by
    subst hz
    rcases (show k = 0 ∨ k = 1 by omega) with rfl | rfl
    · rw [hE0]; exact (at_two _ _ wX).1
    · rw [hE1]; exact (at_two _ _ wX).2)
  clear hE hE0 hE1
  generalize Lib.lastIndexByte p 46 = x at HL hb HI
  generalize Lib.lastIndexByte p 47 = y at HS hc HB
  go_enter Tryd.func7, Tryd.ntmps7
  go_wp2_with fail
  refine (HS.out _).mono ?_
  rintro e w1 ⟨rfl, hw1⟩
  rw [hw1]
  clear hw1 w1
  dsimp only
  go_wp2_with fail
  refine (HL.out _).mono ?_
  rintro e w2 ⟨rfl, hw2⟩
  rw [hw2]
  clear hw2 w2
  dsimp only
  have H0 := Lib.hid (Below.refl w.heap.size w)
  go_wp2_with fail
  go_loopw [16] (fun i wr => ∃ (k : Nat) (z : Int), k ≤ 2 ∧ i = .int .i64 z ∧ z = (k : Int) ∧ (∀ j, j < k → plB p (E j) = false) ∧ Below w.heap.size w wr) (fun i _ => 2 - (intOf i).toNat)
  case atStart => exact ⟨0, 0, by omega, rfl, rfl, fun j hj => absurd hj (Nat.not_lt_zero _), H0.out⟩
  case round =>
    obtain ⟨k, z, hk, rfl, hz, hno, hbw⟩ := hrel
    have HN := Lib.hid hno
    have HBW := Lib.hid hbw
    have HZ := Lib.hid hz
    clear hno hbw
    by_cases hlt : k < 2
    · have hz2 : z < 2 := by omega
      have hz0 : 0 ≤ z := by omega
      have hidx := fun wX => HI.out k hlt z hz wX
      obtain ⟨b1, b2⟩ := hEb k
      have HBe := HB.out (E k)
      have HK := Lib.hid (fun (h : plB p (E k) = false) => show ∀ j, j < k + 1 → plB p (E j) = false from fun j hj => by
        rcases Nat.lt_succ_iff_lt_or_eq.1 hj with h1 | rfl
        · exact HN.out j h1
        · exact h)
      have HT := Lib.hid (fun (h : plB p (E k) = true) => show plO p = plV p (E k) by
        rw [HO.out]
        rcases (show k = 0 ∨ k = 1 by omega) with rfl | rfl
        · rw [if_pos h]
        · rw [HN.out 0 (by decide), if_neg (by decide), if_pos h])
      generalize E k = e at hidx b1 b2 HBe HK HT
      clear hz
      by_cases q1 : y + 1 < e - 13
      · obtain ⟨m, rfl⟩ : ∃ m : Nat, e = (m : Int) := ⟨e.toNat, by omega⟩
        obtain ⟨d, hd⟩ : ∃ d : Nat, m = d + 13 := ⟨m - 13, by omega⟩
        obtain ⟨d1, h1⟩ : ∃ d1 : Int, (m : Int) - 12 = d1 := ⟨_, rfl⟩
        have h2 : d1 - 1 = (d : Int) := by omega
        have h3 : (d : Int) + 1 = d1 := by omega
        have q2 : y + 1 < (d : Int) := by omega
        have hdl : d < p.size := by omega
        have e1 : ((m : Int) - 13).toNat = d := by omega
        have e2 : (m : Int).toNat = m := by omega
        rw [decide_eq_true q1, e1, e2, Bool.true_and] at HBe
        have hget : p.data.toList[d]? = some p[d] := by
          rw [Array.getElem?_toList, Array.getElem?_eq_getElem (show d < p.data.size from hdl)]; rfl
        rw [hget] at HBe
        obtain ⟨ch, hck⟩ : ∃ ch, p[d] = ch := ⟨_, rfl⟩
        rw [hck] at HBe
        have hd1 : d1 ≤ 1048576 := by omega
        have hd0 : 0 ≤ d1 := by omega
        have hsl : ∀ wX, (Instr.slice 9 (.string p) (some (.int .i64 d1)) (some (.int .i64 (m : Int))) none).run Tryd.prog wX = .ok (.string (p.extract (d + 1) m)) wX := fun wX => by
          rw [← h3, show (d : Int) + 1 = ((d + 1 : Nat) : Int) by omega]
          exact sl_mid p (d + 1) m (by omega) (by omega) wX
        have HP1 := Lib.hid (fun wX => HP.out (p.extract (d + 1) m) wX (by rw [ByteArray.size_extract]; omega))
        have HD := Lib.hid hd
        clear hget hd
        by_cases q3 : ch = 46
        · subst q3
          rw [decide_eq_true rfl, Bool.true_and] at HBe
          cases hpr : isPrB (p.extract (d + 1) m) with
          | true =>
            rw [hpr] at HP1 HBe
            have HV := Lib.hid (HT.out HBe)
            obtain ⟨g, hg⟩ : ∃ g, p.extract (d + 1) m = g := ⟨_, rfl⟩
            rw [hg] at hsl HP1
            have s1 := sl_high p d (by omega)
            have s3 := sl_low p m (by omega)
            have hv : plV p (m : Int) = .tuple #[.string (p.extract 0 d ++ p.extract m p.size), .string g, .bool true] := by unfold plV; rw [e1, e2, hg]
            have z1 : (p.extract 0 d).size ≤ 1048576 := by rw [ByteArray.size_extract]; omega
            have z3 : (p.extract m p.size).size ≤ 1048576 := by rw [ByteArray.size_extract]; omega
            generalize p.extract 0 d = a1 at hv s1 z1
            generalize p.extract m p.size = a3 at hv s3 z3
            obtain ⟨r1, hr1⟩ : ∃ r1 : ByteArray, a1 ++ a3 = r1 := ⟨_, rfl⟩
            have p1 : ∀ wx, (Op.stringOp .add a1 a3).run Tryd.prog wx = .ok (.string r1) wx := fun wx => by rw [← hr1]; exact run_string_add_sum (P := Tryd.prog) (w := wx) a1 a3 (by omega)
            rw [hr1] at hv
            have HW := Lib.hid (HV.out.trans hv)
            clear hr1 hv z1 z3 hpr HBe e1 e2 hg
            go_wp2_with fail
            refine (HP1.out _).mono ?_
            rintro e w3 ⟨rfl, hb3⟩
            have HB3 := Lib.hid (HBW.out.trans (hb3.mono HBW.out.size))
            clear hb3
            go_wp2_with fail
            go_quiet (fail)
            go_wp2_with fail
            go_ret3
            exact ⟨by rw [HW.out]; rfl, below_drewN HB3.out _⟩
          | false =>
            rw [hpr] at HP1 HBe
            have HK2 := Lib.hid (HK.out HBe)
            clear hpr HBe e1 e2
            generalize p.extract (d + 1) m = g at hsl HP1
            go_wp2_with fail
            refine (HP1.out _).mono ?_
            rintro e w3 ⟨rfl, hb3⟩
            have HB3 := Lib.hid (HBW.out.trans (hb3.mono HBW.out.size))
            clear hb3
            go_wp2_with fail
            go_roundw
            case rel => exact ⟨k + 1, z + 1, by omega, by go_num, by have := HZ.out; omega, HK2.out, HB3.out⟩
            case measure => simp [intOf]; omega
        · have hq3 : ¬ (ch.toNat : Int) = 46 := fun h => q3 (UInt8.toNat_inj.1 (by exact_mod_cast h))
          have hq4 : ((ch.toNat : Int) == 46) = false := by simpa using hq3
          have hne : ¬ some ch = some (46 : UInt8) := fun h => q3 (Option.some.inj h)
          rw [decide_eq_false hne, Bool.false_and] at HBe
          have HK2 := Lib.hid (HK.out HBe)
          clear HBe e1 e2 hne q3
          go_wp2_with fail
          go_roundw
          case rel => exact ⟨k + 1, z + 1, by omega, by go_num, by have := HZ.out; omega, HK2.out, HBW.out⟩
          case measure => simp [intOf]; omega
      · rw [decide_eq_false q1, Bool.false_and, Bool.false_and] at HBe
        have HK2 := Lib.hid (HK.out HBe)
        clear HBe
        obtain ⟨d1, h1⟩ : ∃ d1 : Int, e - 12 = d1 := ⟨_, rfl⟩
        obtain ⟨d, h2⟩ : ∃ d : Int, d1 - 1 = d := ⟨_, rfl⟩
        have q2 : ¬ y + 1 < d := by omega
        have hdb : -1000 ≤ d := by omega
        go_wp2_with fail
        go_roundw
        case rel => exact ⟨k + 1, z + 1, by omega, by go_num, by have := HZ.out; omega, HK2.out, HBW.out⟩
        case measure => simp [intOf]; omega
    · obtain rfl : k = 2 := by omega
      have hz2 : ¬ z < 2 := by omega
      have HV := Lib.hid (show plO p = .tuple #[.string ⟨#[]⟩, .string ⟨#[]⟩, .bool false] by
        rw [HO.out, HN.out 0 (by decide), HN.out 1 (by decide), if_neg (by decide), if_neg (by decide)])
      go_wp2_with fail
      go_ret3
      exact ⟨by rw [HV.out]; rfl, HBW.out⟩
end Go.Proofs.YthlkibadiiiohaaDoor
