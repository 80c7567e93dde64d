/- DERIVED. asset.Fingerprint. Condition: the library's variable MaxLen is as the program's text lays it; a body that a slice can hold. -/
import Derived.Test.YthlkibadiiiohaaDoorStem
import Derived.Test.YthlkibadiiiohaaDoorTPath
import Derived.Test.YthlkibadiiiohaaDoorDigD
import Derived.RegionTactic
import Derived.BigRegion
import Derived.Deep.RegionLaw
import Derived.Deep.RegionHeld3
import Derived.Deep.AppendLies
import Derived.ChangeAlike
import Derived.Handy
import Derived.OneCell
import Derived.Shelf.Abstract
namespace Go.Proofs.YthlkibadiiiohaaDoor
open Go.RowKit
set_option linter.unusedVariables false
set_option linter.unusedSimpArgs false
/-- The name that a path gets. -/
def fpN (p b : ByteArray) : ByteArray := p.extract 0 (stemN p) ++ ⟨#[46]⟩ ++ (digS b).extract 0 12 ++ p.extract (stemN p) p.size
def fpE (p b : ByteArray) : Int := if 200000 < b.size then 4 else if tpathB p = false then 3 else if tpathB (fpN p b) = false then 3 else 0
def fpV (p b : ByteArray) : Value := if fpE p b = 0 then .tuple #[.string (fpN p b), .int .i64 0] else .tuple #[.string ⟨#[]⟩, .int .i64 (fpE p b)]
theorem sl_low (s : ByteArray) (i : Nat) (h : i ≤ s.size) (wX : World) : (Instr.slice 9 (.string s) (some (.int .i64 (i : Int))) none none).run Tryd.prog wX = .ok (.string (s.extract i s.size)) wX := by
  simp [Instr.slice, run_underlying Tryd.underlying9, asIntOf, go_sem]
  intro hh
  exfalso
  omega
theorem sl_high (s : ByteArray) (i : Nat) (h : i ≤ s.size) (wX : World) : (Instr.slice 9 (.string s) none (some (.int .i64 (i : Int))) none).run Tryd.prog wX = .ok (.string (s.extract 0 i)) wX := by
  simp [Instr.slice, run_underlying Tryd.underlying9, asIntOf, go_sem]
  intro hh
  exfalso
  omega
set_option maxRecDepth 100000 in
set_option maxHeartbeats 3200000 in
theorem finger_any (p b : ByteArray) (w : World) (hm : MaxT w) (hb : b.size ≤ 9223372036854775807) : Calls Tryd.prog 6 #[.string p, .string b] w fun e w' => e = .returned (fpV p b) ∧ Below w.heap.size w w' := by
  by_cases h1 : 200000 < b.size
  · have h1i : (200000 : Int) < (b.size : Int) := by omega
    have HO := Lib.hid (show fpV p b = .tuple #[.string ⟨#[]⟩, .int .i64 4] by unfold fpV fpE; rw [if_pos h1]; rfl)
    go_enter Tryd.func6, Tryd.ntmps6
    go_wp2_with fail
    go_ret2
    exact ⟨by rw [HO.out]; rfl, Below.refl _ _⟩
  · have h1i : ¬ (200000 : Int) < (b.size : Int) := by omega
    have HC := Lib.hid (fun s wX (hX : Below w.heap.size w wX) => checkPath_any s wX (hm.below hX))
    have h2 := HC.out p w (Below.refl _ _)
    have hE : fpE p b = if tpathB p = false then 3 else if tpathB (fpN p b) = false then 3 else 0 := by unfold fpE; rw [if_neg h1]
    cases hp : tpathB p with
    | false =>
      rw [hp] at h2 hE
      have HO := Lib.hid (show fpV p b = .tuple #[.string ⟨#[]⟩, .int .i64 3] by unfold fpV; rw [hE]; rfl)
      have H2 := Lib.hid h2
      clear h2 hE hp
      go_enter Tryd.func6, Tryd.ntmps6
      go_wp2_with fail
      refine H2.out.mono ?_
      rintro e w1 ⟨rfl, hb1⟩
      go_wp2_with fail
      go_ret2
      exact ⟨by rw [HO.out]; rfl, hb1⟩
    | true =>
      have hpz : p.size ≤ 200 := by
        have h := hp
        unfold tpathB at h
        rw [Bool.and_eq_true] at h
        exact of_decide_eq_true h.1
      rw [hp] at h2 hE
      have H2 := Lib.hid h2
      have HS := Lib.hid (fun wX => endOfStem_any p (by omega) wX)
      have HD := Lib.hid (fun wX => digest_any b hb wX)
      have hdz := digS_size b
      have hN : fpN p b = p.extract 0 (stemN p) ++ ⟨#[46]⟩ ++ (digS b).extract 0 12 ++ p.extract (stemN p) p.size := rfl
      have hO : fpV p b = if tpathB (fpN p b) = true then .tuple #[.string (fpN p b), .int .i64 0] else .tuple #[.string ⟨#[]⟩, .int .i64 3] := by
        unfold fpV
        rw [hE]
        cases tpathB (fpN p b) <;> rfl
      have hle := stemN_le p
      generalize fpN p b = z at hN hO
      generalize stemN p = i at HS hN hle
      generalize digS b = d at HD hN hdz
      have s1 := sl_high p i hle
      have s3 := sl_low p i hle
      have z1 : (p.extract 0 i).size ≤ 200 := by rw [ByteArray.size_extract]; omega
      have z2 : (d.extract 0 12).size ≤ 12 := by rw [ByteArray.size_extract]; omega
      have z3 : (p.extract i p.size).size ≤ 200 := by rw [ByteArray.size_extract]; omega
      generalize p.extract 0 i = a1 at hN s1 z1
      obtain ⟨a2, ha2⟩ : ∃ a2, d.extract 0 12 = a2 := ⟨_, rfl⟩
      rw [ha2] at hN z2
      have hd12 : (12 : Int) ≤ (d.size : Int) := by omega
      generalize p.extract i p.size = a3 at hN s3 z3
      obtain ⟨r1, hr1⟩ : ∃ r1 : ByteArray, a1 ++ ⟨#[46]⟩ = r1 := ⟨_, rfl⟩
      have y1 : r1.size ≤ 201 := by rw [← hr1, ByteArray.size_append]; show _ + 1 ≤ _; omega
      have p1 : ∀ wx, (Op.stringOp .add a1 ⟨#[46]⟩).run Tryd.prog wx = .ok (.string r1) wx := fun wx => by rw [← hr1]; exact run_string_add_sum (P := Tryd.prog) (w := wx) a1 ⟨#[46]⟩ (by show _ + 1 ≤ _; omega)
      obtain ⟨r2, hr2⟩ : ∃ r2 : ByteArray, r1 ++ a2 = r2 := ⟨_, rfl⟩
      have y2 : r2.size ≤ 213 := by rw [← hr2, ByteArray.size_append]; omega
      have p2 : ∀ wx, (Op.stringOp .add r1 a2).run Tryd.prog wx = .ok (.string r2) wx := fun wx => by rw [← hr2]; exact run_string_add_sum (P := Tryd.prog) (w := wx) r1 a2 (by omega)
      obtain ⟨r3, hr3⟩ : ∃ r3 : ByteArray, r2 ++ a3 = r3 := ⟨_, rfl⟩
      have p3 : ∀ wx, (Op.stringOp .add r2 a3).run Tryd.prog wx = .ok (.string r3) wx := fun wx => by rw [← hr3]; exact run_string_add_sum (P := Tryd.prog) (w := wx) r2 a3 (by omega)
      obtain rfl : z = r3 := by rw [hN, hr1, hr2, hr3]
      clear hr1 hr2 hr3 y1 y2
      have HO := Lib.hid hO
      have H0 := Lib.hid (Below.refl w.heap.size w)
      clear h2 hE hp hN hO hdz z1 z2 z3
      go_enter Tryd.func6, Tryd.ntmps6
      go_wp2_with fail
      refine H2.out.mono ?_
      rintro e w1 ⟨rfl, hb1⟩
      have HB1 := Lib.hid hb1
      clear hb1
      go_wp2_with fail
      refine (HS.out _).mono ?_
      rintro e w2 ⟨rfl, rfl⟩
      go_wp2_with fail
      go_region_law (go_simp; go_at_call 9; with_reducible refine Calls.mono (HD.out _) ?_; rintro e w3 ⟨rfl, hb3⟩)
      all_goals (
        have HB3 := Lib.hid (show Below w.heap.size w w3 by first | exact HB1.out.drew.trans (hb3.mono HB1.out.size) | exact HB1.out.trans (hb3.mono HB1.out.size))
        clear hb3
        have h4 := HC.out z _ (by first | exact HB3.out | exact HB3.out.drew)
        cases hz : tpathB z with
        | true =>
          rw [hz] at h4 HO
          have H4 := Lib.hid h4
          have HO2 := Lib.hid (HO.out.trans (if_pos rfl))
          clear h4 hz
          go_wp2_with fail
          refine H4.out.mono ?_
          rintro e w5 ⟨rfl, hb5⟩
          have HB5 := Lib.hid (HB3.out.trans (hb5.mono HB3.out.size))
          go_wp2_with fail
          go_ret2
          exact ⟨by rw [HO2.out]; rfl, HB5.out⟩
        | false =>
          rw [hz] at h4 HO
          have H4 := Lib.hid h4
          have HO2 := Lib.hid (HO.out.trans (if_neg (by decide)))
          clear h4 hz
          go_wp2_with fail
          refine H4.out.mono ?_
          rintro e w5 ⟨rfl, hb5⟩
          have HB5 := Lib.hid (HB3.out.trans (hb5.mono HB3.out.size))
          go_wp2_with fail
          go_ret2
          exact ⟨by rw [HO2.out]; rfl, HB5.out⟩)
end Go.Proofs.YthlkibadiiiohaaDoor
