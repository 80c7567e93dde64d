/- DERIVED. SameParts of the reference at two equal parts: true. -/
import Derived.Test.YtfmmpfoecjehiaaLineP
import Derived.Deep.QuietTactic
import Derived.BigQuiet
import Derived.RegionTactic
import Derived.BigRegion
namespace Go.Proofs.Ytfmmpfoecjehiaa
set_option linter.unusedVariables false
set_option linter.unusedSimpArgs false
open Go.RowKit
theorem below2p {B : Nat} {a w : World} (h : Below B a w) (hB : B ≤ w.heap.size) (o1 o2 : Obj) : Below B a ((w.alloc o1).alloc o2).drew := ((h.alloc hB o1).alloc (by simp; omega) o2).drew
set_option maxRecDepth 100000 in
set_option maxHeartbeats 800000 in
theorem sameNil (w : World) : Calls Try.prog 7 #[.slice none 0 0, .slice none 0 0] w fun e w' => e = .returned (.bool true) ∧ w = w' := by
  go_enter Try.func7, Try.ntmps7
  go_wp2_with fail
  refine wp_loop_rounds 1 ?_
  rw [rounds_succ]
  go_wp2_with fail
  go_ret
  exact ⟨rfl, rfl⟩
/-- A part that reads as told. -/
def Rd (w : World) (b : Nat) (nm : ByteArray) (v : Value) (e : Bool) : Prop := w.cell? ⟨b, 0, none⟩ = some (.string ⟨#[]⟩) ∧ w.cell? ⟨b, 1, none⟩ = some (.string nm) ∧ w.cell? ⟨b, 2, none⟩ = some v ∧ w.cell? ⟨b, 3, none⟩ = some (.bool e) ∧ w.cell? ⟨b, 4, none⟩ = some (.slice none 0 0)
set_option maxRecDepth 100000 in
set_option maxHeartbeats 4000000 in
theorem sameOne (b1 b2 : Nat) (nm : ByteArray) (A1 A2 : Option Addr) (n c1 c2 : Nat) (e : Bool) (l : List AB) (w : World) (hn : n = l.length) (hnm : n ≤ 12) (hc1 : n ≤ c1) (hc2 : n ≤ c2)
    (h1 : Rd w b1 nm (.slice A1 n c1) e) (h2 : Rd w b2 nm (.slice A2 n c2) e) (hb1 : b1 < w.heap.size) (hb2 : b2 < w.heap.size) (hA1 : AAt w w.heap.size A1 l) (hA2 : AAt w w.heap.size A2 l) :
    Calls Try.prog 7 #[.slice (some ⟨b1, 0, none⟩) 1 1, .slice (some ⟨b2, 0, none⟩) 1 1] w fun e w' => e = .returned (.bool true) ∧ Below w.heap.size w w' := by
  have HA1 := Lib.hid hA1
  have HA2 := Lib.hid hA2
  have HN := Lib.hid hn
  have H1 := Lib.hid h1
  have H2 := Lib.hid h2
  clear hA1 hA2 hn h1 h2
  go_enter Try.func7, Try.ntmps7
  go_wp2_with fail
  go_loopw [16] (fun i wr => ∃ k : Nat, k ≤ 1 ∧ i = .int .i64 k ∧ Below w.heap.size w wr) (fun i _ => 1 - (intOf i).toNat)
  case atStart => exact ⟨0, Nat.zero_le _, rfl, Below.refl _ _⟩
  case round =>
    obtain ⟨k, hk, rfl, hbw⟩ := hrel
    have hw := hbw.size
    obtain ⟨wo, rfl⟩ : ∃ wo : World, wo = wr := ⟨_, rfl⟩
    by_cases hlt : k < 1
    · obtain rfl : k = 0 := by omega
      obtain ⟨x0, x1, x2, x3, x4⟩ := H1.out
      obtain ⟨y0, y1, y2, y3, y4⟩ := H2.out
      have x0 := (hbw.cell (p := ⟨b1, 0, none⟩) hb1).trans x0
      have x1 := (hbw.cell (p := ⟨b1, 1, none⟩) hb1).trans x1
      have x2 := (hbw.cell (p := ⟨b1, 2, none⟩) hb1).trans x2
      have x3 := (hbw.cell (p := ⟨b1, 3, none⟩) hb1).trans x3
      have x4 := (hbw.cell (p := ⟨b1, 4, none⟩) hb1).trans x4
      have y0 := (hbw.cell (p := ⟨b2, 0, none⟩) hb2).trans y0
      have y1 := (hbw.cell (p := ⟨b2, 1, none⟩) hb2).trans y1
      have y2 := (hbw.cell (p := ⟨b2, 2, none⟩) hb2).trans y2
      have y3 := (hbw.cell (p := ⟨b2, 3, none⟩) hb2).trans y3
      have y4 := (hbw.cell (p := ⟨b2, 4, none⟩) hb2).trans y4
      have hs1 : b1 < wo.heap.size := by omega
      have hs2 : b2 < wo.heap.size := by omega
      have HBW := Lib.hid hbw; clear hbw
      go_wp2_with fail
      go_region
      all_goals clear x0 x1 x2 x3 x4 y0 y1 y2 y3 y4
      all_goals (
        cases e <;> (
        go_wp2_with (go_at_call 7; refine (sameNil _).mono ?_; rintro e w9 ⟨rfl, rfl⟩)
        first
        | (
          go_loopw [66] (fun i wr => ∃ j : Nat, j ≤ n ∧ i = .int .i64 j ∧ Below w.heap.size w wr ∧ wo.heap.size + 2 ≤ wr.heap.size ∧ wr.cell? ⟨wo.heap.size, 2, none⟩ = some (.slice A1 n c1) ∧ wr.cell? ⟨wo.heap.size + 1, 2, none⟩ = some (.slice A2 n c2)) (fun i _ => n - (intOf i).toNat)
          case atStart =>
            refine ⟨0, Nat.zero_le _, rfl, below2p HBW.out hw _ _, ?_, ?_, ?_⟩
            · simp
            · (simp [go_sem]; done)
            · (simp [go_sem]; done)
          case round =>
            obtain ⟨j, hj, rfl, hbr, hsz, z1, z2⟩ := hrel
            have HBR := Lib.hid hbr; clear hbr
            have hwr1 : wo.heap.size < wr.heap.size := by omega
            have hwr2 : wo.heap.size + 1 < wr.heap.size := by omega
            by_cases hjn : j < n
            · obtain ⟨⟨an, av⟩, hp⟩ : ∃ p, l[j]? = some p := ⟨_, List.getElem?_eq_getElem (by rw [← HN.out]; exact hjn)⟩
              obtain ⟨g1, f1, rfl, gl1, p0, p1⟩ := HA1.out j an av hp
              obtain ⟨g2, f2, rfl, gl2, q0, q1⟩ := HA2.out j an av hp
              have p0 := (HBR.out.cell (p := ⟨g1, f1 + j * 2, none⟩) gl1).trans p0
              have p1 := (HBR.out.cell (p := ⟨g1, f1 + j * 2 + 1, none⟩) gl1).trans p1
              have q0 := (HBR.out.cell (p := ⟨g2, f2 + j * 2, none⟩) gl2).trans q0
              have q1 := (HBR.out.cell (p := ⟨g2, f2 + j * 2 + 1, none⟩) gl2).trans q1
              have HP := Lib.hid hp; clear hp
              have jc1 : j < c1 := by omega
              have jc2 : j < c2 := by omega
              have gw1 : g1 < wr.heap.size := by omega
              have gw2 : g2 < wr.heap.size := by omega
              go_wp2_with fail
              go_quiet (fail)
              go_wp2_with fail
              go_roundw
              case rel => exact ⟨j + 1, by omega, by go_num, by first | exact HBR.out.drew | exact below_drewN HBR.out _ | exact HBR.out, by simpa using hsz, by first | exact z1 | simpa using z1, by first | exact z2 | simpa using z2⟩
              case measure => simp [intOf]; omega
            · go_wp2_with fail
              go_roundw
              case rel => exact ⟨1, Nat.le_refl _, by go_num, HBR.out⟩
              case measure => simp [intOf])
        | (
          go_loopw [66] (fun i wr => ∃ j : Nat, j ≤ n ∧ i = .int .i64 j ∧ Below w.heap.size w wr ∧ wo.heap.size + 2 ≤ wr.heap.size ∧ wr.cell? ⟨wo.heap.size, 2, none⟩ = some (.slice A2 n c2) ∧ wr.cell? ⟨wo.heap.size + 1, 2, none⟩ = some (.slice A1 n c1)) (fun i _ => n - (intOf i).toNat)
          case atStart =>
            refine ⟨0, Nat.zero_le _, rfl, below2p HBW.out hw _ _, ?_, ?_, ?_⟩
            · simp
            · (simp [go_sem]; done)
            · (simp [go_sem]; done)
          case round =>
            obtain ⟨j, hj, rfl, hbr, hsz, z1, z2⟩ := hrel
            have HBR := Lib.hid hbr; clear hbr
            have hwr1 : wo.heap.size < wr.heap.size := by omega
            have hwr2 : wo.heap.size + 1 < wr.heap.size := by omega
            by_cases hjn : j < n
            · obtain ⟨⟨an, av⟩, hp⟩ : ∃ p, l[j]? = some p := ⟨_, List.getElem?_eq_getElem (by rw [← HN.out]; exact hjn)⟩
              obtain ⟨g1, f1, rfl, gl1, p0, p1⟩ := HA1.out j an av hp
              obtain ⟨g2, f2, rfl, gl2, q0, q1⟩ := HA2.out j an av hp
              have p0 := (HBR.out.cell (p := ⟨g1, f1 + j * 2, none⟩) gl1).trans p0
              have p1 := (HBR.out.cell (p := ⟨g1, f1 + j * 2 + 1, none⟩) gl1).trans p1
              have q0 := (HBR.out.cell (p := ⟨g2, f2 + j * 2, none⟩) gl2).trans q0
              have q1 := (HBR.out.cell (p := ⟨g2, f2 + j * 2 + 1, none⟩) gl2).trans q1
              have HP := Lib.hid hp; clear hp
              have jc1 : j < c1 := by omega
              have jc2 : j < c2 := by omega
              have gw1 : g1 < wr.heap.size := by omega
              have gw2 : g2 < wr.heap.size := by omega
              go_wp2_with fail
              go_quiet (fail)
              go_wp2_with fail
              go_roundw
              case rel => exact ⟨j + 1, by omega, by go_num, by first | exact HBR.out.drew | exact below_drewN HBR.out _ | exact HBR.out, by simpa using hsz, by first | exact z1 | simpa using z1, by first | exact z2 | simpa using z2⟩
              case measure => simp [intOf]; omega
            · go_wp2_with fail
              go_roundw
              case rel => exact ⟨1, Nat.le_refl _, by go_num, HBR.out⟩
              case measure => simp [intOf])))
    · obtain rfl : k = 1 := by omega
      go_wp2_with fail
      go_ret
      exact ⟨rfl, hbw⟩
end Go.Proofs.Ytfmmpfoecjehiaa
