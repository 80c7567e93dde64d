/- DERIVED. The law ListParts returns true for all numbers. No condition but that the signs lie where they do. -/
import Derived.Test.YtkkimcefjelnbaaGreatDoorPages
import Derived.Test.YtkkimcefjelnbaaGreatDoorLAwake
import Derived.Laws.OwnMore
import Derived.BigQuiet
import Derived.Deep.QuietTactic
import Derived.Deep.Draws
import Derived.WalkSmall
import Derived.ProofKit
namespace Go.Proofs.YtkkimcefjelnbaaGreatDoor
open Go.RowKit
set_option linter.unusedVariables false
/-- What the law asks of one part: plain facts. -/
theorem part_facts {m s k j : Nat} (h : LastPart m s k) (hs : 1 ≤ s) (hj : j < k) :
    j * s ≤ m ∧ j * s ≤ min (j * s + s) m ∧ min (j * s + s) m ≤ j * s + s ∧ (j + 1 < k → min (j * s + s) m = j * s + s) ∧ (min (j * s + s) m = j * s → m = 0) := by
  obtain ⟨h1, h2, h3⟩ := h
  have hle : j * s ≤ (k - 1) * s := Nat.mul_le_mul_right s (by omega)
  have hsucc : (j + 1) * s = j * s + s := by rw [Nat.add_mul, Nat.one_mul]
  have hx : j * s ≤ m := by
    rcases h3 with e | e
    · subst e; obtain rfl : j = 0 := by omega
      simp
    · omega
  have hn : j + 1 < k → j * s + s ≤ m := fun hk => by
    have h4 : (j + 1) * s ≤ (k - 1) * s := Nat.mul_le_mul_right s (by omega)
    rcases h3 with e | e
    · omega
    · omega
  refine ⟨hx, by omega, by omega, fun hk => ?_, fun e => ?_⟩
  · have := hn hk; omega
  · rcases h3 with e' | e'
    · subst e'; obtain rfl : j = 0 := by omega
      simp at e; omega
    · omega
set_option maxRecDepth 100000 in
set_option maxHeartbeats 1600000 in
theorem listParts_any (b o n c : Nat) (m s : Int) (w : World) (hsg : LAw.Sg w b o n c) :
    Calls Tryz.prog 3 #[.int .i64 m, .int .i64 s] w fun e w' => e = .returned (.bool true) ∧ Below w.heap.size w w' := by
  have HA := Lib.hid (LAw.awakeList_any b o n c w hsg); clear hsg
  by_cases h : m < 0 ∨ 2000 < m ∨ s < 1 ∨ 2000 < s
  · have H1 := Lib.hid (fun wX => pager_bad m s wX h)
    clear h
    go_enter Tryz.func3, Tryz.ntmps3
    go_wp2_with fail
    refine HA.out.mono ?_
    rintro e w1 ⟨rfl, hb1⟩
    go_wp2_with fail
    refine (H1.out _).mono ?_
    rintro e w' ⟨rfl, rfl⟩
    go_wp2_with fail
    go_ret
    exact ⟨rfl, hb1⟩
  · obtain ⟨a, rfl⟩ : ∃ a : Nat, m = a := ⟨m.toNat, by omega⟩
    obtain ⟨t, rfl⟩ : ∃ t : Nat, s = t := ⟨s.toNat, by omega⟩
    have ha : a ≤ 2000 := by omega
    have ht1 : 1 ≤ t := by omega
    have ht2 : t ≤ 2000 := by omega
    have H1 := Lib.hid (fun wX => pager_any a t wX ha ht1 ht2)
    clear h
    go_enter Tryz.func3, Tryz.ntmps3
    go_wp2_with fail
    refine HA.out.mono ?_
    rintro e w0 ⟨rfl, hb0⟩
    go_wp2_with fail
    refine (H1.out _).mono ?_
    rintro e w1 ⟨k, v, hk, hk4, rfl, hown, hb1⟩
    obtain ⟨g, cap, rfl, hg1, hg2⟩ := hown.form hk.1
    have hbA := hb0.trans (hb1.mono hb0.size)
    clear hb0 hb1 H1 HA
    have HK := Lib.hid hk
    have hk1 : 1 ≤ k := hk.1
    have HO := Lib.hid hown; clear hown hk
    go_wp2_with fail
    go_loopw [29, 7] (fun i q wr => ∃ j : Nat, j ≤ k ∧ i = .int .i64 j ∧ q = .int .i64 (min (j * t) a : Nat) ∧ Below w1.heap.size w1 wr) (fun i _ _ => k - (intOf i).toNat)
    case atStart => exact ⟨0, by omega, rfl, by simp, Below.refl _ _⟩
    case round =>
      obtain ⟨j, hj, rfl, rfl, hb⟩ := hrel
      by_cases hlt : j < k
      · obtain ⟨x1, x2, x3, x4, x5⟩ := part_facts HK.out ht1 hlt
        obtain ⟨y0, y1, y2⟩ := pagesL_get a t k j hlt
        have c0 := ((hb.cell (p := ⟨g, j * 3, none⟩) hg2).trans (HO.out.cellAt (j * 3) (by omega))).trans y0
        have c1 := ((hb.cell (p := ⟨g, j * 3 + 1, none⟩) hg2).trans (HO.out.cellAt (j * 3 + 1) (by omega))).trans y1
        have c2 := ((hb.cell (p := ⟨g, j * 3 + 2, none⟩) hg2).trans (HO.out.cellAt (j * 3 + 2) (by omega))).trans y2
        have hq : min (j * t) a = j * t := by omega
        rw [hq]
        have hq2 : min ((j + 1) * t) a = min (j * t + t) a := by rw [Nat.add_mul, Nat.one_mul]
        have hbd : min (j * t + t) a ≤ 2000 := by omega
        generalize min (j * t + t) a = y at *
        generalize j * t = x at *
        go_wp2_with fail
        all_goals first
          | (exfalso; omega)
          | exact ⟨⟨j + 1, by omega, by go_num, by first | (rw [hq2]; done) | (rw [hq2]; congr 1; omega), hb.alloc hb.size _⟩, by simp [intOf]; omega⟩
      · obtain rfl : j = k := by omega
        have he : min (j * t) a = a := by
          have := HK.out.2.1
          omega
        rw [he]
        have h0 : 0 < j := hk1
        go_wp2_with fail
        go_ret
        exact ⟨rfl, hbA.trans (hb.mono hbA.size)⟩
end Go.Proofs.YtkkimcefjelnbaaGreatDoor
