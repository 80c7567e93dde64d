/- DERIVED. asset.CheckImage and the reference's ImageFault. No condition. -/
import Derived.Test.YthlkibadiiiohaaDoorSideA
import Derived.WalkSmall
import Derived.Laws.Rows
namespace Go.Proofs.YthlkibadiiiohaaDoor
open Go.RowKit
set_option linter.unusedVariables false
/-- A row of numbers in memory below B. -/
def IntsAt (w : World) (B : Nat) (A : Option Addr) (zs : List Int) : Prop := ∀ j z, zs[j]? = some z → ∃ a, A = some a ∧ a.block < B ∧ w.cell? (a.add j) = some (.int .i64 z)
theorem addr_block (a : Addr) (j : Nat) : (a.add j).block = a.block := by
  unfold Addr.add
  split <;> rfl
theorem IntsAt.below {w w' : World} {B n : Nat} {A : Option Addr} {zs : List Int} (h : IntsAt w B A zs) (hb : Below n w w') (hn : B ≤ n) : IntsAt w' B A zs := fun j z hz => by
  obtain ⟨a, ha, hl, hc⟩ := h j z hz
  exact ⟨a, ha, hl, (hb.cell (by rw [addr_block]; omega)).trans hc⟩
/-- A number that is no level. -/
def offL (z : Int) : Bool := decide (z < 0) || decide (15 < z)
def imgE (W H : Int) (zs : List Int) : Int := if sideB W = false ∨ sideB H = false then 2 else if (zs.length : Int) ≠ W * H then 1 else if zs.any offL = true then 2 else 0
theorem any_at {zs : List Int} {k : Nat} {z : Int} (h : zs[k]? = some z) (hz : offL z = true) : zs.any offL = true := List.any_eq_true.2 ⟨z, List.mem_of_getElem? h, hz⟩
theorem any_step {zs : List Int} {k : Nat} {z : Int} (h : zs[k]? = some z) (ha : (zs.take k).any offL = false) (hz : offL z = false) : (zs.take (k + 1)).any offL = false := by
  rw [List.take_add_one, h, List.any_append, ha]
  simp [hz]
set_option maxRecDepth 100000 in
set_option maxHeartbeats 800000 in
theorem chkImg_any (W H : Int) (A : Option Addr) (n c : Nat) (zs : List Int) (w : World) (hz : zs.length = n) (hn : n ≤ maxLen) (hI : IntsAt w w.heap.size A zs) :
    Calls Tryd.prog 23 #[.agg #[.int .i64 W, .int .i64 H, .slice A n c]] w fun e w' => e = .returned (.int .i64 (imgE W H zs)) ∧ Below w.heap.size w w' := by
  have H1 := Lib.hid (fun wX => pSide_any W wX)
  have H2 := Lib.hid (fun wX => pSide_any H wX)
  unfold maxLen at hn
  cases hw : sideB W with
  | false =>
    have HR := Lib.hid (show imgE W H zs = 2 by unfold imgE; rw [if_pos (.inl hw)])
    rw [hw] at H1
    clear hw
    go_enter Tryd.func23, Tryd.ntmps23
    go_wp2_with fail
    refine (H1.out _).mono ?_
    rintro e w' ⟨rfl, rfl⟩
    go_wp2_with fail
    go_ret
    exact ⟨by rw [HR.out]; rfl, (Below.refl _ _).alloc (Nat.le_refl _) _⟩
  | true =>
    cases hh : sideB H with
    | false =>
      have HR := Lib.hid (show imgE W H zs = 2 by unfold imgE; rw [if_pos (.inr hh)])
      rw [hw] at H1
      rw [hh] at H2
      clear hw hh
      go_enter Tryd.func23, Tryd.ntmps23
      go_wp2_with fail
      refine (H1.out _).mono ?_
      rintro e w' ⟨rfl, rfl⟩
      go_wp2_with fail
      refine (H2.out _).mono ?_
      rintro e w' ⟨rfl, rfl⟩
      go_wp2_with fail
      go_ret
      exact ⟨by rw [HR.out]; rfl, (Below.refl _ _).alloc (Nat.le_refl _) _⟩
    | true =>
      obtain ⟨d1, d2⟩ := sideB_inv hw
      obtain ⟨d3, d4⟩ := sideB_inv hh
      obtain ⟨p1, p2⟩ := prod_le (a := W) (b := H) (by omega) (by omega) d2 d4
      have hno : ¬ (sideB W = false ∨ sideB H = false) := by rw [hw, hh]; simp
      have h1 := H1.out
      rw [hw] at H1
      rw [hh] at H2
      clear h1 hw hh
      obtain ⟨P, hP⟩ : ∃ P, W * H = P := ⟨_, rfl⟩
      by_cases hm : (n : Int) = P
      · have HI := Lib.hid hI
        have HZ := Lib.hid hz
        have HE := Lib.hid (show imgE W H zs = if zs.any offL = true then 2 else 0 by unfold imgE; rw [if_neg hno, if_neg (by rw [hz, hP]; exact fun h => h hm)])
        have hm2 : ((n : Int) == P) = true := by simpa using hm
        clear hI hz hno
        go_enter Tryd.func23, Tryd.ntmps23
        go_wp2_with fail
        refine (H1.out _).mono ?_
        rintro e w' ⟨rfl, rfl⟩
        go_wp2_with fail
        refine (H2.out _).mono ?_
        rintro e w' ⟨rfl, rfl⟩
        go_wp2_with fail
        go_loop [27] (fun i => ∃ k : Nat, k ≤ n ∧ i = .int .i64 k ∧ (zs.take k).any offL = false) (fun i => n - (intOf i).toNat)
        case atStart => exact ⟨0, Nat.zero_le _, rfl, rfl⟩
        case round =>
          obtain ⟨k, hk, rfl, ha⟩ := hrel
          by_cases hlt : k < n
          · obtain ⟨z, hzz⟩ : ∃ z, zs[k]? = some z := ⟨_, List.getElem?_eq_getElem (by rw [HZ.out]; exact hlt)⟩
            obtain ⟨a, rfl, hab, hac0⟩ := HI.out k z hzz
            have hac : (w.alloc (.cells #[.int .i64 W, .int .i64 H, .slice (some a) n c] 33)).cell? (a.add k) = some (.int .i64 z) := (((Below.refl _ w).alloc (Nat.le_refl _) _).cell (by rw [addr_block]; exact hab)).trans hac0
            clear hac0
            by_cases h0 : z < 0
            · have HR := Lib.hid (show imgE W H zs = 2 by rw [HE.out, if_pos (any_at hzz (by simp [offL, h0]))])
              clear ha hzz
              go_wp2_with fail
              go_ret
              exact ⟨by rw [HR.out]; rfl, (Below.refl _ _).alloc (Nat.le_refl _) _⟩
            · by_cases h15 : 15 < z
              · have HR := Lib.hid (show imgE W H zs = 2 by rw [HE.out, if_pos (any_at hzz (by simp [offL, h15]))])
                clear ha hzz
                go_wp2_with fail
                go_ret
                exact ⟨by rw [HR.out]; rfl, (Below.refl _ _).alloc (Nat.le_refl _) _⟩
              · have HX := Lib.hid (any_step hzz ha (by simp [offL]; omega))
                clear ha hzz
                go_wp2_with fail
                go_round
                case rel => exact ⟨k + 1, by omega, by go_num, HX.out⟩
                case measure => simp [intOf]; omega
          · have HR := Lib.hid (show imgE W H zs = 0 by
              rw [List.take_of_length_le (by rw [HZ.out]; omega)] at ha
              rw [HE.out, ha]; rfl)
            clear ha
            go_wp2_with fail
            go_ret
            exact ⟨by rw [HR.out]; rfl, (Below.refl _ _).alloc (Nat.le_refl _) _⟩
      · have HR := Lib.hid (show imgE W H zs = 1 by unfold imgE; rw [if_neg hno, if_pos (by rw [hz, hP]; exact hm)])
        have hm2 : ((n : Int) == P) = false := by simpa using hm
        clear hno
        go_enter Tryd.func23, Tryd.ntmps23
        go_wp2_with fail
        refine (H1.out _).mono ?_
        rintro e w' ⟨rfl, rfl⟩
        go_wp2_with fail
        refine (H2.out _).mono ?_
        rintro e w' ⟨rfl, rfl⟩
        go_wp2_with fail
        go_ret
        exact ⟨by rw [HR.out]; rfl, (Below.refl _ _).alloc (Nat.le_refl _) _⟩
end Go.Proofs.YthlkibadiiiohaaDoor
