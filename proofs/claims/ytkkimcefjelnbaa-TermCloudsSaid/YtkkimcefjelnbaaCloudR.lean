/- DERIVED. What the reference's CloudOf returns, for all terms and numbers. No condition. -/
import Derived.Test.YtkkimcefjelnbaaCloud
import Derived.Deep.Onto
namespace Go.Proofs.Ytkkimcefjelnbaa
open Go.RowKit
set_option linter.unusedVariables false
theorem min_cells {w : World} {g cap n : Nat} {zs : List Int} (h : ∀ j, j < zs.length → w.cell? ⟨g, j, none⟩ = some (.int .i64 (zs.getD j 0))) (hl : zs.length = n) (hn : 0 < n) (hb : n ≤ 2000) :
    Calls Try.prog 27 #[.slice (some ⟨g, 0, none⟩) n cap] w fun e w' => e = .returned (.int .i64 (Lib.minOf zs)) ∧ w' = w := by
  have := Try.slices_Min_int g 0 n cap zs w hn (by omega) (by omega) (fun j hj => by rw [Nat.zero_add]; exact h j hj)
  rw [← hl, List.take_length] at this
  rw [← hl]
  exact this
theorem max_cells {w : World} {g cap n : Nat} {zs : List Int} (h : ∀ j, j < zs.length → w.cell? ⟨g, j, none⟩ = some (.int .i64 (zs.getD j 0))) (hl : zs.length = n) (hn : 0 < n) (hb : n ≤ 2000) :
    Calls Try.prog 28 #[.slice (some ⟨g, 0, none⟩) n cap] w fun e w' => e = .returned (.int .i64 (Lib.maxOf zs)) ∧ w' = w := by
  have := Try.slices_Max_int g 0 n cap zs w hn (by omega) (by omega) (fun j hj => by rw [Nat.zero_add]; exact h j hj)
  rw [← hl, List.take_length] at this
  rw [← hl]
  exact this
set_option maxRecDepth 100000 in
set_option maxHeartbeats 800000 in
theorem cloudOf_any (A : Option Addr) (n c : Nat) (s : Int) (ln : Nat → Nat) (w : World) (hn0 : 0 < n) (hn : n ≤ 2000) (hs1 : 1 ≤ s) (hs2 : s ≤ 100) (hT : TermsAt w w.heap.size A n ln) :
    Calls Try.prog 19 #[.slice A n c, .int .i64 s] w (CloudPost n s ln w) := by
  obtain ⟨i0, hi, hz0, hz1, hz2⟩ := info_parts intInfo
  have HT := Lib.hid hT; clear hT
  go_enter Try.func19, Try.ntmps19
  go_wp2_with fail
  go_loopw [6, 25] (fun v i wr => ∃ k : Nat, k ≤ n ∧ i = .int .i64 k ∧ wr.ownsRow w.heap.size 3 1 v k ((lensI ln k).map (Value.int .i64)) ∧ Below w.heap.size w wr) (fun _ i _ => n - (intOf i).toNat)
  case atStart => exact ⟨0, by omega, rfl, World.ownsRow_nil _ _ _ _, Below.refl _ _⟩
  case round =>
    obtain ⟨k, hk, rfl, hown, hbw⟩ := hrel
    by_cases hlt : k < n
    · obtain ⟨b, off, c1, s1, t1, A1, rfl, hb, hm, x0, x1, x2⟩ := HT.out k hlt
      have g0 : wr.cell? ⟨b, off + k * 3, none⟩ = some (.string s1) := (hbw.cell hb).trans x0
      have g1 : wr.cell? ⟨b, off + k * 3 + 1, none⟩ = some (.string t1) := (hbw.cell hb).trans x1
      have g2 : wr.cell? ⟨b, off + k * 3 + 2, none⟩ = some (.slice A1 (ln k) c1) := (hbw.cell hb).trans x2
      clear x0 x1 x2
      have hsz := hbw.size
      have HO := Lib.hid hown; clear hown
      go_wp2_with (at_builtin; refine wpList_append_own _ rfl _ _ 30 rfl w.heap.size 3 i0 (.int .i64 0) 1 8 Try.underlying30 hi hz0 hz1 hz2 rfl (by decide) _ _ _ rfl ((HO.out.alloc _).alloc _) ⟨wr.heap.size + 1, 0, none⟩ 1 1 [.int .i64 (ln k)] rfl rfl ?c1 ?c2 ?c3 ?c4 ?c5 ?_)
      try (case c1 => exact cell_one_new' _ _ _ _ (by simp))
      case c2 => first | rfl | (intro u hu; simp at hu; subst hu; rfl)
      case c3 => unfold maxLen; omega
      case c4 => omega
      case c5 => have := hbw.size; simp; omega
      intro v' w1 hown' hgrow _
      have hb1 := ((hbw.alloc hbw.size _).alloc (by simp; omega) _).grown hgrow (by have := hbw.size; simp; omega) (fun j hj => (HO.out.lt j hj).1)
      clear hgrow
      have HO1 := Lib.hid hown'; clear hown'
      go_wp2_with fail
      go_roundw
      case rel =>
        refine ⟨k + 1, by omega, by go_num, ?_, hb1⟩
        have := HO1.out
        rw [lensI_succ, List.map_append]
        exact this
      case measure => simp [intOf]; omega
    · obtain rfl : k = n := by omega
      obtain ⟨wo, rfl⟩ : ∃ wo : World, wo = wr := ⟨_, rfl⟩
      obtain ⟨g, cap, rfl, hg1, hg2⟩ := hown.form hn0
      have hcells : ∀ wX, Below wo.heap.size wo wX → ∀ j, j < (lensI ln k).length → wX.cell? ⟨g, j, none⟩ = some (.int .i64 ((lensI ln k).getD j 0)) := fun wX hX j hj => by
        rw [hX.cell (p := ⟨g, j, none⟩) hg2, hown.cellAt j (by rw [lensI_length] at hj; omega), List.getElem?_map, List.getD_eq_getElem?_getD, List.getElem?_eq_getElem hj]; rfl
      have hmin := fun wX hX => min_cells (cap := cap) (hcells wX hX) (lensI_length _ _) hn0 hn
      have hmax := fun wX hX => max_cells (cap := cap) (hcells wX hX) (lensI_length _ _) hn0 hn
      obtain ⟨b1, b2, b3⟩ := lens_bounds ln k hn0 (fun i hi => by obtain ⟨_, _, _, _, _, _, _, _, hm, _⟩ := HT.out i hi; exact hm)
      obtain ⟨lo, hlo⟩ : ∃ lo, Lib.minOf (lensI ln k) = lo := ⟨_, rfl⟩
      obtain ⟨hi', hhi⟩ : ∃ hi', Lib.maxOf (lensI ln k) = hi' := ⟨_, rfl⟩
      rw [hlo] at hmin b1 b3
      rw [hhi] at hmax b2 b3
      have hlh : lo ≤ hi' := by have := b3 0 hn0; omega
      have hwz : ¬ wrap64 (hi' - lo + 1) = 0 := by unfold wrap64; omega
      have HB := Lib.hid b3; clear b3
      have HLO := Lib.hid hlo; clear hlo
      have HHI := Lib.hid hhi; clear hhi
      have H1 := Lib.hid hmin; clear hmin
      have H2 := Lib.hid hmax; clear hmax
      have HC := Lib.hid hcells; clear hcells
      have HO := Lib.hid hown; clear hown
      go_wp2_with fail
      go_loopw [9, 38] (fun u i wr => ∃ j : Nat, j ≤ k ∧ i = .int .i64 j ∧ wr.ownsRow wo.heap.size 3 1 u j ((lensQ (cq lo hi' s) ln j).map (Value.int .i64)) ∧ Below wo.heap.size wo wr) (fun _ i _ => k - (intOf i).toNat)
      case atStart => exact ⟨0, by omega, rfl, World.ownsRow_nil _ _ _ _, Below.refl _ _⟩
      case round =>
        obtain ⟨j, hj, rfl, hownj, hbj⟩ := hrel
        by_cases hjk : j < k
        · obtain ⟨b4, b5⟩ := HB.out j hjk
          have gc : wr.cell? ⟨g, j, none⟩ = some (.int .i64 ((ln j : Nat) : Int)) := by
            rw [HC.out wr hbj j (by rw [lensI_length]; exact hjk), lensI_getD ln hjk]
          have HOJ := Lib.hid hownj; clear hownj
          obtain ⟨x, hx⟩ : ∃ x, ((ln j : Nat) : Int) = x := ⟨_, rfl⟩
          rw [hx] at gc b4 b5
          have HX := Lib.hid hx; clear hx
          go_wp2_with fail
          refine (H1.out _ hbj).mono ?_
          rintro e w' ⟨rfl, hw⟩
          rw [hw]
          clear hw w'
          dsimp only
          go_wp2_with fail
          refine (H2.out _ hbj).mono ?_
          rintro e w' ⟨rfl, hw⟩
          rw [hw]
          clear hw w'
          dsimp only
          go_wp2_with (at_builtin; refine wpList_append_own _ rfl _ _ 30 rfl wo.heap.size 3 i0 (.int .i64 0) 1 8 Try.underlying30 hi hz0 hz1 hz2 rfl (by decide) _ _ _ rfl (HOJ.out.alloc _) ⟨wr.heap.size, 0, none⟩ 1 1 [.int .i64 (wrap64 ((wrap64 ((x - lo) * s)).tdiv (wrap64 (hi' - lo + 1))))] rfl rfl ?d1 ?d2 ?d3 ?d4 ?d5 ?_)
          try (case d1 => exact cell_one_new _ _ _)
          case d2 => first | rfl | (intro u hu; simp at hu; subst hu; rfl)
          case d3 => unfold maxLen; omega
          case d4 => omega
          case d5 => have := hbj.size; simp; omega
          intro v' w1 hown' hgrow _
          have hb1 := (hbj.alloc hbj.size _).grown hgrow (by have := hbj.size; simp; omega) (fun j hj => (HOJ.out.lt j hj).1)
          clear hgrow
          have HO1 := Lib.hid hown'; clear hown'
          go_wp2_with fail
          go_roundw
          case rel =>
            refine ⟨j + 1, by omega, by go_num, ?_, hb1⟩
            have := HO1.out
            rw [lensQ_succ, List.map_append, HX.out]
            exact this
          case measure => simp [intOf]; omega
        · obtain rfl : j = k := by omega
          have HOJ := Lib.hid hownj; clear hownj
          go_wp2_with fail
          go_ret2
          refine ⟨_, rfl, ?_, hbw.trans (hbj.mono hbw.size)⟩
          unfold cloudOut
          rw [HLO.out, HHI.out]
          exact HOJ.out.mono hbw.size
/-- The empty list of terms, a list that is too long, a wrong number of steps: both. -/
def CloudNone (e : Int) (w : World) (en : Ending) (w' : World) : Prop := en = .returned (.tuple #[.slice none 0 0, .int .i64 e]) ∧ w = w'
def cloudErr (n : Nat) (s : Int) : Int := if 2000 < n then 4 else if s < 1 ∨ 100 < s then 2 else 0
set_option maxRecDepth 100000 in
set_option maxHeartbeats 400000 in
theorem cloud_none (A : Option Addr) (n c : Nat) (s : Int) (w : World) (hc : 2000 < n ∨ s < 1 ∨ 100 < s ∨ n = 0) :
    Calls Try.prog 18 #[.slice A n c, .int .i64 s] w (CloudNone (cloudErr n s) w) := by
  by_cases h1 : 2000 < n
  · have e : cloudErr n s = 4 := by unfold cloudErr; rw [if_pos h1]
    rw [e]
    clear hc e
    have hi : (2000 : Int) < (n : Int) := by omega
    go_enter Try.func18, Try.ntmps18
    go_wp2_with fail
    go_ret2
    exact ⟨rfl, rfl⟩
  · by_cases h2 : s < 1
    · have e : cloudErr n s = 2 := by unfold cloudErr; rw [if_neg h1, if_pos (.inl h2)]
      rw [e]
      clear hc e
      go_enter Try.func18, Try.ntmps18
      go_wp2_with fail
      go_ret2
      exact ⟨rfl, rfl⟩
    · by_cases h3 : 100 < s
      · have e : cloudErr n s = 2 := by unfold cloudErr; rw [if_neg h1, if_pos (.inr h3)]
        rw [e]
        clear hc e
        go_enter Try.func18, Try.ntmps18
        go_wp2_with fail
        go_ret2
        exact ⟨rfl, rfl⟩
      · have h0 : n = 0 := by omega
        subst h0
        have e : cloudErr 0 s = 0 := by unfold cloudErr; rw [if_neg h1, if_neg (by omega)]
        rw [e]
        clear hc e h1
        go_enter Try.func18, Try.ntmps18
        go_wp2_with fail
        go_ret2
        exact ⟨rfl, rfl⟩
set_option maxRecDepth 100000 in
set_option maxHeartbeats 400000 in
theorem cloudOf_none (A : Option Addr) (n c : Nat) (s : Int) (w : World) (hc : 2000 < n ∨ s < 1 ∨ 100 < s ∨ n = 0) :
    Calls Try.prog 19 #[.slice A n c, .int .i64 s] w (CloudNone (cloudErr n s) w) := by
  by_cases h1 : 2000 < n
  · have e : cloudErr n s = 4 := by unfold cloudErr; rw [if_pos h1]
    rw [e]
    clear hc e
    have hi : (2000 : Int) < (n : Int) := by omega
    go_enter Try.func19, Try.ntmps19
    go_wp2_with fail
    go_ret2
    exact ⟨rfl, rfl⟩
  · by_cases h2 : s < 1
    · have e : cloudErr n s = 2 := by unfold cloudErr; rw [if_neg h1, if_pos (.inl h2)]
      rw [e]
      clear hc e
      go_enter Try.func19, Try.ntmps19
      go_wp2_with fail
      go_ret2
      exact ⟨rfl, rfl⟩
    · by_cases h3 : 100 < s
      · have e : cloudErr n s = 2 := by unfold cloudErr; rw [if_neg h1, if_pos (.inr h3)]
        rw [e]
        clear hc e
        go_enter Try.func19, Try.ntmps19
        go_wp2_with fail
        go_ret2
        exact ⟨rfl, rfl⟩
      · have h0 : n = 0 := by omega
        subst h0
        have e : cloudErr 0 s = 0 := by unfold cloudErr; rw [if_neg h1, if_neg (by omega)]
        rw [e]
        clear hc e h1
        go_enter Try.func19, Try.ntmps19
        go_wp2_with fail
        go_loopw [6, 25] (fun v i wr => v = .slice none 0 0 ∧ i = .int .i64 0 ∧ wr = w) (fun _ _ _ => 0)
        case atStart => exact ⟨rfl, rfl, rfl⟩
        case round =>
          obtain ⟨rfl, rfl, rfl⟩ := hrel
          go_wp2_with fail
          go_loopw [9, 38] (fun v i wX => v = .slice none 0 0 ∧ i = .int .i64 0 ∧ wX = wr) (fun _ _ _ => 0)
          case atStart => exact ⟨rfl, rfl, rfl⟩
          case round =>
            obtain ⟨rfl, rfl, rfl⟩ := hrel
            go_wp2_with fail
            go_ret2
            exact ⟨rfl, rfl⟩
end Go.Proofs.Ytkkimcefjelnbaa
