/- DERIVED. What list.Cloud returns, for all terms and numbers. No condition. -/
import Derived.Test.YtkkimcefjelnbaaShelf
import Derived.Test.YtkkimcefjelnbaaRows
import Derived.Test.YtkkimcefjelnbaaCloudPlain
import Derived.WalkKit
import Derived.WalkSpells
import Derived.WalkLawsBesides
import Derived.Lib.Hide
import Derived.Deep.AppendLies
import Derived.Maps.AppendAt
namespace Go.Proofs.Ytkkimcefjelnbaa
open Go.RowKit
set_option linter.unusedVariables false
theorem intInfo : (Try.prog.info? 3).map (fun i => (i.zero, i.size, i.bytes)) = some (some (.int .i64 0), 1, 8) := by kernel_rfl
theorem cell_one_new' (w : World) (b : Nat) (v : Value) (e : TypeId) (h : b = w.heap.size) : ∀ j u, [v][j]? = some u → (w.alloc (.cells #[v] e)).cell? ((⟨b, 0, none⟩ : Addr).add j) = some u := by
  subst h
  exact cell_one_new _ _ _
/-- An owned row of integers, and slices.Min and slices.Max of it. -/
theorem min_own {w : World} {B g cap n : Nat} {zs : List Int} (h : w.ownsRow B 3 1 (.slice (some ⟨g, 0, none⟩) n cap) n (zs.map (Value.int .i64))) (hl : zs.length = n) (hn : 0 < n) (hb : n ≤ 2000) :
    Calls Try.prog 27 #[.slice (some ⟨g, 0, none⟩) n cap] w fun e w' => e = .returned (.int .i64 (Lib.minOf zs)) ∧ w' = w := by
  have := Try.slices_Min_int g 0 n cap zs w hn (by omega) (by omega) (fun j hj => by
    rw [Nat.zero_add, h.cellAt j (by omega), List.getElem?_map, List.getD_eq_getElem?_getD, List.getElem?_eq_getElem hj]; rfl)
  rw [← hl, List.take_length] at this
  rw [← hl]
  exact this
theorem max_own {w : World} {B g cap n : Nat} {zs : List Int} (h : w.ownsRow B 3 1 (.slice (some ⟨g, 0, none⟩) n cap) n (zs.map (Value.int .i64))) (hl : zs.length = n) (hn : 0 < n) (hb : n ≤ 2000) :
    Calls Try.prog 28 #[.slice (some ⟨g, 0, none⟩) n cap] w fun e w' => e = .returned (.int .i64 (Lib.maxOf zs)) ∧ w' = w := by
  have := Try.slices_Max_int g 0 n cap zs w hn (by omega) (by omega) (fun j hj => by
    rw [Nat.zero_add, h.cellAt j (by omega), List.getElem?_map, List.getD_eq_getElem?_getD, List.getElem?_eq_getElem hj]; rfl)
  rw [← hl, List.take_length] at this
  rw [← hl]
  exact this
/-- The step of a term. -/
def cq (lo hi s x : Int) : Int := wrap64 ((wrap64 ((x - lo) * s)).tdiv (wrap64 (hi - lo + 1)))
/-- The steps of all terms. -/
def cloudOut (s : Int) (ln : Nat → Nat) (n : Nat) : List Int := lensQ (cq (Lib.minOf (lensI ln n)) (Lib.maxOf (lensI ln n)) s) ln n
def CloudPost (n : Nat) (s : Int) (ln : Nat → Nat) (w : World) (e : Ending) (w' : World) : Prop :=
  ∃ v, e = .returned (.tuple #[v, .int .i64 0]) ∧ w'.ownsRow w.heap.size 3 1 v n ((cloudOut s ln n).map (Value.int .i64)) ∧ Below w.heap.size w w'
set_option maxRecDepth 100000 in
set_option maxHeartbeats 800000 in
theorem cloud_any (A : Option Addr) (n c : Nat) (s : Int) (ln : Nat → Nat) (w : World) (hn0 : 0 < n) (hn : n ≤ 2000) (hs1 : 1 ≤ s) (hs2 : s ≤ 100) (hT : TermsAt w w.heap.size A n ln) :
    Calls Try.prog 18 #[.slice A n c, .int .i64 s] w (CloudPost n s ln w) := by
  obtain ⟨i0, hi, hz0, hz1, hz2⟩ := info_parts intInfo
  have HT := Lib.hid hT; clear hT
  have hnz : ((n : Int) == 0) = false := by simp; omega
  go_enter Try.func18, Try.ntmps18
  go_wp2_with fail
  go_loopw [6, 27] (fun v i wr => ∃ k : Nat, k ≤ n ∧ i = .int .i64 k ∧ wr.ownsRow w.heap.size 3 1 v k ((lensI ln k).map (Value.int .i64)) ∧ Below w.heap.size w wr) (fun _ i _ => n - (intOf i).toNat)
  case atStart => exact ⟨0, by omega, rfl, World.ownsRow_nil _ _ _ _, Below.refl _ _⟩
  case round =>
    obtain ⟨k, hk, rfl, hown, hbw⟩ := hrel
    by_cases hlt : k < n
    · obtain ⟨b, off, c1, s1, t1, A1, rfl, hb, hm, x0, x1, x2⟩ := HT.out k hlt
      have g0 : wr.cell? ⟨b, off + k * 3, none⟩ = some (.string s1) := (hbw.cell hb).trans x0
      have g1 : wr.cell? ⟨b, off + k * 3 + 1, none⟩ = some (.string t1) := (hbw.cell hb).trans x1
      have g2 : wr.cell? ⟨b, off + k * 3 + 2, none⟩ = some (.slice A1 (ln k) c1) := (hbw.cell hb).trans x2
      clear x0 x1 x2
      have hsz := hbw.size
      have HO := Lib.hid hown; clear hown
      go_wp2_with (at_builtin; refine wpList_append_own _ rfl _ _ 30 rfl w.heap.size 3 i0 (.int .i64 0) 1 8 Try.underlying30 hi hz0 hz1 hz2 rfl (by decide) _ _ _ rfl ((HO.out.alloc _).alloc _) ⟨wr.heap.size + 1, 0, none⟩ 1 1 [.int .i64 (ln k)] rfl rfl ?c1 ?c2 ?c3 ?c4 ?c5 ?_)
      try (case c1 => exact cell_one_new' _ _ _ _ (by simp))
      case c2 => first | rfl | (intro u hu; simp at hu; subst hu; rfl)
      case c3 => unfold maxLen; omega
      case c4 => omega
      case c5 => have := hbw.size; simp; omega
      intro v' w1 hown' hgrow _
      have hb1 := ((hbw.alloc hbw.size _).alloc (by simp; omega) _).grown hgrow (by have := hbw.size; simp; omega) (fun j hj => (HO.out.lt j hj).1)
      clear hgrow
      have HO1 := Lib.hid hown'; clear hown'
      go_wp2_with fail
      go_roundw
      case rel =>
        refine ⟨k + 1, by omega, by go_num, ?_, hb1⟩
        have := HO1.out
        rw [lensI_succ, List.map_append]
        exact this
      case measure => simp [intOf]; omega
    · obtain rfl : k = n := by omega
      obtain ⟨g, cap, rfl, hg1, hg2⟩ := hown.form hn0
      have hmin := min_own hown (lensI_length _ _) hn0 hn
      have hmax := max_own hown (lensI_length _ _) hn0 hn
      obtain ⟨b1, b2, b3⟩ := lens_bounds ln k hn0 (fun i hi => by obtain ⟨_, _, _, _, _, _, _, _, hm, _⟩ := HT.out i hi; exact hm)
      obtain ⟨lo, hlo⟩ : ∃ lo, Lib.minOf (lensI ln k) = lo := ⟨_, rfl⟩
      obtain ⟨hi', hhi⟩ : ∃ hi', Lib.maxOf (lensI ln k) = hi' := ⟨_, rfl⟩
      rw [hlo] at hmin b1 b3
      rw [hhi] at hmax b2 b3
      have hlh : lo ≤ hi' := by have := b3 0 hn0; omega
      have hwz : ¬ wrap64 (hi' - lo + 1) = 0 := by unfold wrap64; omega
      have HB := Lib.hid b3; clear b3
      have HLO := Lib.hid hlo; clear hlo
      have HHI := Lib.hid hhi; clear hhi
      have H1 := Lib.hid hmin; clear hmin
      have H2 := Lib.hid hmax; clear hmax
      have HO := Lib.hid hown; clear hown
      go_wp2_with fail
      refine H1.out.mono ?_
      rintro e w' ⟨rfl, rfl⟩
      go_wp2_with fail
      refine H2.out.mono ?_
      rintro e w' ⟨rfl, rfl⟩
      go_wp2_with fail
      go_loopw [44] (fun i wr => ∃ j : Nat, j ≤ k ∧ i = .int .i64 j ∧ wr.ownsRow w.heap.size 3 1 (.slice (some ⟨g, 0, none⟩) k cap) k (cloudRow (cq lo hi' s) ln k j) ∧ Below w.heap.size w wr) (fun i _ => k - (intOf i).toNat)
      case atStart => exact ⟨0, by omega, rfl, by rw [cloudRow_zero]; exact HO.out, hbw⟩
      case round =>
        obtain ⟨j, hj, rfl, hownj, hbj⟩ := hrel
        by_cases hjk : j < k
        · obtain ⟨b4, b5⟩ := HB.out j hjk
          have gc : wr.cell? ⟨g, j, none⟩ = some (.int .i64 ((ln j : Nat) : Int)) := by
            rw [hownj.cellAt j (by omega), cloudRow_get _ _ hjk, if_neg (by omega)]
          have gf : wr.frozen? ⟨g, j, none⟩ = false := hownj.frozenAt j
          have HOJ := Lib.hid hownj; clear hownj
          obtain ⟨x, hx⟩ : ∃ x, ((ln j : Nat) : Int) = x := ⟨_, rfl⟩
          rw [hx] at gc b4 b5
          have HX := Lib.hid hx; clear hx
          go_wp2_with fail
          refine ⟨⟨j + 1, by omega, by go_num, ?_, hbj.setCell hg1 _⟩, by simp [intOf]; omega⟩
          rw [← cloudRow_set _ _ hjk, HX.out]
          exact (HOJ.out.stored j _).1
        · obtain rfl : j = k := by omega
          have HOJ := Lib.hid hownj; clear hownj
          go_wp2_with fail
          go_ret2
          refine ⟨_, rfl, ?_, hbj⟩
          have := HOJ.out
          rw [cloudRow_end] at this
          unfold cloudOut
          rw [HLO.out, HHI.out]
          exact this
end Go.Proofs.Ytkkimcefjelnbaa
