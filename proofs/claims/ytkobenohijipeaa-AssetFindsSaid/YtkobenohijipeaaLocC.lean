/- DERIVED. asset.Locate and the reference's LocateOf. No condition. -/
import Derived.Test.YtkobenohijipeaaLocB
import Derived.OwnWalk
namespace Go.Proofs.Ytkobenohijipeaa
open Go.RowKit
set_option linter.unusedVariables false
theorem IntsAt.more {w : World} {B B' : Nat} {A : Option Addr} {zs : List Int} (h : IntsAt w B A zs) (hB : B ≤ B') : IntsAt w B' A zs := fun j z hz => by
  obtain ⟨a, ha, hl, hc⟩ := h j z hz
  exact ⟨a, ha, by omega, hc⟩
theorem box3 {w : World} {N : Nat} {t : TypeId} {x y z : Value} (e : w.heap[N]? = some (.cells #[x, y, z] t (0, 0))) : w.cell? ⟨N, 0, none⟩ = some x ∧ w.cell? ⟨N, 1, none⟩ = some y ∧ w.cell? ⟨N, 2, none⟩ = some z := by
  have h : ∀ j, w.cell? ⟨N, j, none⟩ = (#[x, y, z] : Array Value)[j]? := fun j => cell_of_row _ _ _ _ _ _ e
  exact ⟨h 0, h 1, h 2⟩
set_option maxRecDepth 100000 in
set_option maxHeartbeats 800000 in
theorem locate_any (s : ByteArray) (A1 A2 : Option Addr) (n1 c1 n2 c2 : Nat) (zs : List Int) (x : Int) (w : World) (hz : zs.length = n2) (hn2 : n2 ≤ maxLen) (hI : IntsAt w w.heap.size A2 zs) :
    Calls Try.prog 7 #[.agg #[.string s, .slice A1 n1 c1, .slice A2 n2 c2], .int .i64 x] w fun e w' => LocPost s.size n1 n2 zs x e ∧ Below w.heap.size w w' := by
  have H1 := Lib.hid (fun wX (hX : Below w.heap.size w wX) => bun_any s A1 A2 n1 c1 n2 c2 zs wX hz hn2 ((hI.below hX (Nat.le_refl _)).more hX.size))
  have HI := Lib.hid hI
  have HZ := Lib.hid hz
  obtain ⟨er, her⟩ : ∃ er, bunE s.size n1 n2 zs = er := ⟨_, rfl⟩
  rw [her] at H1
  clear hI hz
  unfold maxLen at hn2
  by_cases hE : er = 0
  · subst hE
    obtain ⟨-, -, f3, f4⟩ := fits_inv her
    by_cases hx0 : x < 0
    · have HP := Lib.hid (LocPost.out her (.inl hx0))
      clear her f4
      go_enter Try.func7, Try.ntmps7
      go_wp2_with fail
      refine (H1.out _ ((Below.refl _ w).alloc (Nat.le_refl _) _)).mono ?_
      rintro e w1 ⟨rfl, hb1⟩
      have HB := Lib.hid (((Below.refl _ w).alloc (Nat.le_refl _) _).trans (hb1.mono (by simp)))
      have o0 : w1.heap[w.heap.size]? = some (.cells #[.string s, .slice A1 n1 c1, .slice A2 n2 c2] 25 (0, 0)) := (hb1.block w.heap.size (by simp)).trans (heap_alloc_new _ _)
      obtain ⟨e0, e1, e2⟩ := box3 o0
      clear o0
      clear hb1
      go_wp2_with fail
      go_ret3
      exact ⟨HP.out, HB.out⟩
    by_cases hx1 : (s.size : Int) ≤ x
    · have HP := Lib.hid (LocPost.out her (.inr hx1))
      clear her f4
      go_enter Try.func7, Try.ntmps7
      go_wp2_with fail
      refine (H1.out _ ((Below.refl _ w).alloc (Nat.le_refl _) _)).mono ?_
      rintro e w1 ⟨rfl, hb1⟩
      have HB := Lib.hid (((Below.refl _ w).alloc (Nat.le_refl _) _).trans (hb1.mono (by simp)))
      have o0 : w1.heap[w.heap.size]? = some (.cells #[.string s, .slice A1 n1 c1, .slice A2 n2 c2] 25 (0, 0)) := (hb1.block w.heap.size (by simp)).trans (heap_alloc_new _ _)
      obtain ⟨e0, e1, e2⟩ := box3 o0
      clear o0
      clear hb1
      go_wp2_with fail
      go_ret3
      exact ⟨HP.out, HB.out⟩
    have HR := Lib.hid f4
    have hx2 : 0 ≤ x := by omega
    have hx3 : x < (s.size : Int) := by omega
    have HP := Lib.hid (fun e (hf : Found x zs e) => LocPost.in (e := e) her hx2 hx3 hf)
    clear her f4 hx0 hx1
    go_enter Try.func7, Try.ntmps7
    go_wp2_with fail
    refine (H1.out _ ((Below.refl _ w).alloc (Nat.le_refl _) _)).mono ?_
    rintro e w1 ⟨rfl, hb1⟩
    have HB := Lib.hid (((Below.refl _ w).alloc (Nat.le_refl _) _).trans (hb1.mono (by simp)))
    have o0 : w1.heap[w.heap.size]? = some (.cells #[.string s, .slice A1 n1 c1, .slice A2 n2 c2] 25 (0, 0)) := (hb1.block w.heap.size (by simp)).trans (heap_alloc_new _ _)
    obtain ⟨e0, e1, e2⟩ := box3 o0
    clear o0
    have HI1 := Lib.hid (HI.out.below HB.out (Nat.le_refl _))
    clear hb1
    go_wp2_with fail
    go_loop [4, 8] (fun v st => ∃ k : Nat, k ≤ n2 ∧ v = .int .i64 k ∧ st = .int .i64 (startAt zs k) ∧ Passed x zs k) (fun v _ => n2 - (intOf v).toNat)
    case atStart => exact ⟨0, Nat.zero_le _, rfl, rfl, fun j z hj => absurd hj (Nat.not_lt_zero _)⟩
    case round =>
      obtain ⟨k, hk, rfl, rfl, hp⟩ := hrel
      have hlt : k < n2 := by have := passed_lt HR.out hx2 hx3 (by rw [HZ.out]; exact hk) hp; rwa [HZ.out] at this
      have hst := passed_start hx2 (by rw [HZ.out]; exact hk) hp
      have hst0 := (rs_ok HR.out k (by rw [HZ.out]; exact hk)).2
      obtain ⟨z, hzz⟩ : ∃ z, zs[k]? = some z := ⟨_, List.getElem?_eq_getElem (by rw [HZ.out]; exact hlt)⟩
      obtain ⟨a, rfl, hab, hac⟩ := HI1.out k z hzz
      by_cases hzx : z ≤ x
      · have HN := Lib.hid (And.intro (hp.next hzz hzx) (startAt_succ hzz))
        clear hp hzz hst hst0
        go_wp2_with fail
        go_round
        case rel => exact ⟨k + 1, by omega, by go_num, by rw [HN.out.2], HN.out.1⟩
        case measure => simp [intOf]; omega
      · have HF := Lib.hid (⟨k, z, hzz, by omega, hp, rfl⟩ : Found x zs (.returned (.tuple #[.int .i64 k, .int .i64 (x - startAt zs k), .int .i64 0])))
        generalize startAt zs k = st at hst hst0 HF ⊢
        clear hp hzz
        go_wp2_with fail
        go_ret3
        exact ⟨HP.out _ HF.out, HB.out⟩
  · have HP := Lib.hid (LocPost.bad (x := x) (by rw [her]; exact hE : bunE s.size n1 n2 zs ≠ 0))
    rw [her] at HP
    clear her
    go_enter Try.func7, Try.ntmps7
    go_wp2_with fail
    refine (H1.out _ ((Below.refl _ w).alloc (Nat.le_refl _) _)).mono ?_
    rintro e w1 ⟨rfl, hb1⟩
    have HB := Lib.hid (((Below.refl _ w).alloc (Nat.le_refl _) _).trans (hb1.mono (by simp)))
    clear hb1
    go_wp2_with fail
    go_ret3
    exact ⟨HP.out, HB.out⟩
set_option maxRecDepth 100000 in
set_option maxHeartbeats 800000 in
theorem locateOf_any (s : ByteArray) (A1 A2 : Option Addr) (n1 c1 n2 c2 : Nat) (zs : List Int) (x : Int) (w : World) (hz : zs.length = n2) (hn2 : n2 ≤ maxLen) (hI : IntsAt w w.heap.size A2 zs) :
    Calls Try.prog 8 #[.agg #[.string s, .slice A1 n1 c1, .slice A2 n2 c2], .int .i64 x] w fun e w' => LocPost s.size n1 n2 zs x e ∧ Below w.heap.size w w' := by
  have H1 := Lib.hid (fun wX (hX : Below w.heap.size w wX) => form_any s A1 A2 n1 c1 n2 c2 zs wX hz hn2 ((hI.below hX (Nat.le_refl _)).more hX.size))
  have HI := Lib.hid hI
  have HZ := Lib.hid hz
  clear hI hz
  unfold maxLen at hn2
  by_cases hbig : (200000 : Int) < (s.size : Int)
  · have hb4 : bunE s.size n1 n2 zs = 4 := by unfold bunE; rw [if_pos (by omega)]
    have HP := Lib.hid (LocPost.bad (x := x) (by rw [hb4]; decide : bunE s.size n1 n2 zs ≠ 0))
    rw [hb4] at HP
    clear hb4
    go_enter Try.func8, Try.ntmps8
    go_wp2_with fail
    go_ret3
    exact ⟨HP.out, (Below.refl _ w).alloc (Nat.le_refl _) _⟩
  have hbn : ¬ 200000 < s.size := by omega
  cases hfit : fitsB s.size n1 n2 zs with
  | false =>
    have hb1 := bunE_no hbn hfit
    have HP := Lib.hid (LocPost.bad (x := x) (by rw [hb1]; decide : bunE s.size n1 n2 zs ≠ 0))
    rw [hb1] at HP
    rw [hfit] at H1
    clear hb1 hfit
    go_enter Try.func8, Try.ntmps8
    go_wp2_with fail
    refine (H1.out _ ((Below.refl _ w).alloc (Nat.le_refl _) _)).mono ?_
    rintro e w1 ⟨rfl, hb1⟩
    have HB := Lib.hid (((Below.refl _ w).alloc (Nat.le_refl _) _).trans (hb1.mono (by simp)))
    clear hb1
    go_wp2_with fail
    go_ret3
    exact ⟨HP.out, HB.out⟩
  | true =>
    have her := bunE_yes hbn hfit
    rw [hfit] at H1
    clear hfit hbn
    obtain ⟨-, -, f3, f4⟩ := fits_inv her
    by_cases hx0 : x < 0
    · have HP := Lib.hid (LocPost.out her (.inl hx0))
      clear her f4
      go_enter Try.func8, Try.ntmps8
      go_wp2_with fail
      refine (H1.out _ ((Below.refl _ w).alloc (Nat.le_refl _) _)).mono ?_
      rintro e w1 ⟨rfl, hb1⟩
      have HB := Lib.hid (((Below.refl _ w).alloc (Nat.le_refl _) _).trans (hb1.mono (by simp)))
      have o0 : w1.heap[w.heap.size]? = some (.cells #[.string s, .slice A1 n1 c1, .slice A2 n2 c2] 25 (0, 0)) := (hb1.block w.heap.size (by simp)).trans (heap_alloc_new _ _)
      obtain ⟨e0, e1, e2⟩ := box3 o0
      clear o0 hb1
      go_wp2_with fail
      go_ret3
      exact ⟨HP.out, HB.out⟩
    by_cases hx1 : (s.size : Int) ≤ x
    · have HP := Lib.hid (LocPost.out her (.inr hx1))
      clear her f4
      go_enter Try.func8, Try.ntmps8
      go_wp2_with fail
      refine (H1.out _ ((Below.refl _ w).alloc (Nat.le_refl _) _)).mono ?_
      rintro e w1 ⟨rfl, hb1⟩
      have HB := Lib.hid (((Below.refl _ w).alloc (Nat.le_refl _) _).trans (hb1.mono (by simp)))
      have o0 : w1.heap[w.heap.size]? = some (.cells #[.string s, .slice A1 n1 c1, .slice A2 n2 c2] 25 (0, 0)) := (hb1.block w.heap.size (by simp)).trans (heap_alloc_new _ _)
      obtain ⟨e0, e1, e2⟩ := box3 o0
      clear o0 hb1
      go_wp2_with fail
      go_ret3
      exact ⟨HP.out, HB.out⟩
    have HR := Lib.hid f4
    have hx2 : 0 ≤ x := by omega
    have hx3 : x < (s.size : Int) := by omega
    have HP := Lib.hid (fun e (hf : Found x zs e) => LocPost.in (e := e) her hx2 hx3 hf)
    clear her f4 hx0 hx1
    go_enter Try.func8, Try.ntmps8
    go_wp2_with fail
    refine (H1.out _ ((Below.refl _ w).alloc (Nat.le_refl _) _)).mono ?_
    rintro e w1 ⟨rfl, hb1⟩
    have HB := Lib.hid (((Below.refl _ w).alloc (Nat.le_refl _) _).trans (hb1.mono (by simp)))
    have o0 : w1.heap[w.heap.size]? = some (.cells #[.string s, .slice A1 n1 c1, .slice A2 n2 c2] 25 (0, 0)) := (hb1.block w.heap.size (by simp)).trans (heap_alloc_new _ _)
    obtain ⟨e0, e1, e2⟩ := box3 o0
    have HI1 := Lib.hid (HI.out.below HB.out (Nat.le_refl _))
    clear o0 hb1
    go_wp2_with fail
    go_loop [7, 29] (fun st v => ∃ k : Nat, k ≤ n2 ∧ v = .int .i64 k ∧ st = .int .i64 (startAt zs k) ∧ Passed x zs k) (fun _ v => n2 - (intOf v).toNat)
    case atStart => exact ⟨0, Nat.zero_le _, rfl, rfl, fun j z hj => absurd hj (Nat.not_lt_zero _)⟩
    case round =>
      obtain ⟨k, hk, rfl, rfl, hp⟩ := hrel
      have hlt : k < n2 := by have := passed_lt HR.out hx2 hx3 (by rw [HZ.out]; exact hk) hp; rwa [HZ.out] at this
      have hst := passed_start hx2 (by rw [HZ.out]; exact hk) hp
      have hst0 := (rs_ok HR.out k (by rw [HZ.out]; exact hk)).2
      obtain ⟨z, hzz⟩ : ∃ z, zs[k]? = some z := ⟨_, List.getElem?_eq_getElem (by rw [HZ.out]; exact hlt)⟩
      obtain ⟨a, rfl, hab, hac⟩ := HI1.out k z hzz
      by_cases hzx : z ≤ x
      · have HN := Lib.hid (And.intro (hp.next hzz hzx) (startAt_succ hzz))
        have hnx : ¬ x < z := by omega
        clear hp hzz hst hst0
        go_wp2_with fail
        go_round
        case rel => exact ⟨k + 1, by omega, by go_num, by rw [HN.out.2], HN.out.1⟩
        case measure => simp [intOf]; omega
      · have HF := Lib.hid (⟨k, z, hzz, by omega, hp, rfl⟩ : Found x zs (.returned (.tuple #[.int .i64 k, .int .i64 (x - startAt zs k), .int .i64 0])))
        have hnx : x < z := by omega
        generalize startAt zs k = st at hst hst0 HF ⊢
        clear hp hzz
        go_wp2_with fail
        go_ret3
        exact ⟨HP.out _ HF.out, HB.out⟩
end Go.Proofs.Ytkobenohijipeaa
