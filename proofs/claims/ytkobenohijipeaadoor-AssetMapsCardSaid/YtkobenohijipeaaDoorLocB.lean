/- DERIVED. asset.checkBundled, Locate and the reference's LocateOf. No condition. -/
import Derived.Test.YtkobenohijipeaaDoorLocA
namespace Go.Proofs.YtkobenohijipeaaDoor
open Go.RowKit
set_option linter.unusedVariables false
theorem bunE_no {bz n1 n2 : Nat} {zs : List Int} (h : ¬ 200000 < bz) (h2 : fitsB bz n1 n2 zs = false) : bunE bz n1 n2 zs = 1 := by
  unfold bunE
  rw [if_neg h, h2]
  rfl
theorem bunE_yes {bz n1 n2 : Nat} {zs : List Int} (h : ¬ 200000 < bz) (h2 : fitsB bz n1 n2 zs = true) : bunE bz n1 n2 zs = 0 := by
  unfold bunE
  rw [if_neg h, if_pos h2]
set_option maxRecDepth 100000 in
set_option maxHeartbeats 800000 in
theorem bun_any (s : ByteArray) (A1 A2 : Option Addr) (n1 c1 n2 c2 : Nat) (zs : List Int) (w : World) (hz : zs.length = n2) (hn2 : n2 ≤ maxLen) (hI : IntsAt w w.heap.size A2 zs) :
    Calls Tryd.prog 41 #[.agg #[.string s, .slice A1 n1 c1, .slice A2 n2 c2]] w fun e w' => e = .returned (.int .i64 (bunE s.size n1 n2 zs)) ∧ Below w.heap.size w w' := by
  unfold maxLen at hn2
  by_cases hbig : (200000 : Int) < (s.size : Int)
  · have HR := Lib.hid (show bunE s.size n1 n2 zs = 4 by unfold bunE; rw [if_pos (by omega)])
    go_enter Tryd.func41, Tryd.ntmps41
    go_wp2_with fail
    go_ret
    exact ⟨by rw [HR.out]; rfl, (Below.refl _ _).alloc (Nat.le_refl _) _⟩
  have hbn : ¬ 200000 < s.size := by omega
  by_cases h1 : n1 = n2
  · by_cases h2 : (40 : Int) < (n1 : Int)
    · have HR := Lib.hid (bunE_no hbn (fitsB_no (bz := s.size) (n1 := n1) (n2 := n2) (zs := zs) (.inr (.inl (by omega)))))
      subst h1
      go_enter Tryd.func41, Tryd.ntmps41
      go_wp2_with fail
      go_ret
      exact ⟨by rw [HR.out]; rfl, (Below.refl _ _).alloc (Nat.le_refl _) _⟩
    · subst h1
      have HI := Lib.hid hI
      have HZ := Lib.hid hz
      have HN := Lib.hid (show n1 ≤ 40 by omega)
      clear hI hz
      go_enter Tryd.func41, Tryd.ntmps41
      go_wp2_with fail
      go_loop [3, 26] (fun v i => ∃ (k : Nat) (l : Int), k ≤ n1 ∧ i = .int .i64 k ∧ v = .int .i64 l ∧ rs (zs.take k) = some l) (fun _ i => n1 - (intOf i).toNat)
      case atStart => exact ⟨0, 0, Nat.zero_le _, rfl, rfl, rfl⟩
      case round =>
        obtain ⟨k, l, hk, rfl, rfl, hl⟩ := hrel
        by_cases hlt : k < n1
        · obtain ⟨z, hzz⟩ : ∃ z, zs[k]? = some z := ⟨_, List.getElem?_eq_getElem (by rw [HZ.out]; exact hlt)⟩
          obtain ⟨a, rfl, hab, hac0⟩ := HI.out k z hzz
          have hac : (w.alloc (.cells #[.string s, .slice A1 n1 c1, .slice (some a) n1 c2] 33)).cell? (a.add k) = some (.int .i64 z) := (((Below.refl _ w).alloc (Nat.le_refl _) _).cell (by rw [addr_block]; exact hab)).trans hac0
          clear hac0
          have hnx := rs_take hzz
          rw [hl] at hnx
          by_cases hzl : z < l
          · rw [stpE_lt hzl] at hnx
            have HR := Lib.hid (bunE_no hbn (fitsB_no (bz := s.size) (n1 := n1) (n2 := n1) (zs := zs) (.inr (.inr (by rw [rs_none hnx]; simp)))))
            clear hl hnx hzz
            go_wp2_with fail
            go_ret
            exact ⟨by rw [HR.out]; rfl, (Below.refl _ _).alloc (Nat.le_refl _) _⟩
          · rw [stpE_ge hzl] at hnx
            have HX := Lib.hid hnx
            clear hl hnx hzz
            go_wp2_with fail
            go_round
            case rel => exact ⟨k + 1, z, by omega, by go_num, rfl, HX.out⟩
            case measure => simp [intOf]; omega
        · have hall : zs.take k = zs := List.take_of_length_le (by rw [HZ.out]; omega)
          rw [hall] at hl
          by_cases h : l = (s.size : Int)
          · have HX := Lib.hid (bunE_yes hbn (fitsB_yes rfl HN.out (by rw [hl, h])))
            clear hl hall
            go_wp2_with fail
            go_ret
            exact ⟨by rw [HX.out]; rfl, (Below.refl _ _).alloc (Nat.le_refl _) _⟩
          · have HX := Lib.hid (bunE_no hbn (fitsB_no (bz := s.size) (n1 := n1) (n2 := n1) (zs := zs) (.inr (.inr (by rw [hl]; simpa using h)))))
            clear hl hall
            go_wp2_with fail
            go_ret
            exact ⟨by rw [HX.out]; rfl, (Below.refl _ _).alloc (Nat.le_refl _) _⟩
  · have HR := Lib.hid (bunE_no hbn (fitsB_no (bz := s.size) (n1 := n1) (n2 := n2) (zs := zs) (.inl h1)))
    have h1' : ¬ (n1 : Int) = (n2 : Int) := by omega
    clear h1
    go_enter Tryd.func41, Tryd.ntmps41
    go_wp2_with fail
    go_ret
    exact ⟨by rw [HR.out]; rfl, (Below.refl _ _).alloc (Nat.le_refl _) _⟩
/-- Where a part begins. -/
def startAt (zs : List Int) : Nat → Int
  | 0 => 0
  | k + 1 => zs.getD k 0
theorem startAt_succ {zs : List Int} {k : Nat} {z : Int} (h : zs[k]? = some z) : startAt zs (k + 1) = z := by
  show zs.getD k 0 = z
  rw [List.getD_eq_getElem?_getD, h]
  rfl
theorem rs_ok {zs : List Int} {m : Int} (h : rs zs = some m) : ∀ k, k ≤ zs.length → rs (zs.take k) = some (startAt zs k) ∧ 0 ≤ startAt zs k
  | 0, _ => ⟨rfl, Int.le_refl _⟩
  | k + 1, hk => by
    obtain ⟨h1, h2⟩ := rs_ok h k (by omega)
    obtain ⟨z, hz⟩ : ∃ z, zs[k]? = some z := ⟨_, List.getElem?_eq_getElem (by omega)⟩
    have h3 := rs_take hz
    rw [h1] at h3
    by_cases hlt : z < startAt zs k
    · rw [rs_none (h3.trans (stpE_lt hlt))] at h
      cases h
    · rw [startAt_succ hz]
      exact ⟨h3.trans (stpE_ge hlt), by omega⟩
theorem rs_end {zs : List Int} {m : Int} (h : rs zs = some m) : m = startAt zs zs.length := by
  have := (rs_ok h zs.length (Nat.le_refl _)).1
  rw [List.take_length, h] at this
  exact Option.some.inj this
def Passed (x : Int) (zs : List Int) (k : Nat) : Prop := ∀ j z, j < k → zs[j]? = some z → z ≤ x
theorem passed_lt {zs : List Int} {m x : Int} {k : Nat} (h : rs zs = some m) (hx0 : 0 ≤ x) (hx : x < m) (hk : k ≤ zs.length) (hp : Passed x zs k) : k < zs.length := by
  by_cases e : k < zs.length
  · exact e
  · have hm := rs_end h
    obtain rfl : k = zs.length := by omega
    cases hn : zs.length with
    | zero => rw [hn] at hm; simp [startAt] at hm; omega
    | succ q =>
      obtain ⟨z, hz⟩ : ∃ z, zs[q]? = some z := ⟨_, List.getElem?_eq_getElem (by omega)⟩
      rw [hn, startAt_succ hz] at hm
      have := hp q z (by omega) hz
      omega
theorem passed_start {zs : List Int} {x : Int} {k : Nat} (hx0 : 0 ≤ x) (hk : k ≤ zs.length) (hp : Passed x zs k) : startAt zs k ≤ x := by
  cases k with
  | zero => exact hx0
  | succ q =>
    obtain ⟨z, hz⟩ : ∃ z, zs[q]? = some z := ⟨_, List.getElem?_eq_getElem (by omega)⟩
    rw [startAt_succ hz]
    exact hp q z (by omega) hz
theorem Passed.next {zs : List Int} {x z : Int} {k : Nat} (h : Passed x zs k) (hz : zs[k]? = some z) (hle : z ≤ x) : Passed x zs (k + 1) := fun j y hj hy => by
  by_cases e : j = k
  · subst e
    rw [hz] at hy
    cases hy
    exact hle
  · exact h j y (by omega) hy
/-- What is found: the first part that ends behind the place. -/
def Found (x : Int) (zs : List Int) (e : Ending) : Prop := ∃ k z, zs[k]? = some z ∧ x < z ∧ Passed x zs k ∧ e = .returned (.tuple #[.int .i64 k, .int .i64 (x - startAt zs k), .int .i64 0])
theorem Found.eq {x : Int} {zs : List Int} {e e' : Ending} (h : Found x zs e) (h' : Found x zs e') : e = e' := by
  obtain ⟨k, z, h1, h2, h3, rfl⟩ := h
  obtain ⟨k', z', h1', h2', h3', rfl⟩ := h'
  have : k = k' := by
    rcases Nat.lt_trichotomy k k' with h | h | h
    · have := h3' k z h h1; omega
    · exact h
    · have := h3 k' z' h h1'; omega
  subst this
  rfl
def noE (x : Int) : Ending := .returned (.tuple #[.int .i64 0, .int .i64 0, .int .i64 x])
def LocPost (bz n1 n2 : Nat) (zs : List Int) (x : Int) (e : Ending) : Prop :=
  if bunE bz n1 n2 zs ≠ 0 then e = noE (bunE bz n1 n2 zs) else if x < 0 ∨ (bz : Int) ≤ x then e = noE 2 else Found x zs e
theorem LocPost.eq {bz n1 n2 : Nat} {zs : List Int} {x : Int} {e e' : Ending} (h : LocPost bz n1 n2 zs x e) (h' : LocPost bz n1 n2 zs x e') : e = e' := by
  unfold LocPost at h h'
  split at h
  · rw [if_pos (by assumption)] at h'; exact h.trans h'.symm
  · rw [if_neg (by assumption)] at h'
    split at h
    · rw [if_pos (by assumption)] at h'; exact h.trans h'.symm
    · rw [if_neg (by assumption)] at h'; exact h.eq h'
theorem fits_inv {bz n1 n2 : Nat} {zs : List Int} (h : bunE bz n1 n2 zs = 0) : n1 = n2 ∧ n1 ≤ 40 ∧ bz ≤ 200000 ∧ rs zs = some (bz : Int) := by
  unfold bunE at h
  split at h
  · cases h
  · split at h
    · rename_i h1 h2
      unfold fitsB at h2
      simp only [Bool.and_eq_true, decide_eq_true_eq] at h2
      exact ⟨h2.1.1, h2.1.2, by omega, h2.2⟩
    · cases h
theorem LocPost.bad {bz n1 n2 : Nat} {zs : List Int} {x : Int} (h : bunE bz n1 n2 zs ≠ 0) : LocPost bz n1 n2 zs x (noE (bunE bz n1 n2 zs)) := by unfold LocPost; rw [if_pos h]
theorem LocPost.out {bz n1 n2 : Nat} {zs : List Int} {x : Int} (h : bunE bz n1 n2 zs = 0) (hx : x < 0 ∨ (bz : Int) ≤ x) : LocPost bz n1 n2 zs x (noE 2) := by unfold LocPost; rw [if_neg (by simpa using h), if_pos hx]
theorem LocPost.in {bz n1 n2 : Nat} {zs : List Int} {x : Int} {e : Ending} (h : bunE bz n1 n2 zs = 0) (hx : 0 ≤ x) (hx2 : x < bz) (hf : Found x zs e) : LocPost bz n1 n2 zs x e := by unfold LocPost; rw [if_neg (by simpa using h), if_neg (by omega)]; exact hf
end Go.Proofs.YtkobenohijipeaaDoor
