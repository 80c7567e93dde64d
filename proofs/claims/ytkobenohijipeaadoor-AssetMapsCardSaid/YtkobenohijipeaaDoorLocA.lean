/- DERIVED. asset.checkBundled and the reference's bundledForm. No condition. -/
import Derived.Test.YtkobenohijipeaaDoorRows
import Derived.WalkKit
import Derived.WalkSpells
import Derived.WalkLawsBesides
import Derived.WalkSmall
import Derived.Lib.Hide
import Derived.Laws.Rows
namespace Go.Proofs.YtkobenohijipeaaDoor
open Go.RowKit
set_option linter.unusedVariables false
/-- A row of numbers in memory below B. -/
def IntsAt (w : World) (B : Nat) (A : Option Addr) (zs : List Int) : Prop := ∀ j z, zs[j]? = some z → ∃ a, A = some a ∧ a.block < B ∧ w.cell? (a.add j) = some (.int .i64 z)
theorem addr_block (a : Addr) (j : Nat) : (a.add j).block = a.block := by
  unfold Addr.add
  split <;> rfl
theorem IntsAt.below {w w' : World} {B n : Nat} {A : Option Addr} {zs : List Int} (h : IntsAt w B A zs) (hb : Below n w w') (hn : B ≤ n) : IntsAt w' B A zs := fun j z hz => by
  obtain ⟨a, ha, hl, hc⟩ := h j z hz
  exact ⟨a, ha, hl, (hb.cell (by rw [addr_block]; omega)).trans hc⟩
/-- One End after another. -/
def stpE (o : Option Int) (z : Int) : Option Int := match o with
  | none => none
  | some l => if z < l then none else some z
theorem stpE_lt {l z : Int} (h : z < l) : stpE (some l) z = none := by simp [stpE, h]
theorem stpE_ge {l z : Int} (h : ¬ z < l) : stpE (some l) z = some z := by simp [stpE, h]
def rs (zs : List Int) : Option Int := zs.foldl stpE (some 0)
theorem fold_none : ∀ zs : List Int, zs.foldl stpE none = none
  | [] => rfl
  | z :: r => fold_none r
theorem rs_take {zs : List Int} {k : Nat} {z : Int} (hz : zs[k]? = some z) : rs (zs.take (k + 1)) = stpE (rs (zs.take k)) z := by
  unfold rs
  rw [List.take_add_one, hz, List.foldl_append]
  rfl
theorem rs_none {zs : List Int} {k : Nat} (h : rs (zs.take k) = none) : rs zs = none := by
  have e := List.take_append_drop k zs
  unfold rs at h ⊢
  rw [← e, List.foldl_append, h, fold_none]
/-- Whether the numbers of a bundle fit. -/
def fitsB (bz n1 n2 : Nat) (zs : List Int) : Bool := decide (n1 = n2) && decide (n1 ≤ 40) && decide (rs zs = some (bz : Int))
def bunE (bz n1 n2 : Nat) (zs : List Int) : Int := if 200000 < bz then 4 else if fitsB bz n1 n2 zs = true then 0 else 1
theorem fitsB_no {bz n1 n2 : Nat} {zs : List Int} (h : n1 ≠ n2 ∨ 40 < n1 ∨ rs zs ≠ some (bz : Int)) : fitsB bz n1 n2 zs = false := by
  unfold fitsB
  rcases h with h | h | h
  · rw [decide_eq_false h]; rfl
  · rw [decide_eq_false (show ¬ n1 ≤ 40 by omega)]; simp
  · rw [decide_eq_false h]; simp
theorem fitsB_yes {bz n1 n2 : Nat} {zs : List Int} (h1 : n1 = n2) (h2 : n1 ≤ 40) (h3 : rs zs = some (bz : Int)) : fitsB bz n1 n2 zs = true := by
  unfold fitsB
  rw [decide_eq_true h1, decide_eq_true h2, decide_eq_true h3]; rfl
set_option maxRecDepth 100000 in
set_option maxHeartbeats 800000 in
theorem form_any (s : ByteArray) (A1 A2 : Option Addr) (n1 c1 n2 c2 : Nat) (zs : List Int) (w : World) (hz : zs.length = n2) (hn2 : n2 ≤ maxLen) (hI : IntsAt w w.heap.size A2 zs) :
    Calls Tryd.prog 46 #[.agg #[.string s, .slice A1 n1 c1, .slice A2 n2 c2]] w fun e w' => e = .returned (.bool (fitsB s.size n1 n2 zs)) ∧ Below w.heap.size w w' := by
  unfold maxLen at hn2
  by_cases h1 : n1 = n2
  · by_cases h2 : (40 : Int) < (n1 : Int)
    · have HR := Lib.hid (fitsB_no (bz := s.size) (n1 := n1) (n2 := n2) (zs := zs) (.inr (.inl (by omega))))
      subst h1
      go_enter Tryd.func46, Tryd.ntmps46
      go_wp2_with fail
      go_ret
      exact ⟨by rw [HR.out]; rfl, (Below.refl _ _).alloc (Nat.le_refl _) _⟩
    · subst h1
      have HI := Lib.hid hI
      have HZ := Lib.hid hz
      have HN := Lib.hid (show n1 ≤ 40 by omega)
      clear hI hz
      go_enter Tryd.func46, Tryd.ntmps46
      go_wp2_with fail
      go_loop [3, 22] (fun v i => ∃ (k : Nat) (l : Int), k ≤ n1 ∧ i = .int .i64 k ∧ v = .int .i64 l ∧ rs (zs.take k) = some l) (fun _ i => n1 - (intOf i).toNat)
      case atStart => exact ⟨0, 0, Nat.zero_le _, rfl, rfl, rfl⟩
      case round =>
        obtain ⟨k, l, hk, rfl, rfl, hl⟩ := hrel
        by_cases hlt : k < n1
        · obtain ⟨z, hzz⟩ : ∃ z, zs[k]? = some z := ⟨_, List.getElem?_eq_getElem (by rw [HZ.out]; exact hlt)⟩
          obtain ⟨a, rfl, hab, hac0⟩ := HI.out k z hzz
          have hac : (w.alloc (.cells #[.string s, .slice A1 n1 c1, .slice (some a) n1 c2] 33)).cell? (a.add k) = some (.int .i64 z) := (((Below.refl _ w).alloc (Nat.le_refl _) _).cell (by rw [addr_block]; exact hab)).trans hac0
          clear hac0
          have hnx := rs_take hzz
          rw [hl] at hnx
          by_cases hzl : z < l
          · rw [stpE_lt hzl] at hnx
            have HR := Lib.hid (fitsB_no (bz := s.size) (n1 := n1) (n2 := n1) (zs := zs) (.inr (.inr (by rw [rs_none hnx]; simp))))
            clear hl hnx hzz
            go_wp2_with fail
            go_ret
            exact ⟨by rw [HR.out]; rfl, (Below.refl _ _).alloc (Nat.le_refl _) _⟩
          · rw [stpE_ge hzl] at hnx
            have HX := Lib.hid hnx
            clear hl hnx hzz
            go_wp2_with fail
            go_round
            case rel => exact ⟨k + 1, z, by omega, by go_num, rfl, HX.out⟩
            case measure => simp [intOf]; omega
        · have hall : zs.take k = zs := List.take_of_length_le (by rw [HZ.out]; omega)
          rw [hall] at hl
          have HX := Lib.hid (show fitsB s.size n1 n1 zs = ((l == (s.size : Int))) by
            by_cases h : l = (s.size : Int)
            · rw [fitsB_yes rfl HN.out (by rw [hl, h]), h]; simp
            · rw [fitsB_no (.inr (.inr (by rw [hl]; simpa using h)))]; simp [h])
          clear hl hall
          go_wp2_with fail
          go_ret
          exact ⟨by rw [HX.out]; rfl, (Below.refl _ _).alloc (Nat.le_refl _) _⟩
  · have HR := Lib.hid (fitsB_no (bz := s.size) (n1 := n1) (n2 := n2) (zs := zs) (.inl h1))
    have h1' : ¬ (n1 : Int) = (n2 : Int) := by omega
    clear h1
    go_enter Tryd.func46, Tryd.ntmps46
    go_wp2_with fail
    go_ret
    exact ⟨by rw [HR.out]; rfl, (Below.refl _ _).alloc (Nat.le_refl _) _⟩
end Go.Proofs.YtkobenohijipeaaDoor
