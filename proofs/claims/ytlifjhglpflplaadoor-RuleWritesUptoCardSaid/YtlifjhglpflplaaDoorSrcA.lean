/- DERIVED. Widths of images: plain mathematics, and asset.isWidth, asset.checkSources. Condition: the library's variables are as the program's text lays them. -/
import Derived.Test.YtlifjhglpflplaaDoorTermP
import Derived.WalkSmall
import Derived.Lib.SlicesS
namespace Go.Proofs.YtlifjhglpflplaaDoor
open Go.RowKit
set_option linter.unusedVariables false
set_option linter.unusedSimpArgs false
/-- Widths that rise. -/
def risP (zs : List Int) : Prop := zs.Pairwise (· < ·)
instance (zs : List Int) : Decidable (risP zs) := inferInstanceAs (Decidable (zs.Pairwise (· < ·)))
theorem ris_of : ∀ {zs : List Int}, (∀ j x y, zs[j]? = some x → zs[j + 1]? = some y → x < y) → risP zs
  | [], _ => List.Pairwise.nil
  | [x], _ => List.pairwise_singleton _ _
  | x :: y :: r, h => by
    have ih : risP (y :: r) := ris_of fun j a b ha hb => h (j + 1) a b ha hb
    have hxy : x < y := h 0 x y rfl rfl
    refine List.Pairwise.cons (fun z hz => ?_) ih
    rcases List.mem_cons.1 hz with rfl | hz
    · exact hxy
    · exact Int.lt_trans hxy (List.rel_of_pairwise_cons ih hz)
theorem ris_not {zs : List Int} {j : Nat} {x y : Int} (hx : zs[j]? = some x) (hy : zs[j + 1]? = some y) (h : y ≤ x) : ¬ risP zs := fun hr => by
  obtain ⟨h1, e1⟩ := List.getElem?_eq_some_iff.1 hx
  obtain ⟨h2, e2⟩ := List.getElem?_eq_some_iff.1 hy
  have := List.pairwise_iff_getElem.1 hr j (j + 1) h1 h2 (by omega)
  rw [e1, e2] at this
  omega
/-- Those that are less, and the width itself. -/
def srcL (x : Int) (zs : List Int) : List Int := zs.filter (fun z => decide (z < x)) ++ [x]
theorem src_eq (x : Int) : ∀ {zs : List Int}, risP zs → zs.filter (fun z => decide (z ≤ x)) ++ (if x ∈ zs then [] else [x]) = srcL x zs
  | [], _ => by simp [srcL]
  | z :: r, h => by
    have hr : risP r := (List.pairwise_cons.1 h).2
    have hz := (List.pairwise_cons.1 h).1
    have ih := src_eq x hr
    unfold srcL at ih ⊢
    by_cases h1 : z < x
    · have h2 : z ≤ x := by omega
      have hm : (x ∈ z :: r) ↔ x ∈ r := by
        rw [List.mem_cons]
        exact ⟨fun e => e.elim (fun e => by omega) id, .inr⟩
      rw [List.filter_cons_of_pos (by simpa using h2), List.filter_cons_of_pos (by simpa using h1), List.cons_append, List.cons_append, ← ih]
      simp only [hm]
    · have hn : ∀ y ∈ r, x < y := fun y hy => by have := hz y hy; omega
      have f1 : r.filter (fun z => decide (z ≤ x)) = [] := List.filter_eq_nil_iff.2 fun y hy => by have := hn y hy; simp; omega
      have f2 : r.filter (fun z => decide (z < x)) = [] := List.filter_eq_nil_iff.2 fun y hy => by have := hn y hy; simp; omega
      have hxr : x ∉ r := fun hm => by have := hn x hm; omega
      by_cases h2 : z = x
      · subst h2
        simp [f1, f2]
      · have h3 : ¬ z ≤ x := by omega
        have hm : x ∉ z :: r := by
          rw [List.mem_cons]
          rintro (e | e)
          · exact h2 e.symm
          · exact hxr e
        rw [if_neg hm]
        simp [f1, f2, h1, h3]
/-- A row of numbers in memory below B. -/
def IntRow (w : World) (B : Nat) (A : Option Addr) (l : List Int) : Prop := l = [] ∨ ∃ b off, A = some ⟨b, off, none⟩ ∧ b < B ∧ ∀ j x, l[j]? = some x → w.cell? ⟨b, off + j, none⟩ = some (.int .i64 x)
theorem IntRow.below {w w' : World} {B n : Nat} {A : Option Addr} {l : List Int} (h : IntRow w B A l) (hb : Below n w w') (hn : B ≤ n) : IntRow w' B A l := by
  rcases h with h | ⟨b, off, hA, hl, hc⟩
  · exact .inl h
  · exact .inr ⟨b, off, hA, hl, fun j x hx => (hb.cell (p := ⟨b, off + j, none⟩) (by show b < n; omega)).trans (hc j x hx)⟩
theorem IntRow.more {w : World} {B B' : Nat} {A : Option Addr} {l : List Int} (h : IntRow w B A l) (hB : B ≤ B') : IntRow w B' A l := by
  rcases h with h | ⟨b, off, hA, hl, hc⟩
  · exact .inl h
  · exact .inr ⟨b, off, hA, by omega, hc⟩
theorem IntRow.at {w : World} {B : Nat} {A : Option Addr} {l : List Int} (h : IntRow w B A l) {k : Nat} (hk : k < l.length) : ∃ b off, A = some ⟨b, off, none⟩ ∧ b < B ∧ ∀ j x, l[j]? = some x → w.cell? ⟨b, off + j, none⟩ = some (.int .i64 x) := by
  rcases h with h | h
  · subst h; simp at hk
  · exact h
/-- A number that is no width. -/
def noW (n : Int) : Bool := decide (n < 1) || decide (10000 < n)
theorem noW_inv {n : Int} (h : noW n = false) : 1 ≤ n ∧ n ≤ 10000 := by
  unfold noW at h
  rw [Bool.or_eq_false_iff] at h
  have h1 := of_decide_eq_false h.1
  have h2 := of_decide_eq_false h.2
  omega
theorem noW_cases {n : Int} (h : noW n = true) : n < 1 ∨ 10000 < n := by
  unfold noW at h
  rw [Bool.or_eq_true] at h
  exact h.imp of_decide_eq_true of_decide_eq_true
theorem noW_hit {zs : List Int} {k : Nat} {z : Int} (h : zs[k]? = some z) (hz : noW z = true) : zs.any noW = true := List.any_eq_true.2 ⟨z, List.mem_of_getElem? h, hz⟩
theorem noW_step {zs : List Int} {k : Nat} {z : Int} (h : zs[k]? = some z) (ha : (zs.take k).any noW = false) (hz : noW z = false) : (zs.take (k + 1)).any noW = false := by
  rw [List.take_add_one, h, List.any_append, ha]
  simp [hz]
set_option maxRecDepth 100000 in
theorem isWidth_any (n : Int) (w : World) : Calls Tryd.prog 62 #[.int .i64 n] w fun e w' => e = .returned (.bool (!noW n)) ∧ w = w' := by
  by_cases h1 : (1 : Int) ≤ n
  · by_cases h2 : n ≤ (10000 : Int)
    · have hr : noW n = false := by unfold noW; rw [decide_eq_false (show ¬ n < 1 by omega), decide_eq_false (show ¬ 10000 < n by omega)]; rfl
      rw [hr]
      go_enter Tryd.func62, Tryd.ntmps62
      go_wp2_with fail
      go_ret
      exact ⟨by simp [h2], rfl⟩
    · have hr : noW n = true := by unfold noW; rw [decide_eq_true (show 10000 < n by omega)]; simp
      rw [hr]
      go_enter Tryd.func62, Tryd.ntmps62
      go_wp2_with fail
      go_ret
      exact ⟨by simp [h2], rfl⟩
  · have hr : noW n = true := by unfold noW; rw [decide_eq_true (show n < 1 by omega)]; rfl
    rw [hr]
    go_enter Tryd.func62, Tryd.ntmps62
    go_wp2_with fail
    go_ret
    exact ⟨rfl, rfl⟩
end Go.Proofs.YtlifjhglpflplaaDoor
