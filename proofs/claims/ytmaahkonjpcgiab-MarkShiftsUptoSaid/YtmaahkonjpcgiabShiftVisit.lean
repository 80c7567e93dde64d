/- DERIVED. What the visit of Shift makes of one node. Condition: a level from 1 to 6, a shift from -5 to 5. -/
import Derived.Test.YtmaahkonjpcgiabCloneO
import Derived.RegionTactic
import Derived.ChangeAlike
import Derived.BigRegion
import Derived.Handy
set_option linter.unusedSimpArgs false
set_option linter.unusedVariables false
namespace Go.Proofs.Ytmaahkonjpcgiab
open Go.RowKit

theorem Turned.one (R off lo : Nat) (v : Value) (w : World) : Turned R off (off + 6) lo lo w (w.setCell ⟨R, off + 1, none⟩ v).drew :=
  ⟨by show (w.setCell _ _).heap.size = _; simp, ((Below.refl 0 w).setCell (p := ⟨R, off + 1, none⟩) (Nat.zero_le _) v).os, ((Below.refl 0 w).setCell (p := ⟨R, off + 1, none⟩) (Nat.zero_le _) v).tape, ((Below.refl 0 w).setCell (p := ⟨R, off + 1, none⟩) (Nat.zero_le _) v).output,
   fun q g1 _ => Below.heap_setCell w ⟨R, off + 1, none⟩ v q g1, fun i hi => World.cell?_setCell_other _ _ _ _ (fun e => by injection e with _ e2; omega), fun i => by show (w.setCell _ _).frozen? _ = _; simp⟩
theorem visited {w : World} {R off : Nat} {k lv : Int} {t d ti : ByteArray} {A : Option Addr} {n c : Nat} (v : Int) (hr : w.rangeAt R off (ndCells k lv t d ti A n c)) : (w.setCell ⟨R, off + 1, none⟩ (.int .i64 v)).drew.rangeAt R off (ndCells k v t d ti A n c) := by
  intro j u hu
  show (w.setCell _ _).cell? _ = _
  by_cases h : j = 1
  · subst h
    rw [World.cell?_setCell_same _ _ _ (hr 1 _ rfl)]
    exact hu
  · rw [World.cell?_setCell_other _ _ _ _ (fun e => by injection e with _ e2; omega)]
    refine hr j u ?_
    match j, h with
    | 0, _ => exact hu
    | j + 2, _ => exact hu

set_option maxRecDepth 100000 in
set_option maxHeartbeats 800000 in
theorem shift1_any (k lv : Int) (t d ti : ByteArray) (A : Option Addr) (n c R off : Nat) (p : Addr) (b : Int) (w : World)
    (hr : w.rangeAt R off (ndCells k lv t d ti A n c)) (hth : w.there R off 6) (hp : w.cell? p = some (.int .i64 b)) (hlv : k = 1 → 1 ≤ lv ∧ lv ≤ 6) (hb0 : -5 ≤ b) (hb1 : b ≤ 5) :
    Calls Try.prog 28 #[.pointer (some ⟨R, off, none⟩), .pointer (some p)] w fun e w' => e = .returned (.tuple #[]) ∧ (k ≠ 1 ∧ w' = w ∨ k = 1 ∧ w' = (w.setCell ⟨R, off + 1, none⟩ (.int .i64 (min (max (lv + b) 1) 6))).drew) := by
  have x0 : w.cell? ⟨R, off, none⟩ = some (.int .i64 k) := hr 0 _ rfl
  have x1 : w.cell? ⟨R, off + 1, none⟩ = some (.int .i64 lv) := hr 1 _ rfl
  have f1 := (hth 1 (by omega)).2
  clear hr hth
  by_cases h1 : k = 1
  · subst h1
    obtain ⟨g1, g2⟩ := hlv rfl
    clear hlv
    go_enter Try.func28, Try.ntmps28
    go_wp2_with fail
    go_region
    go_wp2_with fail
    go_end0
    exact ⟨rfl, .inr ⟨trivial, rfl⟩⟩
  · go_enter Try.func28, Try.ntmps28
    go_wp2_with fail
    go_end0
    exact ⟨rfl, .inl ⟨h1, rfl⟩⟩
theorem shift1_post (k lv : Int) (t d ti : ByteArray) (A : Option Addr) (n c R off lo : Nat) (p : Addr) (b : Int) (w : World)
    (hr : w.rangeAt R off (ndCells k lv t d ti A n c)) (hth : w.there R off 6) (hp : w.cell? p = some (.int .i64 b)) (hlv : k = 1 → 1 ≤ lv ∧ lv ≤ 6) (hb0 : -5 ≤ b) (hb1 : b ≤ 5) :
    Calls Try.prog 28 #[.pointer (some ⟨R, off, none⟩), .pointer (some p)] w fun e w' => e = .returned (.tuple #[]) ∧ w'.rangeAt R off (ndCells k (Doc.lev k lv b) t d ti A n c) ∧ Turned R off (off + 6) lo lo w w' := by
  refine (shift1_any k lv t d ti A n c R off p b w hr hth hp hlv hb0 hb1).mono ?_
  rintro e w' ⟨he, h⟩
  refine ⟨he, ?_⟩
  rcases h with ⟨h1, rfl⟩ | ⟨h1, rfl⟩
  · exact ⟨by unfold Doc.lev; rw [if_neg h1]; exact hr, Turned.refl _ _ _ _ _ _⟩
  · exact ⟨by unfold Doc.lev; rw [if_pos h1]; exact visited _ hr, Turned.one _ _ _ _ _⟩
end Go.Proofs.Ytmaahkonjpcgiab
