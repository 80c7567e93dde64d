/- DERIVED. A slice of files that the statement reads, as a list of pairs. No condition. -/
import Derived.Test.YtjghindfnjfdcaaGreatDoorBunA
import Derived.Test.YtjghindfnjfdcaaGreatDoorPieces
namespace Go.Proofs.YtjghindfnjfdcaaGreatDoor
open Go.ChangeShapes Go.WideShapes Go.Deep Go.RowKit
set_option linter.unusedVariables false
section
variable {H : Type} {enc : TypeId × Value → H} {P : Program} {w : World} {base : Nat} {spare : Nat → Bool} {held : Bool}
theorem open_files {tS tL tN : TypeId} {f0 f1 : Field} (hS : P.underlying tS = some .string) (hL : P.underlying tL = some (.slice tN))
    (hN : P.underlying tN = some (.struct #[f0, f1])) (h0 : f0.type = tS) (h1 : f1.type = tS) (hone : oneCellFields P #[f0, f1] = true) (hC : P.cellsOf tN = 2)
    {fuel : Nat} {cs : List Value} {x : DataW H × List MemPlace} (h : DataW.trod enc P w base spare held fuel tL cs = some x) (hlt : ∀ p ∈ x.2, p.block < w.heap.size) :
    ∃ (A : Option Addr) (n c : Nat) (L : List (ByteArray × ByteArray)), cs = [.slice A n c] ∧ L.length = n ∧ FilesAt w w.heap.size A L ∧ (x.1 = .nil ∧ n = 0 ∨ ∃ e s, x.1 = .slice e s ∧ e.length = n) := by
  rcases open_slice_fields hL hN hone hC h with ⟨rfl, rfl⟩ | ⟨a, len, cap, m, D, Pl, rfl, hb, hl, hm, hmm, hx, hf⟩
  · exact ⟨none, 0, 0, [], rfl, rfl, .inl rfl, .inl ⟨rfl, rfl⟩⟩
  · have hlm : len ≤ m := by rw [hmm]; split <;> omega
    have one : ∀ i, i < len → ∃ p : ByteArray × ByteArray, w.cell? (a.add (i * 2 + 0)) = some (.string p.1) ∧ w.cell? (a.add (i * 2 + 1)) = some (.string p.2) := by
      intro i hi
      obtain ⟨ys, n, hD, _, hyl, hg⟩ := hf i (by omega)
      obtain ⟨v0, y0, hc0, hy0, ht0⟩ := hg 0 f0 rfl
      obtain ⟨v1, y1, hc1, hy1, ht1⟩ := hg 1 f1 rfl
      rw [h0] at ht0
      rw [h1] at ht1
      obtain ⟨k, e0, _, _⟩ := DataW.trod_string hS ht0
      obtain ⟨s, e1, _, _⟩ := DataW.trod_string hS ht1
      simp at e0 e1
      subst e0 e1
      exact ⟨(k, s), hc0, hc1⟩
    obtain ⟨F, hF⟩ := Go.Deep.choose_lt one
    refine ⟨some a, len, cap, (List.range len).map F, rfl, by simp, ?_, .inr ⟨_, _, by rw [hx], by simp⟩⟩
    cases hlen0 : len with
    | zero => exact .inl (by simp)
    | succ q =>
      rw [← hlen0]
      have hblk : a.block < w.heap.size := hlt (.cell a.block a.off) (by
        rw [hx]
        exact List.mem_append_left _ (MemPlace.mem_row.2 ⟨0, by show 0 < m * 2; omega, by simp⟩))
      obtain ⟨b, off, spot⟩ := a
      have hspot : spot = none := by
        obtain ⟨z0, _⟩ := hF 0 (by omega)
        simpa [Addr.add] using World.cell?_spot z0
      subst hspot
      refine .inr ⟨b, off, rfl, hblk, fun j p hj => ?_⟩
      have hjl : j < len := by
        have := (List.getElem?_eq_some_iff.1 hj).1
        simpa using this
      have hFj : F j = p := by
        rw [List.getElem?_map, List.getElem?_range hjl] at hj
        simpa using hj
      obtain ⟨c0, c1⟩ := hF j hjl
      rw [hFj] at c0 c1
      have e : ∀ k, (⟨b, off, none⟩ : Addr).add k = ⟨b, off + k, none⟩ := fun k => by unfold Addr.add; split <;> simp_all
      rw [e] at c0 c1
      exact ⟨c0, c1⟩
end
end Go.Proofs.YtjghindfnjfdcaaGreatDoor
