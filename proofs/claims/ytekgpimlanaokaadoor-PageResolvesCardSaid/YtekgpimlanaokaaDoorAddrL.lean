/- DERIVED. Addresses as lists of parts: plain facts. -/
import Derived.Test.YtekgpimlanaokaaDoorAbove
import Derived.Lib.IndexBytes
import Derived.Lib.CountLaws
namespace Go.Proofs.YtekgpimlanaokaaDoor
set_option linter.unusedVariables false
open Go.RowKit
theorem bP_of (s : ByteArray) : bP s.data.toList = s := by
  obtain ⟨⟨l⟩⟩ := s
  rfl
theorem tparts_pieces : ∀ (n : Nat) (l : List UInt8), l.length ≤ n → Lib.splitB slashS 0 (Lib.countB (bP l) slashS) (bP l) = (pieces l).map bP := fun n => by
  induction n with
  | zero =>
    intro l hl
    obtain rfl : l = [] := List.length_eq_zero_iff.1 (by omega)
    rfl
  | succ n ih =>
    intro l hl
    have hix : Lib.indexB (bP l) slashS = Lib.indexByte l 47 := by
      show Lib.index (bP l).data.toList [47] = _
      rw [Lib.index_one, bP_list]
    rcases ixP l with ⟨h, hp⟩ | ⟨k, h, hp, hk⟩
    · rw [h] at hix
      rw [Lib.countB_miss _ _ hix, Lib.splitB_zero, hp]
      rfl
    · rw [h] at hix
      have e : (bP l).extract (k + slashS.size) (bP l).size = bP (l.drop (k + 1)) := bP_ext l (k + 1)
      have e0 : (bP l).extract 0 (k + 0) = bP (l.take k) := bP_ext0 l k
      rw [Lib.countB_hit _ _ k (by decide) hix, Nat.add_comm, Lib.splitB_hit _ _ _ _ k hix, e, e0, hp, ih _ (by rw [List.length_drop]; omega)]
      rfl
theorem tparts_eq (l : List UInt8) : tparts (bP l) = (pieces l).map bP := tparts_pieces l.length l (Nat.le_refl _)
/-- Parts, each with a slash behind it. -/
def flat : List (List UInt8) → List UInt8
  | [] => []
  | p :: r => p ++ 47 :: flat r
def inner : List (List UInt8) → List UInt8
  | [] => []
  | [p] => p
  | p :: q :: r => p ++ 47 :: inner (q :: r)
def adr (ps : List (List UInt8)) : List UInt8 := 47 :: flat ps
theorem flat_snoc : ∀ (ps : List (List UInt8)) (p : List UInt8), flat (ps ++ [p]) = flat ps ++ (p ++ [47])
  | [], p => by simp [flat]
  | a :: r, p => by simp [flat, flat_snoc r p]
theorem flat_inner : ∀ (ps : List (List UInt8)), ps ≠ [] → flat ps = inner ps ++ [47]
  | [], h => absurd rfl h
  | [p], _ => by simp [flat, inner]
  | p :: q :: r, _ => by rw [flat, flat_inner (q :: r) (by simp), inner]; simp
theorem pieces_app : ∀ (p r : List UInt8), (47 : UInt8) ∉ p → pieces (p ++ 47 :: r) = p :: pieces r
  | [], r, _ => by simp [pieces]
  | c :: p, r, h => by
    have hc : c ≠ 47 := fun e => h (by simp [e])
    rw [List.cons_append, pieces, if_neg hc, pieces_app p r (fun e => h (by simp [e]))]
    simp
theorem pieces_sf (p : List UInt8) (h : (47 : UInt8) ∉ p) : pieces p = [p] := pieces_one p (fun k e => h (List.mem_of_getElem? e))
theorem pieces_inner : ∀ (ps : List (List UInt8)), ps ≠ [] → (∀ p ∈ ps, (47 : UInt8) ∉ p) → pieces (inner ps) = ps
  | [], h, _ => absurd rfl h
  | [p], _, h => pieces_sf p (h p (by simp))
  | p :: q :: r, _, h => by rw [inner, pieces_app p _ (h p (by simp)), pieces_inner (q :: r) (by simp) (fun x hx => h x (List.mem_cons_of_mem _ hx))]
theorem pieces_flat : ∀ (l : List UInt8), flat (pieces l) = l ++ [47]
  | [] => rfl
  | c :: r => by
    have ih := pieces_flat r
    have hne := pieces_ne r
    unfold pieces
    split
    · rename_i h
      rw [flat, ih, h]
      rfl
    · cases hp : pieces r with
      | nil => exact absurd hp hne
      | cons a b =>
        rw [hp] at ih
        simp only [List.headD_cons, List.tail_cons, flat, List.cons_append] at ih ⊢
        rw [ih]
theorem pieces_no : ∀ (l p : List UInt8), p ∈ pieces l → (47 : UInt8) ∉ p
  | [], p, h => by simp [pieces] at h; subst h; simp
  | c :: r, p, h => by
    have hne := pieces_ne r
    unfold pieces at h
    split at h
    · rcases List.mem_cons.1 h with rfl | h
      · simp
      · exact pieces_no r p h
    · rename_i hc
      cases hp : pieces r with
      | nil => exact absurd hp hne
      | cons a b =>
        rw [hp] at h
        simp only [List.headD_cons, List.tail_cons] at h
        rcases List.mem_cons.1 h with rfl | h
        · intro e
          rcases List.mem_cons.1 e with e | e
          · exact hc e.symm
          · exact pieces_no r a (by rw [hp]; simp) e
        · exact pieces_no r p (by rw [hp]; simp [h])
theorem adr_size (ps : List (List UInt8)) : (bP (adr ps)).size = (flat ps).length + 1 := by rw [bP_size]; rfl
end Go.Proofs.YtekgpimlanaokaaDoor
