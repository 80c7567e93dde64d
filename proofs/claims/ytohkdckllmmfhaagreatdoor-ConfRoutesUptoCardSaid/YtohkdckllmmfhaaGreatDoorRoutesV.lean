/- DERIVED. The routes of a value, plain. No condition. -/
import Derived.Test.YtohkdckllmmfhaaGreatDoorPaths
import Derived.Test.YtohkdckllmmfhaaGreatDoorFollowR
import Derived.Lib.ItoaLen
namespace Go.Proofs.YtohkdckllmmfhaaGreatDoor
open Go.RowKit
set_option linter.unusedVariables false
/-- The routes of the items of a row, from item j of the value on. -/
def Vals.paths : Vals → Int → List ByteArray → ByteArray → Nat → List ByteArray
  | .nil, _, _, _, _ => []
  | .cons k1 _ _ _ it ks1 rest, k, ks, r, j => (if it.len = 0 then [dotJ r (partV k ks j)] else it.paths k1 ks1 (dotJ r (partV k ks j)) 0) ++ rest.paths k ks r (j + 1)
/-- The routes of a value to which the route r leads. -/
def routesV (k : Int) (it : Vals) (ks : List ByteArray) (r : ByteArray) : List ByteArray := if it.len = 0 then [r] else it.paths k ks r 0
theorem Vals.paths_cons {d : Vals} {j : Nat} {k1 : Int} {bo : Bool} {i : Int} {t : ByteArray} {it : Vals} {ks1 : List ByteArray} {rest : Vals} (h : d = .cons k1 bo i t it ks1 rest) (k : Int) (ks : List ByteArray) (r : ByteArray) :
    d.paths k ks r j = routesV k1 it ks1 (dotJ r (partV k ks j)) ++ rest.paths k ks r (j + 1) := by
  subst h; rfl
theorem Vals.paths_len : ∀ (d : Vals) (k : Int) (ks : List ByteArray) (r : ByteArray) (j : Nat), (d.paths k ks r j).length ≤ d.nodes
  | .nil, _, _, _, _ => Nat.zero_le _
  | .cons k1 bo i t it ks1 rest, k, ks, r, j => by
    have h1 := paths_len it k1 ks1 (dotJ r (partV k ks j)) 0
    have h2 := paths_len rest k ks r (j + 1)
    simp only [Vals.paths, List.length_append, Vals.nodes]
    split
    · simp only [List.length_cons, List.length_nil]; omega
    · omega
theorem routesV_len (k : Int) (it : Vals) (ks : List ByteArray) (r : ByteArray) : (routesV k it ks r).length ≤ it.nodes + 1 := by
  unfold routesV
  split
  · simp
  · have := it.paths_len k ks r 0
    omega
theorem Vals.drop_err : ∀ (j : Nat) (d : Vals), d.err leS = 0 → (d.drop j).err leS = 0
  | 0, d, h => by rw [Vals.drop_zero]; exact h
  | _ + 1, .nil, h => h
  | j + 1, .cons _ _ _ _ _ _ r, h => drop_err j r (valErr_of h).2.2
theorem keyB_size {s : ByteArray} (h : keyB s = true) : s.size ≤ 40 := by
  rcases Nat.eq_zero_or_pos s.size with h0 | h0
  · omega
  · rw [keyB_cons h0] at h
    simp only [Bool.and_eq_true, decide_eq_true_eq] at h
    exact h.1.1
theorem dotJ_size (r p : ByteArray) : (dotJ r p).size ≤ r.size + 1 + p.size := by
  unfold dotJ
  split
  · omega
  · simp only [ByteArray.size_append]
    show r.size + 1 + p.size ≤ _
    omega
theorem partV_size {k : Int} {ks : List ByteArray} {j : Nat} (hk : ∀ x, x ∈ ks → keyB x = true) (hj : j ≤ 1099511627776) : (partV k ks j).size ≤ 40 := by
  unfold partV
  split
  · rw [List.getD_eq_getElem?_getD]
    cases h : ks[j]? with
    | none => exact Nat.zero_le _
    | some x => exact keyB_size (hk x (List.mem_of_getElem? h))
  · have := Lib.itoa_length_le (j : Int) (by omega) (by omega)
    show (Lib.itoa (j : Int)).toArray.size ≤ 40
    rw [List.size_toArray]
    omega
end Go.Proofs.YtohkdckllmmfhaaGreatDoor
