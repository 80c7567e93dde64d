/- DERIVED. The reference's ImageStringOf. Condition: the library's table of math/bits holds 4 at its place 15. -/
import Derived.Test.YthlkibadiiiohaaDoorChkImg
import Derived.Test.YthlkibadiiiohaaDoorFmtHex
import Derived.Test.YthlkibadiiiohaaDoorShelf
import Derived.BigQuiet
namespace Go.Proofs.YthlkibadiiiohaaDoor
open Go.RowKit
set_option linter.unusedVariables false
def bS (l : List UInt8) : ByteArray := ⟨l.toArray⟩
theorem bS_size (l : List UInt8) : (bS l).size = l.length := by simp [bS, ByteArray.size]
theorem bS_one (l : List UInt8) (d : UInt8) : bS l ++ ⟨#[d]⟩ = bS (l ++ [d]) := by
  apply ByteArray.ext
  apply Array.toList_inj.1
  simp [bS]
theorem app_nil (s : ByteArray) : s ++ bS [] = s := by
  apply ByteArray.ext
  apply Array.toList_inj.1
  simp [bS]
theorem app_bS (s : ByteArray) (l : List UInt8) (d : UInt8) : s ++ bS l ++ ⟨#[d]⟩ = s ++ bS (l ++ [d]) := by
  apply ByteArray.ext
  apply Array.toList_inj.1
  simp [bS]
theorem app_bS2 (s : ByteArray) (l : List UInt8) (d d2 : UInt8) : s ++ bS l ++ ⟨#[d]⟩ ++ ⟨#[d2]⟩ = s ++ bS (l ++ [d, d2]) := by
  apply ByteArray.ext
  apply Array.toList_inj.1
  simp [bS]
theorem mod_last {k W : Nat} (hW : 1 ≤ W) : (k + 1) % W = 0 ↔ k % W = W - 1 := by
  have h1 := Nat.mod_lt k hW
  have h2 := Nat.div_add_mod k W
  have e : k + 1 = W * (k / W) + (k % W + 1) := by omega
  rw [e, Nat.mul_add_mod]
  by_cases h : k % W + 1 = W
  · rw [h, Nat.mod_self]; omega
  · rw [Nat.mod_eq_of_lt (by omega)]; omega
def dgs (W : Int) : ByteArray := ⟨(Lib.decDigits W.toNat).toArray⟩
def headB (W H : Int) : ByteArray := ⟨#[105, 109, 97, 103, 101, 32]⟩ ++ dgs W ++ ⟨#[32]⟩ ++ dgs H ++ ⟨#[10]⟩
/-- The lines of the first levels. -/
def bl (W : Nat) (zs : List Int) : Nat → List UInt8
  | 0 => []
  | k + 1 => bl W zs k ++ hexU (zs.getD k 0).toNat :: (if (k + 1) % W = 0 then [10] else [])
theorem bl_len (W : Nat) (zs : List Int) : ∀ k, (bl W zs k).length ≤ 2 * k
  | 0 => Nat.zero_le _
  | k + 1 => by
    have := bl_len W zs k
    unfold bl
    rw [List.length_append, List.length_cons]
    split <;> simp <;> omega
theorem dgs_size (W : Int) (h : W ≤ 64) : (dgs W).size ≤ 2 := by
  have key : (Lib.decDigits W.toNat).length ≤ 2 := by
    unfold Lib.decDigits
    split
    · simp
    · unfold Lib.decDigits
      rw [dif_pos (by omega)]
      simp
  show (Lib.decDigits W.toNat).toArray.size ≤ 2
  simpa using key
theorem dgs_any (W : Int) (h1 : 1 ≤ W) (h2 : W ≤ 64) (w : World) : Calls Tryd.prog 24 #[.int .i64 W] w fun e w' => e = .returned (.string (dgs W)) ∧ w = w' := by
  obtain ⟨n, rfl⟩ : ∃ n : Nat, W = n := ⟨W.toNat, by omega⟩
  refine (Tryd.strconv_Itoa_small n (by omega) w).mono ?_
  rintro e w' ⟨rfl, rfl⟩
  exact ⟨by unfold dgs; rw [Int.toNat_natCast], rfl⟩
def outB (W H : Int) (zs : List Int) : ByteArray := if imgE W H zs = 0 then headB W H ++ bS (bl W.toNat zs zs.length) else ⟨#[]⟩
theorem imgE_in {W H : Int} {zs : List Int} (h : imgE W H zs = 0) : (1 ≤ W ∧ W ≤ 64) ∧ (1 ≤ H ∧ H ≤ 64) ∧ (zs.length : Int) = W * H ∧ zs.any offL = false := by
  unfold imgE at h
  split at h
  · cases h
  · rename_i h0
    split at h
    · cases h
    · rename_i h1
      split at h
      · cases h
      · rename_i h2
        have a1 : sideB W = true := by cases hs : sideB W with | true => rfl | false => exact absurd (.inl hs) h0
        have a2 : sideB H = true := by cases hs : sideB H with | true => rfl | false => exact absurd (.inr hs) h0
        exact ⟨sideB_inv a1, sideB_inv a2, by simpa using h1, by simpa using h2⟩
theorem headB_size (W H : Int) (h : W ≤ 64) (h' : H ≤ 64) : (headB W H).size ≤ 20 := by
  have h1 := dgs_size W h
  have h2 := dgs_size H h'
  unfold headB
  simp only [ByteArray.size_append]
  show 6 + (dgs W).size + 1 + (dgs H).size + 1 ≤ 20
  omega
theorem box3i {w : World} {N : Nat} {t : TypeId} {x y z : Value} (e : w.heap[N]? = some (.cells #[x, y, z] t (0, 0))) : w.cell? ⟨N, 0, none⟩ = some x ∧ w.cell? ⟨N, 1, none⟩ = some y ∧ w.cell? ⟨N, 2, none⟩ = some z := by
  have h : ∀ j, w.cell? ⟨N, j, none⟩ = (#[x, y, z] : Array Value)[j]? := fun j => cell_of_row _ _ _ _ _ _ e
  exact ⟨h 0, h 1, h 2⟩
theorem IntsAt.morei {w : World} {B B' : Nat} {A : Option Addr} {zs : List Int} (h : IntsAt w B A zs) (hB : B ≤ B') : IntsAt w B' A zs := fun j z hz => by
  obtain ⟨a, ha, hl, hc⟩ := h j z hz
  exact ⟨a, ha, by omega, hc⟩
theorem level_in {zs : List Int} {k : Nat} {z : Int} (h : zs.any offL = false) (hz : zs[k]? = some z) : 0 ≤ z ∧ z ≤ 15 := by
  have := List.any_eq_false.1 h z (List.mem_of_getElem? hz)
  simp [offL] at this
  exact this
theorem bl_next {W : Nat} {zs : List Int} {k : Nat} {z : Int} (hz : zs[k]? = some z) : bl W zs (k + 1) = bl W zs k ++ hexU z.toNat :: (if (k + 1) % W = 0 then [10] else []) := by
  show bl W zs k ++ hexU (zs.getD k 0).toNat :: _ = _
  rw [List.getD_eq_getElem?_getD, hz]
  rfl
end Go.Proofs.YthlkibadiiiohaaDoor
