/- DERIVED. asset.Encode64. No condition. -/
import Derived.Test.YthlkibadiiiohaaDoorCodesPlain
import Derived.Test.YthlkibadiiiohaaDoorRows
import Derived.Test.YthlkibadiiiohaaDoorShelf
import Derived.WalkKit
import Derived.WalkSpells
import Derived.WalkLawsBesides
import Derived.WalkSmall
import Derived.Laws.Rows
import Derived.Laws.BitsLemmas
import Derived.Laws.IdiomStrings
import Derived.Deep.AppendLies
import Derived.OwnWalk
namespace Go.Proofs.YthlkibadiiiohaaDoor
open Go.RowKit
set_option linter.unusedVariables false
set_option linter.unusedSimpArgs false
def ubs (l : List UInt8) : List Value := l.map fun c => .int .u8 (c.toNat : Int)
theorem byteInfo : (Tryd.prog.info? 5).map (fun i => (i.zero, i.size, i.bytes)) = some (some (.int .u8 0), 1, 1) := by kernel_rfl
def encV (s : ByteArray) : Value := if 20000 < s.size then .tuple #[.string ⟨#[]⟩, .int .i64 4] else .tuple #[.string ⟨(encO s.data.toList).toArray⟩, .int .i64 0]
theorem take_snocB {s : ByteArray} {k : Nat} (hk : k < s.size) : s.data.toList.take (k + 1) = s.data.toList.take k ++ [s[k]] := by
  rw [List.take_succ_eq_append_getElem (by simpa using hk)]; rfl
theorem take_lenB {s : ByteArray} {k : Nat} (hk : k ≤ s.size) : (s.data.toList.take k).length = k := by
  have : s.data.toList.length = s.size := Array.length_toList
  rw [List.length_take]; omega
theorem wraps63 (n : Int) (h0 : 0 ≤ n) (h1 : n < 2 ^ 62) : IntKind.i64.wrap n = n := by rw [IntKind.wrap_i64]; omega
theorem or_join {V b X : Nat} (j : Nat) (hj : j ≤ 8) (hV : V < 1048576) (hb : b < 2 ^ j) (hX : V * 2 ^ j + b = X) : bits .or .i64 (((V * 2 ^ j : Nat) : Int)) (b : Int) = (X : Int) := by
  have hp : (2 : Nat) ^ j ≤ 2 ^ 8 := Nat.pow_le_pow_right (by decide) hj
  have hp2 : V * 2 ^ j ≤ 1048576 * 256 := Nat.mul_le_mul (by omega) hp
  have h := bits_join .i64 62 (by decide) wraps63 j ((V * 2 ^ j : Nat) : Int) (b : Int) (Int.natCast_nonneg _) (by
    have : (V * 2 ^ j) % 2 ^ j = 0 := Nat.mul_mod_left _ _
    exact_mod_cast this) (by have : (V * 2 ^ j) < 2 ^ 62 := by omega
                             exact_mod_cast this) (Int.natCast_nonneg _) (by exact_mod_cast hb) (by have : b < 2 ^ 62 := by omega
                                                                                                    exact_mod_cast this)
  rw [h, ← hX]
  exact (Int.natCast_add _ _).symm
theorem or8 {V b X : Nat} (hV : V < 1048576) (hb : b < 256) (hX : V * 256 + b = X) : bits .or .i64 ((V : Int) * 256) (b : Int) = (X : Int) := by
  have h := or_join (V := V) (b := b) (X := X) 8 (by decide) hV hb hX
  rw [← h]
  congr 1
theorem or6 {V b X : Nat} (hV : V < 1048576) (hb : b < 64) (hX : V * 64 + b = X) : bits .or .i64 ((V : Int) * 64) (b : Int) = (X : Int) := by
  have h := or_join (V := V) (b := b) (X := X) 6 (by decide) hV hb hX
  rw [← h]
  congr 1
theorem and_mod {X : Nat} (j : Nat) (hj : j ≤ 20) (hX : X < 4611686018427387904) : bits .and .i64 (X : Int) (2 ^ j - 1) = ((X % 2 ^ j : Nat) : Int) := by
  have h := bits_mask .i64 62 (by decide) wraps63 j (by omega) (X : Int) (Int.natCast_nonneg _) (by exact_mod_cast hX)
  rw [h]
  simp
theorem and3 {X : Nat} (hX : X < 1048576) : bits .and .i64 (X : Int) 3 = ((X % 4 : Nat) : Int) := and_mod (X := X) 2 (by decide) (by omega)
theorem and15 {X : Nat} (hX : X < 1048576) : bits .and .i64 (X : Int) 15 = ((X % 16 : Nat) : Int) := and_mod (X := X) 4 (by decide) (by omega)
theorem and63 {X : Nat} (hX : X < 1048576) : bits .and .i64 (X : Int) 63 = ((X % 64 : Nat) : Int) := and_mod (X := X) 6 (by decide) (by omega)
theorem and0 {X : Nat} (hX : X < 1048576) : bits .and .i64 (X : Int) 0 = 0 := by
  have h := and_mod (X := X) 0 (by decide) (by omega)
  rw [Nat.pow_zero, Nat.mod_one] at h
  exact h
theorem encL_nil : encL [] = [] := List.eq_nil_of_length_eq_zero (by rw [encL_len]; rfl)
theorem rst_nil : valB (rst 6 (bitsOf [])) = 0 := by
  have h := rst_lt []
  simp at h
  exact h
theorem ubs_app (a b : List UInt8) : ubs (a ++ b) = ubs a ++ ubs b := by unfold ubs; rw [List.map_append]
theorem bslice_of_own {w : World} {base : Nat} {e : TypeId} {size : Nat} {v : Value} {n : Nat} {xs : List Value} (h : w.ownsRow base e size v n xs) : ∃ A c, v = .slice A n c := by
  rcases h.2 with ⟨rfl, rfl⟩ | ⟨g, cap, cur, rfl, _⟩
  · exact ⟨_, _, rfl⟩
  · exact ⟨_, _, rfl⟩
theorem conv_own {w : World} {base n : Nat} {A : Option Addr} {c : Nat} {L : List UInt8} (h : w.ownsRow base 5 1 (.slice A n c) n (ubs L)) (hl : L.length = n) : (convert 50 9 (.slice A n c)).run Tryd.prog w = .ok (.string ⟨L.toArray⟩) w := by
  by_cases h0 : n = 0
  · have hL : L = [] := List.eq_nil_of_length_eq_zero (by omega)
    subst h0
    subst hL
    cases A with
    | none => exact run_convert_bytes_nil w 50 5 Tryd.underlying50 Tryd.underlying5 0 c 9 Tryd.underlying9
    | some a => exact run_convert_bytes_back (P := Tryd.prog) w 50 9 5 a c [] Tryd.underlying50 Tryd.underlying5 Tryd.underlying9 (fun j hj => absurd hj (by simp))
  · obtain ⟨g, cap, hv, hg1, hg2⟩ := h.form (by omega)
    cases hv
    have hback := run_convert_bytes_back (P := Tryd.prog) w 50 9 5 ⟨g, 0, none⟩ c L Tryd.underlying50 Tryd.underlying5 Tryd.underlying9 (fun j hj => by
      have e : (⟨g, 0, none⟩ : Addr).add j = ⟨g, j, none⟩ := by unfold Addr.add; split <;> simp_all
      rw [e, h.cellAt j (by omega)]
      unfold ubs
      rw [List.getElem?_map, List.getElem?_eq_getElem hj]
      rfl)
    rw [hl] at hback
    exact hback
end Go.Proofs.YthlkibadiiiohaaDoor
