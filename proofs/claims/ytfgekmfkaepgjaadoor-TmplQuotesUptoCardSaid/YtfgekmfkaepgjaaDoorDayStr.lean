/- DERIVED. What the reference's digitsOf returns: the digits of a number, at least so many. Condition: the number has at most so many digits. -/
import Derived.Test.YtfgekmfkaepgjaaDoorDayDate
import Derived.WalkSpells
import Derived.WalkLawsBesides
namespace Go.Proofs.YtfgekmfkaepgjaaDoor
open Go.RowKit
/-- The last digit of a number. -/
def dgt (q : Nat) : UInt8 := UInt8.ofNat (48 + q % 10)
/-- The last i digits of a number. -/
def lo : Nat → Nat → List UInt8
  | 0, _ => []
  | i + 1, n => dgt (n / 10 ^ i) :: lo i n
theorem lo_len : ∀ i n, (lo i n).length = i
  | 0, _ => rfl
  | i + 1, n => by simp [lo, lo_len i n]
set_option maxHeartbeats 1000000 in
theorem lo_cons (i n q : Nat) (h : n / 10 ^ i = q) : (ByteArray.mk #[dgt q] ++ ByteArray.mk (lo i n).toArray) = ByteArray.mk (lo (i + 1) n).toArray := by
  subst h; rfl
theorem lo_size (i n : Nat) : (ByteArray.mk (lo i n).toArray).size = i := by simp [ByteArray.size, lo_len]
theorem conv_one (w : World) (q : Nat) : (convert 45 9 (.slice (some ⟨w.heap.size, 0, none⟩) 1 1)).run Tryd.prog (w.alloc (.cells #[.int .u8 (48 + (q : Int) % 10)] 5)) = .ok (.string ⟨#[dgt q]⟩) (w.alloc (.cells #[.int .u8 (48 + (q : Int) % 10)] 5)) := by
  have h := run_convert_bytes_arg (P := Tryd.prog) (w.alloc (.cells #[.int .u8 (48 + (q : Int) % 10)] 5)) 45 5 Tryd.underlying45 Tryd.underlying5 w.heap.size 0 1 1 [48 + (q : Int) % 10] rfl (fun i hi => by
    obtain rfl : i = 0 := by omega
    rw [cell_of_row _ _ _ _ _ _ (heap_alloc_new w _)]; rfl) 9 Tryd.underlying9
  rw [h]
  congr 2
theorem conv_zero (w : World) : (convert 45 9 (.slice (some ⟨w.heap.size, 0, none⟩) 1 1)).run Tryd.prog (w.alloc (.cells #[.int .u8 48] 5)) = .ok (.string ⟨#[dgt 0]⟩) (w.alloc (.cells #[.int .u8 48] 5)) := conv_one w 0
/-- A date as it is written. -/
def dayStr (y m k : Nat) : ByteArray := (((ByteArray.mk (lo 4 y).toArray ++ ByteArray.mk #[45]) ++ ByteArray.mk (lo 2 m).toArray) ++ ByteArray.mk #[45]) ++ ByteArray.mk (lo 2 k).toArray
/-- The date of a day, as natural numbers. -/
theorem date_nat (d : Int) (h0 : 0 ≤ d) (h1 : d ≤ 84005) : ∃ y m k : Nat, Cal.py (d - 11323) = y ∧ Cal.pm (d - 11323) = m ∧ Cal.pk (d - 11323) = k ∧ 1970 ≤ y ∧ y ≤ 2199 ∧ 1 ≤ m ∧ m ≤ 12 ∧ 1 ≤ k ∧ k ≤ 31 := by
  obtain ⟨⟨a1, a2, a3, a4, a5, a6⟩, _⟩ := date_of d h0 h1
  have := (Cal.dim_bd (Cal.py (d - 11323)) (Cal.pm (d - 11323))).2
  exact ⟨(Cal.py (d - 11323)).toNat, (Cal.pm (d - 11323)).toNat, (Cal.pk (d - 11323)).toNat, by omega, by omega, by omega, by omega, by omega, by omega, by omega, by omega, by omega⟩
end Go.Proofs.YtfgekmfkaepgjaaDoor
