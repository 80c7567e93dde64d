/- DERIVED. What the reference's dateOf and DayOf return. Condition of dateOf: a year from 1 to 5000 and a month within 40000; of DayOf: none. -/
import Derived.Test.YtfgekmfkaepgjaaDoorDayParts
import Derived.Below
namespace Go.Proofs.YtfgekmfkaepgjaaDoor
open Go.RowKit
theorem bcell {W w1 : World} (hb : Below W.heap.size W w1) : (∀ b o, b < W.heap.size → w1.cell? ⟨b, o, none⟩ = W.cell? ⟨b, o, none⟩) ∧ (∀ b o, b < W.heap.size → w1.frozen? ⟨b, o, none⟩ = W.frozen? ⟨b, o, none⟩) :=
  ⟨fun b o h => hb.cell (p := ⟨b, o, none⟩) h, fun b o h => hb.frozen (p := ⟨b, o, none⟩) h⟩
/-- The number of a year and a month however great, and of a number. -/
def ofs (y m k : Int) : Int := Cal.rd (y + (m - 1) / 12) (m - 12 * ((m - 1) / 12)) k
theorem months_get (k : Nat) (h : k < 12) : ∃ x : Int, 28 ≤ x ∧ x ≤ 31 ∧ (#[.int .i64 31, .int .i64 28, .int .i64 31, .int .i64 30, .int .i64 31, .int .i64 30, .int .i64 31, .int .i64 31, .int .i64 30, .int .i64 31, .int .i64 30, .int .i64 31] : Array Value)[k]? = some (.int .i64 x) ∧ Cal.cum ((k : Int) + 1 + 1) = Cal.cum ((k : Int) + 1) + x := by
  match k, h with
  | 0, _ | 1, _ | 2, _ | 3, _ | 4, _ | 5, _ | 6, _ | 7, _ | 8, _ | 9, _ | 10, _ | 11, _ => exact ⟨_, by decide, by decide, rfl, by decide⟩
theorem cum_bd (m : Int) : 0 ≤ Cal.cum m ∧ Cal.cum m ≤ 365 := by unfold Cal.cum; repeat' split <;> omega
/-- A date that there is from 1970 to 2199. -/
def okDay (y m k : Int) : Prop := 1970 ≤ y ∧ y ≤ 2199 ∧ 1 ≤ m ∧ m ≤ 12 ∧ 1 ≤ k ∧ k ≤ Cal.dim y m
def two (d e : Int) : Ending := .returned (.tuple #[.int .i64 d, .int .i64 e])
theorem two_of {a b c : Int} (h : a = c) : Ending.returned (.tuple #[.int .i64 a, .int .i64 b]) = two c b := by subst h; rfl
theorem ofs_in (y m k : Int) (h1 : 1 ≤ m) (h2 : m ≤ 12) : ofs y m k = Cal.rd y m k := by
  unfold ofs
  rw [show (m - 1) / 12 = 0 by omega]
  simp
theorem rd_bd (y m k : Int) (h0 : 1970 ≤ y) (h1 : y ≤ 2199) (h4 : 1 ≤ k) (h5 : k ≤ 31) : -20000 ≤ Cal.rd y m k ∧ Cal.rd y m k ≤ 100000 := by
  have a := Cal.cumL_bd y m
  unfold Cal.rd Cal.yearDay
  omega
theorem parts_int (y m k : Int) (h0 : 1970 ≤ y) (h1 : y ≤ 2199) (h2 : 1 ≤ m) (h3 : m ≤ 12) (h4 : 1 ≤ k) (h5 : k ≤ 31) :
    (k ≤ Cal.dim y m → Cal.py (Cal.rd y m k) = y ∧ Cal.pm (Cal.rd y m k) = m ∧ Cal.pk (Cal.rd y m k) = k) ∧ (Cal.dim y m < k → Cal.pk (Cal.rd y m k) ≠ k) := by
  have h := Cal.parts_of y.toNat m.toNat k.toNat (by omega) (by omega) (by omega) (by omega) (by omega) (by omega)
  rw [Int.toNat_of_nonneg (by omega), Int.toNat_of_nonneg (by omega), Int.toNat_of_nonneg (by omega)] at h
  exact h
end Go.Proofs.YtfgekmfkaepgjaaDoor
