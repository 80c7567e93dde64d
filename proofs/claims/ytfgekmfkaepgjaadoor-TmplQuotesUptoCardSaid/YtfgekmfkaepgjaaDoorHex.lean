/- DERIVED. A byte as two digits of base 16. No condition. -/
import Derived.Test.YtfgekmfkaepgjaaDoorShelf
import Derived.Lib.Hide
import Derived.WalkKit
import Derived.WalkSpells
import Derived.Lib.IndexBytes
import Derived.Below
import Derived.ProofKit
import Derived.RegionTactic
import Derived.Laws.IdiomStrings
namespace Go.Proofs.YtfgekmfkaepgjaaDoor
set_option linter.unusedVariables false
open Go.RowKit
/-- Digit number d of 16 digits. -/
def dg (ds : ByteArray) (d : Nat) : UInt8 := ds.data.toList.getD d 0
theorem dg_at (ds : ByteArray) (d : Nat) (h : d < ds.size) : ds[d] = dg ds d := by
  unfold dg
  rw [List.getD_eq_getElem?_getD, Lib.data_getElem? ds d h]
  rfl
theorem conv2 (x y : UInt8) (w : World) : (convert 45 9 (.slice (some ⟨w.heap.size, 0, none⟩) 2 2)).run Tryd.prog (w.alloc (.cells #[.int .u8 x.toNat, .int .u8 y.toNat] 5)).drew = .ok (.string ⟨#[x, y]⟩) (w.alloc (.cells #[.int .u8 x.toNat, .int .u8 y.toNat] 5)).drew :=
  run_convert_bytes_back (P := Tryd.prog) (w.alloc (.cells #[.int .u8 x.toNat, .int .u8 y.toNat] 5)).drew 45 9 5 ⟨w.heap.size, 0, none⟩ 2 [x, y] Tryd.underlying45 Tryd.underlying5 Tryd.underlying9 (fun j hj => by
    have hj2 : j = 0 ∨ j = 1 := by simp at hj; omega
    rcases hj2 with rfl | rfl <;> simp [Addr.add])
set_option maxRecDepth 100000 in
set_option maxHeartbeats 1000000 in
theorem hex_any (c : UInt8) (ds : ByteArray) (w : World) (hd : ds.size = 16) :
    Calls Tryd.prog 46 #[.int .u8 c.toNat, .string ds] w fun e w' => e = .returned (.string ⟨#[dg ds (c.toNat / 16), dg ds (c.toNat % 16)]⟩) ∧ Below w.heap.size w w' := by
  have hc := c.toNat_lt
  have h1 : c.toNat / 16 < ds.size := by omega
  have h2 : c.toNat % 16 < ds.size := by omega
  have e1 := dg_at ds _ h1
  have e2 := dg_at ds _ h2
  obtain ⟨a, ha⟩ : ∃ a : Nat, c.toNat / 16 = a := ⟨_, rfl⟩
  obtain ⟨b, hb⟩ : ∃ b : Nat, c.toNat % 16 = b := ⟨_, rfl⟩
  have hai : (c.toNat : Int) / 16 = (a : Int) := by omega
  have hbi : (c.toNat : Int) % 16 = (b : Int) := by omega
  simp only [ha] at h1 e1 ⊢
  simp only [hb] at h2 e2 ⊢
  have hc0 : (0 : Int) ≤ (c.toNat : Int) := by omega
  have hc1 : (c.toNat : Int) ≤ 255 := by omega
  go_enter Tryd.func46, Tryd.ntmps46
  go_wp2_with fail
  have hcv := conv2 (dg ds a) (dg ds b) w
  go_region
  all_goals
    go_wp2_with fail
    go_ret
    exact ⟨rfl, ((Below.refl _ _).alloc (Nat.le_refl _) _).drew⟩
end Go.Proofs.YtfgekmfkaepgjaaDoor
