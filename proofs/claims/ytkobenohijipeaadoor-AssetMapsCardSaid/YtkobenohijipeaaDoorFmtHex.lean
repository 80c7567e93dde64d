/- DERIVED. strconv.FormatInt to base 16, of one digit. Condition: the library's table of math/bits holds 4 at its place 15. -/
import Derived.Test.YtkobenohijipeaaDoorSideA
import Derived.WalkSmall
import Derived.Laws.Rows
import Derived.Laws.IdiomStrings
namespace Go.Proofs.YtkobenohijipeaaDoor
open Go.RowKit
set_option linter.unusedVariables false
def hexS : ByteArray := ⟨#[48, 49, 50, 51, 52, 53, 54, 55, 56, 57, 97, 98, 99, 100, 101, 102]⟩
def hexU (k : Nat) : UInt8 := hexS.data.toList.getD k 48
def TzT (w : World) : Prop := 5 < w.heap.size ∧ w.cell? ⟨5, 15, none⟩ = some (.int .u8 4)
theorem TzT.below {w w' : World} (h : TzT w) (hb : Below w.heap.size w w') : TzT w' :=
  ⟨Nat.lt_of_lt_of_le h.1 hb.size, (hb.cell (p := ⟨5, 15, none⟩) h.1).trans h.2⟩
set_option maxRecDepth 100000 in
set_option maxHeartbeats 400000 in
theorem tz16 (w : World) (h : TzT w) : Calls Tryd.prog 116 #[.int .u64 16] w fun e w' => e = .returned (.int .i64 4) ∧ w = w' := by
  obtain ⟨h1, h2⟩ := h
  have hv : bits BinOp.and IntKind.u64 16 (IntKind.u64.wrap (-16)) = 16 := by kernel_rfl
  have hv2 : IntKind.u64.wrap (16 * 285870213051353865) = 4573923408821661840 := by kernel_rfl
  have hv3 : ((4573923408821661840 : Int) / 288230376151711744) = 15 := by decide
  go_enter Tryd.func116, Tryd.ntmps116
  go_wp2
  go_ret
  exact ⟨rfl, rfl⟩
theorem pow16 (w : World) : Calls Tryd.prog 115 #[.int .i64 16] w fun e w' => e = .returned (.bool true) ∧ w = w' := by
  have hv : bits BinOp.and IntKind.i64 16 15 = 0 := by kernel_rfl
  go_enter Tryd.func115, Tryd.ntmps115
  go_wp2
  go_ret
  exact ⟨rfl, rfl⟩
theorem dig_at : ∀ k (h : k < 16), (ByteArray.mk #[48, 49, 50, 51, 52, 53, 54, 55, 56, 57, 97, 98, 99, 100, 101, 102, 103, 104, 105, 106, 107, 108, 109, 110, 111, 112, 113, 114, 115, 116, 117, 118, 119, 120, 121, 122])[k]'(Nat.lt_trans h (by decide)) = hexU k := by decide
theorem zc_size : (Tryd.zeroCells122).size = 65 := by kernel_rfl
theorem conv1 (d : UInt8) (w : World) : (convert 64 9 (.slice (some ⟨w.heap.size, 64, none⟩) 1 1)).run Tryd.prog (w.alloc (.cells (Tryd.zeroCells122.setIfInBounds 64 (.int .u8 d.toNat)) 122)) = .ok (.string ⟨#[d]⟩) (w.alloc (.cells (Tryd.zeroCells122.setIfInBounds 64 (.int .u8 d.toNat)) 122)) :=
  run_convert_bytes_back (P := Tryd.prog) (w.alloc (.cells (Tryd.zeroCells122.setIfInBounds 64 (.int .u8 d.toNat)) 122)) 64 9 5 ⟨w.heap.size, 64, none⟩ 1 [d] Tryd.underlying64 Tryd.underlying5 Tryd.underlying9 (fun j hj => by
    have hj2 : j = 0 := by simp at hj; omega
    subst hj2
    rw [show (⟨w.heap.size, 64, none⟩ : Addr).add 0 = ⟨w.heap.size, 64, none⟩ by simp [Addr.add], cell_of_row _ _ _ _ _ _ (heap_alloc_new w _), Array.getElem?_setIfInBounds_self_of_lt (by rw [zc_size]; decide)]
    rfl)
set_option maxRecDepth 100000 in
set_option maxHeartbeats 400000 in
theorem bits16 (k : Nat) (w : World) (hk : k < 16) (h : TzT w) : Calls Tryd.prog 95 #[.slice none 0 0, .int .u64 k, .int .i64 16, .bool false, .bool false] w fun e w' => e = .returned (.tuple #[.slice none 0 0, .string ⟨#[hexU k]⟩]) ∧ Below w.heap.size w w' := by
  have H1 := Lib.hid (fun wX (hX : Below w.heap.size w wX) => tz16 wX (h.below hX))
  have H2 := Lib.hid (fun wX => pow16 wX)
  clear h
  go_enter Tryd.func95, Tryd.ntmps95
  go_wp2_with fail
  refine (H2.out _).mono ?_
  rintro e w' ⟨rfl, rfl⟩
  go_wp2_with fail
  refine (H1.out _ ((Below.refl _ w).alloc (Nat.le_refl _) _)).mono ?_
  rintro e w' ⟨rfl, rfl⟩
  go_wp2_with fail
  go_loop [1, 13] (fun u i => u = .int .u64 k ∧ i = .int .i64 65) (fun _ _ => 0)
  case atStart => exact ⟨rfl, rfl⟩
  case round =>
    obtain ⟨rfl, rfl⟩ := hrel
    have hk2 : (k : Int) < 16 := by omega
    have hdk := dig_at k hk
    obtain ⟨d, hdd⟩ : ∃ d, hexU k = d := ⟨_, rfl⟩
    rw [hdd] at hdk
    have hback := conv1 d w
    have HD := Lib.hid hdd
    clear hdd
    go_wp2_with fail
    go_ret2
    exact ⟨by rw [HD.out]; rfl, (Below.refl _ _).alloc (Nat.le_refl _) _⟩
set_option maxRecDepth 100000 in
set_option maxHeartbeats 400000 in
theorem fmt16 (k : Nat) (w : World) (hk : k < 16) (h : TzT w) : Calls Tryd.prog 44 #[.int .i64 k, .int .i64 16] w fun e w' => e = .returned (.string ⟨#[hexU k]⟩) ∧ Below w.heap.size w w' := by
  have H1 := Lib.hid (bits16 k w hk h)
  have HI : Calls Tryd.prog 69 #[.int .i64 k, .int .i64 16] w fun e w' => e = .returned (.string ⟨#[hexU k]⟩) ∧ Below w.heap.size w w' := by
    clear h
    go_enter Tryd.func69, Tryd.ntmps69
    go_wp2_with fail
    refine (H1.out).mono ?_
    rintro e w1 ⟨rfl, hb⟩
    go_wp2_with fail
    go_ret
    exact ⟨rfl, hb⟩
  have H2 := Lib.hid HI
  clear HI h
  go_enter Tryd.func44, Tryd.ntmps44
  go_wp2_with fail
  refine (H2.out).mono ?_
  rintro e w1 ⟨rfl, hb⟩
  go_wp2_with fail
  go_ret
  exact ⟨rfl, hb⟩
end Go.Proofs.YtkobenohijipeaaDoor
