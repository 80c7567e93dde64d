/- DERIVED. strconv.FormatInt to base 16, of one digit. Condition: the library's table of math/bits holds 4 at its place 15. -/
import Derived.Test.YthlkibadiiiohaaDoorSideA
import Derived.WalkSmall
import Derived.Laws.Rows
import Derived.Laws.IdiomStrings
namespace Go.Proofs.YthlkibadiiiohaaDoor
open Go.RowKit
set_option linter.unusedVariables false
def hexS : ByteArray := ⟨#[48, 49, 50, 51, 52, 53, 54, 55, 56, 57, 97, 98, 99, 100, 101, 102]⟩
def hexU (k : Nat) : UInt8 := hexS.data.toList.getD k 48
def TzT (w : World) : Prop := 7 < w.heap.size ∧ w.cell? ⟨7, 15, none⟩ = some (.int .u8 4)
theorem TzT.below {w w' : World} (h : TzT w) (hb : Below w.heap.size w w') : TzT w' :=
  ⟨Nat.lt_of_lt_of_le h.1 hb.size, (hb.cell (p := ⟨7, 15, none⟩) h.1).trans h.2⟩
set_option maxRecDepth 100000 in
set_option maxHeartbeats 400000 in
theorem tz16 (w : World) (h : TzT w) : Calls Tryd.prog 81 #[.int .u64 16] w fun e w' => e = .returned (.int .i64 4) ∧ w = w' := by
  obtain ⟨h1, h2⟩ := h
  have hv : bits BinOp.and IntKind.u64 16 (IntKind.u64.wrap (-16)) = 16 := by kernel_rfl
  have hv2 : IntKind.u64.wrap (16 * 285870213051353865) = 4573923408821661840 := by kernel_rfl
  have hv3 : ((4573923408821661840 : Int) / 288230376151711744) = 15 := by decide
  go_enter Tryd.func81, Tryd.ntmps81
  go_wp2
  go_ret
  exact ⟨rfl, rfl⟩
theorem pow16 (w : World) : Calls Tryd.prog 80 #[.int .i64 16] w fun e w' => e = .returned (.bool true) ∧ w = w' := by
  have hv : bits BinOp.and IntKind.i64 16 15 = 0 := by kernel_rfl
  go_enter Tryd.func80, Tryd.ntmps80
  go_wp2
  go_ret
  exact ⟨rfl, rfl⟩
theorem digH_at : ∀ k (h : k < 16), (ByteArray.mk #[48, 49, 50, 51, 52, 53, 54, 55, 56, 57, 97, 98, 99, 100, 101, 102, 103, 104, 105, 106, 107, 108, 109, 110, 111, 112, 113, 114, 115, 116, 117, 118, 119, 120, 121, 122])[k]'(Nat.lt_trans h (by decide)) = hexU k := by decide
theorem zc_size : (Tryd.zeroCells100).size = 65 := by kernel_rfl
theorem conv1 (d : UInt8) (w : World) : (convert 50 9 (.slice (some ⟨w.heap.size, 64, none⟩) 1 1)).run Tryd.prog (w.alloc (.cells (Tryd.zeroCells100.setIfInBounds 64 (.int .u8 d.toNat)) 100)) = .ok (.string ⟨#[d]⟩) (w.alloc (.cells (Tryd.zeroCells100.setIfInBounds 64 (.int .u8 d.toNat)) 100)) :=
  run_convert_bytes_back (P := Tryd.prog) (w.alloc (.cells (Tryd.zeroCells100.setIfInBounds 64 (.int .u8 d.toNat)) 100)) 50 9 5 ⟨w.heap.size, 64, none⟩ 1 [d] Tryd.underlying50 Tryd.underlying5 Tryd.underlying9 (fun j hj => by
    have hj2 : j = 0 := by simp at hj; omega
    subst hj2
    rw [show (⟨w.heap.size, 64, none⟩ : Addr).add 0 = ⟨w.heap.size, 64, none⟩ by simp [Addr.add], cell_of_row _ _ _ _ _ _ (heap_alloc_new w _), Array.getElem?_setIfInBounds_self_of_lt (by rw [zc_size]; decide)]
    rfl)
set_option maxRecDepth 100000 in
set_option maxHeartbeats 400000 in
theorem bits16 (k : Nat) (w : World) (hk : k < 16) (h : TzT w) : Calls Tryd.prog 64 #[.slice none 0 0, .int .u64 k, .int .i64 16, .bool false, .bool false] w fun e w' => e = .returned (.tuple #[.slice none 0 0, .string ⟨#[hexU k]⟩]) ∧ Below w.heap.size w w' := by
  have H1 := Lib.hid (fun wX (hX : Below w.heap.size w wX) => tz16 wX (h.below hX))
  have H2 := Lib.hid (fun wX => pow16 wX)
  clear h
  go_enter Tryd.func64, Tryd.ntmps64
  go_wp2_with fail
  refine (H2.out _).mono ?_
  rintro e w' ⟨rfl, rfl⟩
  go_wp2_with fail
  refine (H1.out _ ((Below.refl _ w).alloc (Nat.le_refl _) _)).mono ?_
  rintro e w' ⟨rfl, rfl⟩
  go_wp2_with fail
  go_loop [1, 13] (fun u i => u = .int .u64 k ∧ i = .int .i64 65) (fun _ _ => 0)
  case atStart => exact ⟨rfl, rfl⟩
  case round =>
    obtain ⟨rfl, rfl⟩ := hrel
    have hk2 : (k : Int) < 16 := by omega
    have hdk := digH_at k hk
    obtain ⟨d, hdd⟩ : ∃ d, hexU k = d := ⟨_, rfl⟩
    rw [hdd] at hdk
    have hback := conv1 d w
    have HD := Lib.hid hdd
    clear hdd
    go_wp2_with fail
    go_ret2
    exact ⟨by rw [HD.out]; rfl, (Below.refl _ _).alloc (Nat.le_refl _) _⟩
end Go.Proofs.YthlkibadiiiohaaDoor
