/- DERIVED. strconv.FormatInt to base 32, of numbers below 32^4. Condition: the library's table of math/bits holds 5 at its place 31. -/
import Derived.Test.YtkobenohijipeaaDoorFmtHex
import Derived.Laws.Bits64b
namespace Go.Proofs.YtkobenohijipeaaDoor
open Go.RowKit
set_option linter.unusedVariables false
def dU (k : Nat) : UInt8 := [48, 49, 50, 51, 52, 53, 54, 55, 56, 57, 97, 98, 99, 100, 101, 102, 103, 104, 105, 106, 107, 108, 109, 110, 111, 112, 113, 114, 115, 116, 117, 118].getD k 48
/-- The digits to base 32, at most f + 1 of them. -/
def d32 : Nat → Nat → List UInt8
  | 0, u => [dU u]
  | f + 1, u => if u < 32 then [dU u] else d32 f (u / 32) ++ [dU (u % 32)]
theorem d32_small {f u : Nat} (h : u < 32) : d32 f u = [dU u] := by
  cases f with
  | zero => rfl
  | succ f => show (if u < 32 then [dU u] else _) = _; rw [if_pos h]
theorem d32_step {f u : Nat} (h : ¬ u < 32) : d32 (f + 1) u = d32 f (u / 32) ++ [dU (u % 32)] := by
  show (if u < 32 then [dU u] else _) = _
  rw [if_neg h]
def Tz32 (w : World) : Prop := 5 < w.heap.size ∧ w.cell? ⟨5, 31, none⟩ = some (.int .u8 5)
theorem Tz32.below {w w' : World} (h : Tz32 w) (hb : Below w.heap.size w w') : Tz32 w' :=
  ⟨Nat.lt_of_lt_of_le h.1 hb.size, (hb.cell (p := ⟨5, 31, none⟩) h.1).trans h.2⟩
set_option maxRecDepth 100000 in
set_option maxHeartbeats 400000 in
theorem tz32 (w : World) (h : Tz32 w) : Calls Tryd.prog 116 #[.int .u64 32] w fun e w' => e = .returned (.int .i64 5) ∧ w = w' := by
  obtain ⟨h1, h2⟩ := h
  have hv : bits BinOp.and IntKind.u64 32 (IntKind.u64.wrap (-32)) = 32 := by kernel_rfl
  have hv2 : IntKind.u64.wrap (32 * 285870213051353865) = 9147846817643323680 := by kernel_rfl
  have hv3 : ((9147846817643323680 : Int) / 288230376151711744) = 31 := by decide
  go_enter Tryd.func116, Tryd.ntmps116
  go_wp2
  go_ret
  exact ⟨rfl, rfl⟩
theorem pow32 (w : World) : Calls Tryd.prog 115 #[.int .i64 32] w fun e w' => e = .returned (.bool true) ∧ w = w' := by
  have hv : bits BinOp.and IntKind.i64 32 31 = 0 := by kernel_rfl
  go_enter Tryd.func115, Tryd.ntmps115
  go_wp2
  go_ret
  exact ⟨rfl, rfl⟩
theorem mask31 (a : Nat) (ha : a < 18446744073709551616) : bits .and .u64 (a : Int) 31 = ((a % 32 : Nat) : Int) := by
  have h := bits_and_u64_nat a 31 ha (by omega)
  have e : a &&& 31 = a % 32 := Nat.and_two_pow_sub_one_eq_mod a 5
  rw [e] at h
  exact h
theorem dig32_at : ∀ k (h : k < 32), (ByteArray.mk #[48, 49, 50, 51, 52, 53, 54, 55, 56, 57, 97, 98, 99, 100, 101, 102, 103, 104, 105, 106, 107, 108, 109, 110, 111, 112, 113, 114, 115, 116, 117, 118, 119, 120, 121, 122])[k]'(Nat.lt_trans h (by decide)) = dU k := by decide
/-- The block of 65 bytes with the digits at its end. -/
def Tail65 (C : Array Value) (ds : List UInt8) : Prop := C.size = 65 ∧ ∀ j (hj : j < ds.length), C[65 - ds.length + j]? = some (.int .u8 (ds[j].toNat : Int))
theorem Tail65.put {C : Array Value} {ds : List UInt8} (h : Tail65 C ds) (d : UInt8) (hl : ds.length < 65) : Tail65 (C.setIfInBounds (65 - ds.length - 1) (.int .u8 (d.toNat : Int))) (d :: ds) := by
  refine ⟨by simpa using h.1, fun j hj => ?_⟩
  rw [List.length_cons] at hj ⊢
  have e : 65 - (ds.length + 1) + j = 65 - ds.length - 1 + j := by omega
  rw [e]
  cases j with
  | zero => rw [Nat.add_zero, Array.getElem?_setIfInBounds_self_of_lt (by rw [h.1]; omega)]; rfl
  | succ j =>
    rw [Array.getElem?_setIfInBounds_ne (by omega)]
    have := h.2 j (by omega)
    rw [show 65 - ds.length - 1 + (j + 1) = 65 - ds.length + j by omega]
    simpa using this
theorem sz65 (W : World) : (sizeOf (Tryd.prog.elem 122)).run Tryd.prog W = .ok 1 W := by kernel_rfl
set_option maxRecDepth 100000 in
set_option maxHeartbeats 800000 in
theorem bits32 (k : Nat) (w : World) (hk : k < 1048576) (h : Tz32 w) : Calls Tryd.prog 95 #[.slice none 0 0, .int .u64 k, .int .i64 32, .bool false, .bool false] w fun e w' => e = .returned (.tuple #[.slice none 0 0, .string ⟨(d32 3 k).toArray⟩]) ∧ Below w.heap.size w w' := by
  have H1 := Lib.hid (fun wX (hX : Below w.heap.size w wX) => tz32 wX (h.below hX))
  have H2 := Lib.hid (fun wX => pow32 wX)
  clear h
  go_enter Tryd.func95, Tryd.ntmps95
  go_wp2_with fail
  refine (H2.out _).mono ?_
  rintro e w' ⟨rfl, rfl⟩
  go_wp2_with fail
  refine (H1.out _ ((Below.refl _ w).alloc (Nat.le_refl _) _)).mono ?_
  rintro e w' ⟨rfl, rfl⟩
  go_wp2_with fail
  go_loopw [1, 13] (fun u i wr => ∃ (v f : Nat) (ds : List UInt8) (C : Array Value), u = .int .u64 v ∧ i = .int .i64 (65 - ds.length : Nat) ∧ wr = w.alloc (.cells C 122) ∧ Tail65 C ds ∧ d32 3 k = d32 f v ++ ds ∧ f + ds.length = 3 ∧ v < 32 ^ (f + 1)) (fun u _ _ => (intOf u).toNat)
  case atStart => exact ⟨k, 3, [], _, rfl, rfl, rfl, ⟨zc_size, fun j hj => absurd hj (Nat.not_lt_zero _)⟩, by simp, rfl, hk⟩
  case round =>
    obtain ⟨v, f, ds, C, rfl, rfl, rfl, hT, hd, hfl, hv⟩ := hrel
    obtain ⟨m, hm⟩ : ∃ m, 65 - ds.length = m + 1 := ⟨64 - ds.length, by omega⟩
    have hCz := hT.1
    have hm65 : m < 65 := by omega
    have hCm : C[m]? = some (C[m]'(by omega)) := Array.getElem?_eq_getElem _
    by_cases h32 : v < 32
    · rw [d32_small h32] at hd
      have hdk := dig32_at v h32
      obtain ⟨d, hdd⟩ : ∃ d, dU v = d := ⟨_, rfl⟩
      rw [hdd] at hdk hd
      have hT2 := hT.put d (by omega)
      rw [show 65 - ds.length - 1 = m by omega] at hT2
      have hlen : (d :: ds).length = 65 - m := by simp; omega
      have hback := run_convert_bytes_back (P := Tryd.prog) (w.alloc (.cells (C.setIfInBounds m (.int .u8 (d.toNat : Int))) 122)) 64 9 5 ⟨w.heap.size, m, none⟩ (65 - m) (d :: ds) Tryd.underlying64 Tryd.underlying5 Tryd.underlying9 (fun j hj => by
        have e : (⟨w.heap.size, m, none⟩ : Addr).add j = ⟨w.heap.size, m + j, none⟩ := by unfold Addr.add; split <;> simp_all
        rw [e, cell_of_row _ _ _ _ _ _ (heap_alloc_new w _)]
        have := hT2.2 j hj
        rw [show 65 - (d :: ds).length + j = m + j by rw [hlen]; omega] at this
        exact this)
      rw [hlen] at hback
      have HD := Lib.hid hd
      rw [hm]
      have hv32 : (v : Int) < 32 := by omega
      have hal : Tryd.prog.arrayLen 122 = 65 := by kernel_rfl
      have hun : Tryd.prog.underlying 122 = some (.array (Tryd.prog.arrayLen 122) (Tryd.prog.elem 122)) := by kernel_rfl
      have hsl : ∀ W, (Instr.sliceAt 122 (.pointer (some ⟨w.heap.size, 0, none⟩)) (some (.int .i64 (m : Int))) none none).run Tryd.prog W = .ok (.slice (some ⟨w.heap.size, m, none⟩) (65 - m) (65 - m)) W := fun W => by
        rw [run_sliceAt_array_l W 122 ⟨w.heap.size, 0, none⟩ hun .i64 (m : Int) (by omega) (by rw [hal]; omega), hal, sz65 W]
        have e2 : ¬ (65 = m) := by omega
        have hm0 : ¬ m = 0 := by omega
        show Result.ok (slicedAt ⟨w.heap.size, 0, none⟩ (m : Int).toNat 65 65 1) W = _
        rw [Int.toNat_natCast]
        unfold slicedAt
        rw [if_neg e2, Nat.mul_one]
        unfold Addr.add
        simp [hm0]
      clear hd hT hT2 hdd hv hlen hal hun
      go_wp2_with fail
      go_ret2
      exact ⟨by rw [HD.out]; rfl, (Below.refl _ _).alloc (Nat.le_refl _) _⟩
    · have h32' : (32 : Int) ≤ (v : Int) := by omega
      obtain ⟨f', rfl⟩ : ∃ f', f = f' + 1 := ⟨f - 1, by
        cases f with
        | zero => exact absurd hv (by simpa using h32)
        | succ f => rfl⟩
      have hva : v < 18446744073709551616 := Nat.lt_of_lt_of_le hv (Nat.le_trans (Nat.pow_le_pow_right (n := 32) (by decide) (show f' + 1 + 1 ≤ 4 by omega)) (by decide))
      have hmk := mask31 v hva
      have hdk := dig32_at (v % 32) (Nat.mod_lt _ (by decide))
      rw [d32_step h32] at hd
      obtain ⟨d, hdd⟩ : ∃ d, dU (v % 32) = d := ⟨_, rfl⟩
      rw [hdd] at hdk hd
      have hT2 := hT.put d (by omega)
      rw [show 65 - ds.length - 1 = m by omega] at hT2
      have hmod : v % 32 < 32 := Nat.mod_lt _ (by decide)
      rw [hm]
      have HD := Lib.hid (And.intro hd (And.intro hT2 (And.intro hv hdd)))
      clear hd hT hT2 hdd hv
      go_wp2_with fail
      obtain ⟨hd, hT2, hv, hdd⟩ := HD.out
      refine ⟨⟨v / 32, f', d :: ds, _, by congr 1, ?_, rfl, hT2, by rw [hd, List.append_assoc]; rfl, by rw [List.length_cons]; omega, ?_⟩, ?_⟩
      · rw [List.length_cons, show 65 - (ds.length + 1) = m by omega]
      · rw [Nat.pow_succ] at hv
        exact Nat.div_lt_of_lt_mul (by rw [Nat.mul_comm]; exact hv)
      · show ((v : Int) / 32).toNat < (v : Int).toNat
        omega
set_option maxRecDepth 100000 in
set_option maxHeartbeats 400000 in
theorem fmt32 (k : Nat) (w : World) (hk : k < 1048576) (h : Tz32 w) : Calls Tryd.prog 44 #[.int .i64 k, .int .i64 32] w fun e w' => e = .returned (.string ⟨(d32 3 k).toArray⟩) ∧ Below w.heap.size w w' := by
  have H1 := Lib.hid (bits32 k w hk h)
  have HI : Calls Tryd.prog 69 #[.int .i64 k, .int .i64 32] w fun e w' => e = .returned (.string ⟨(d32 3 k).toArray⟩) ∧ Below w.heap.size w w' := by
    clear h
    go_enter Tryd.func69, Tryd.ntmps69
    go_wp2_with fail
    refine (H1.out).mono ?_
    rintro e w1 ⟨rfl, hb⟩
    go_wp2_with fail
    go_ret
    exact ⟨rfl, hb⟩
  have H2 := Lib.hid HI
  clear HI h
  go_enter Tryd.func44, Tryd.ntmps44
  go_wp2_with fail
  refine (H2.out).mono ?_
  rintro e w1 ⟨rfl, hb⟩
  go_wp2_with fail
  go_ret
  exact ⟨rfl, hb⟩
end Go.Proofs.YtkobenohijipeaaDoor
