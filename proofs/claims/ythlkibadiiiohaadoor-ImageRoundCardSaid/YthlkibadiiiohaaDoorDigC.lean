/- DERIVED. asset.state.end, asset.Digest. No condition. -/
import Derived.Test.YthlkibadiiiohaaDoorDigB
namespace Go.Proofs.YthlkibadiiiohaaDoor
open Go.RowKit
set_option linter.unusedVariables false
set_option linter.unusedSimpArgs false
/-- A state. -/
structure St where
  a : Int
  b : Int
  c : Int
  d : Int
def St.ok (s : St) : Prop := (0 ≤ s.a ∧ s.a < 4294967296) ∧ (0 ≤ s.b ∧ s.b < 4294967296) ∧ (0 ≤ s.c ∧ s.c < 4294967296) ∧ (0 ≤ s.d ∧ s.d < 4294967296)
def tk (s : St) (x : Int) : St := ⟨tkQ s.b (tkP s.a x), tkR s.c (tkQ s.b (tkP s.a x)), tkT s.d (tkR s.c (tkQ s.b (tkP s.a x))) x, tkP s.a x⟩
def stO (s : St) : Obj := stC s.a s.b s.c s.d
theorem tk_ok (s : St) (x : Int) : (tk s x).ok := by
  unfold tk St.ok tkP tkQ tkR tkT
  refine ⟨⟨?_, ?_⟩, ⟨?_, ?_⟩, ⟨?_, ?_⟩, ⟨?_, ?_⟩⟩ <;> (try dsimp only) <;> omega
theorem tk_any (q : Nat) (s : St) (x : Int) (w : World) (hx : 0 ≤ x ∧ x < 256) (h : w.heap[q]? = some (stO s)) :
    Calls Tryd.prog 19 #[.pointer (some ⟨q, 0, none⟩), .int .u8 x] w fun e w' => e = .returned (.tuple #[]) ∧ Oth q w w' ∧ w'.heap[q]? = some (stO (tk s x)) :=
  take_any q s.a s.b s.c s.d x w hx h
/-- The states after these bytes. -/
def tks : St → List Int → St
  | s, [] => s
  | s, x :: r => tks (tk s x) r
theorem tks_snoc (s : St) (l : List Int) (x : Int) : tks s (l ++ [x]) = tk (tks s l) x := by
  induction l generalizing s with
  | nil => rfl
  | cons y r ih => exact ih (tk s y)
theorem tks_ok (s : St) (l : List Int) (h : s.ok) : (tks s l).ok := by
  induction l generalizing s with
  | nil => exact h
  | cons y r ih => exact ih _ (tk_ok s y)
def lenB (m k : Nat) : List Int := (List.range k).map fun i => ((m / 256 ^ i % 256 : Nat) : Int)
theorem lenB_succ (m k : Nat) : lenB m (k + 1) = lenB m k ++ [((m / 256 ^ k % 256 : Nat) : Int)] := by unfold lenB; rw [List.range_succ, List.map_append]; rfl
theorem zer_succ (k : Nat) : List.replicate (k + 1) (0 : Int) = List.replicate k 0 ++ [0] := List.replicate_succ'
def endS (s : St) (m : Nat) : St := tks (tks s (lenB m 4)) (List.replicate 16 0)
def stA (s : St) : Value := .agg #[.int .u32 s.a, .int .u32 s.b, .int .u32 s.c, .int .u32 s.d]
set_option maxRecDepth 100000 in
set_option maxHeartbeats 4000000 in
theorem end_any (s : St) (m : Nat) (hm : m ≤ 9223372036854775807) (w : World) : Calls Tryd.prog 20 #[stA s, .int .i64 (m : Int)] w fun e w' => e = .returned (stA (endS s m)) ∧ Below w.heap.size w w' := by
  obtain ⟨wA, hwA⟩ : ∃ wA, (w.alloc (stO s)).alloc (.cells #[.int .u32 0, .int .u32 0, .int .u32 0, .int .u32 0] 45) = wA := ⟨_, rfl⟩
  have hqA : wA.heap[w.heap.size]? = some (stO s) := by rw [← hwA]; exact (Below.heap_alloc _ _ _ (by simp)).trans (heap_alloc_new _ _)
  have hrA : wA.heap[w.heap.size + 1]? = some (stC 0 0 0 0) := by
    have h1 : (w.alloc (stO s)).heap.size = w.heap.size + 1 := by simp
    have h2 := heap_alloc_new (w.alloc (stO s)) (.cells #[.int .u32 0, .int .u32 0, .int .u32 0, .int .u32 0] 45)
    rw [h1] at h2
    rw [← hwA]
    exact h2
  have hbA : Below w.heap.size w wA := by rw [← hwA]; exact ((Below.refl _ _).alloc (Nat.le_refl _) _).alloc (by simp) _
  have HQ := Lib.hid hqA
  have HR := Lib.hid hrA
  have HB := Lib.hid hbA
  have HW := Lib.hid hwA
  have HT := Lib.hid (fun q s x w hx h => tk_any q s x w hx h)
  clear hqA hrA hbA
  unfold stA stO stC at *
  go_enter Tryd.func20, Tryd.ntmps20
  go_wp2_with fail
  go_loopw [1, 5] (fun l i wr => ∃ (k X : Nat) (y : Int), k ≤ 4 ∧ i = .int .i64 y ∧ y = (k : Int) ∧ l = .int .i64 (X : Int) ∧ m / 256 ^ k = X ∧ Oth w.heap.size wA wr ∧ wr.heap[w.heap.size]? = some (stO (tks s (lenB m k)))) (fun _ i _ => 4 - (intOf i).toNat)
  case atStart => exact ⟨0, m, 0, Nat.zero_le _, rfl, rfl, rfl, by simp, Oth.refl _ _, HQ.out⟩
  case round =>
    obtain ⟨k, X, y, hk, rfl, hy, rfl, hX, ho, hq⟩ := hrel
    have hXm : X ≤ m := by rw [← hX]; exact Nat.div_le_self _ _
    have HX := Lib.hid hX
    have HO := Lib.hid ho
    have HQ2 := Lib.hid hq
    clear hX ho hq
    by_cases hlt : k < 4
    · subst hy
      obtain ⟨Y, hY⟩ : ∃ Y, X % 256 = Y := ⟨_, rfl⟩
      obtain ⟨Z, hZ⟩ : ∃ Z, X / 256 = Z := ⟨_, rfl⟩
      have hc8 : IntKind.u8.wrap (X : Int) = (Y : Int) := by rw [IntKind.wrap_u8]; omega
      have hsh : (X : Int) / 256 = (Z : Int) := by omega
      have HC := Lib.hid (HT.out w.heap.size _ (Y : Int) wr (by omega) HQ2.out)
      have HN := Lib.hid (show lenB m (k + 1) = lenB m k ++ [(Y : Int)] by rw [lenB_succ, HX.out, hY])
      have HZ := Lib.hid (show m / 256 ^ (k + 1) = Z by rw [Nat.pow_succ, ← Nat.div_div_eq_div_mul, HX.out, hZ])
      clear hY hZ
      go_wp2_with fail
      refine HC.out.mono ?_
      rintro e w2 ⟨rfl, ho2, hq2⟩
      have HO2 := Lib.hid (HO.out.trans ho2)
      have HQ3 := Lib.hid hq2
      clear ho2 hq2
      go_wp2_with fail
      go_roundw
      case rel => exact ⟨k + 1, Z, _, by omega, rfl, by omega, by first | rfl | go_num, HZ.out, HO2.out, by rw [HN.out, tks_snoc]; exact HQ3.out⟩
      case measure => simp [intOf]; omega
    · obtain rfl : k = 4 := by omega
      obtain rfl : y = 4 := by omega
      clear hy
      obtain ⟨s1, hs1⟩ : ∃ s1, tks s (lenB m 4) = s1 := ⟨_, rfl⟩
      have HS1 := Lib.hid hs1
      rw [hs1] at HQ2
      clear hs1
      obtain ⟨wo, hwo⟩ : ∃ wo, wo = wr := ⟨_, rfl⟩
      subst hwo
      go_wp2_with fail
      go_loopw [13] (fun i wr => ∃ (k : Nat), k ≤ 16 ∧ i = .int .i64 k ∧ Oth w.heap.size wA wr ∧ wr.heap[w.heap.size]? = some (stO (tks s1 (List.replicate k 0)))) (fun i _ => 16 - (intOf i).toNat)
      case atStart => exact ⟨0, Nat.zero_le _, rfl, HO.out, HQ2.out⟩
      case round =>
        obtain ⟨k, hk, rfl, ho, hq⟩ := hrel
        have HO3 := Lib.hid ho
        have HQ3 := Lib.hid hq
        clear ho hq
        by_cases hlt : k < 16
        · have HC := Lib.hid (HT.out w.heap.size _ 0 wr (by omega) HQ3.out)
          go_wp2_with fail
          refine HC.out.mono ?_
          rintro e w2 ⟨rfl, ho2, hq2⟩
          have HO4 := Lib.hid (HO3.out.trans ho2)
          have HQ4 := Lib.hid hq2
          clear ho2 hq2
          go_wp2_with fail
          go_roundw
          case rel =>
            exact ⟨k + 1, by omega, by go_num, HO4.out, by rw [zer_succ, tks_snoc]; exact HQ4.out⟩
          case measure => simp [intOf]; omega
        · obtain rfl : k = 16 := by omega
          obtain ⟨s2, hs2⟩ : ∃ s2, tks s1 (List.replicate 16 0) = s2 := ⟨_, rfl⟩
          have HE := Lib.hid (show endS s m = s2 by unfold endS; rw [HS1.out, hs2])
          rw [hs2] at HQ3
          obtain ⟨⟨x0, x1, x2, x3⟩, -⟩ := st_cells HQ3.out
          obtain ⟨⟨y0, y1, y2, y3⟩, hf⟩ := st_cells ((HO3.out.block (w.heap.size + 1) (by omega)).trans HR.out)
          have f0 := hf 0
          have f1 := hf 1
          have f2 := hf 2
          have f3 := hf 3
          have HB3 := Lib.hid (HB.out.trans (HO3.out.below (Nat.le_refl _)))
          clear hs2 hf
          go_wp2_with fail
          have hcellR := st_set3 (x := s2.d) (st_set2 (x := s2.c) (st_set1 (x := s2.b) (st_set0 (x := s2.a) ((HO3.out.block (w.heap.size + 1) (by omega)).trans HR.out))))
          refine bodyPost_ret (results_cell_row rfl _ _ (w.heap.size + 1) _ _ _ _ rfl hcellR Tryd.underlying45 rfl (by kernel_rfl)) rfl ⟨?_, ?_⟩
          · rw [HE.out]
          · exact (((HB3.out.setCell (p := ⟨w.heap.size + 1, 0, none⟩) (by simp) _).setCell (p := ⟨w.heap.size + 1, 1, none⟩) (by simp) _).setCell (p := ⟨w.heap.size + 1, 2, none⟩) (by simp) _).setCell (p := ⟨w.heap.size + 1, 3, none⟩) (by simp) _
end Go.Proofs.YthlkibadiiiohaaDoor
