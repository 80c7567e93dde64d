/- DERIVED. lang.formOf, Form. Condition: at most 2^40 - 1 tests. -/
import Derived.Test.YtlifjhglpflplaaTstHold
import Derived.RegionTactic
import Derived.BigRegion
import Derived.Deep.RegionHeld3
import Derived.Deep.Cut
namespace Go.Proofs.Ytlifjhglpflplaa
open Go.RowKit
set_option linter.unusedVariables false
set_option linter.unusedSimpArgs false
def formN (x : Nat) (d : Tst) : Int := if fst (hd x) d 0 < 0 then (d.len : Int) else fst (hd x) d 0
theorem fst_lt (p : TP) : ∀ (d : Tst) (i : Nat), fst p d i < 0 ∨ ∃ j : Nat, fst p d i = (j : Int) ∧ j < i + d.len
  | .nil, i => .inl (by unfold fst; omega)
  | .cons k md lo hi c r, i => by
    unfold fst
    split
    · exact .inr ⟨i, rfl, by simp [Tst.len]⟩
    · rcases fst_lt p r (i + 1) with h | ⟨j, h1, h2⟩
      · exact .inl h
      · exact .inr ⟨j, h1, by simp only [Tst.len]; omega⟩
theorem right_el {d : Tst} (h1 : d.anyT badF = false) (h2 : d.anyT badR = false) {i : Nat} {k md lo hi : Int} {c r : Tst} (he : d.drop i = .cons k md lo hi c r) : Right k md lo hi c := by
  have h1 := anyT_drop i h1
  have h2 := anyT_drop i h2
  rw [he] at h1 h2
  obtain ⟨a1, a2, _⟩ := anyT_cons h1
  obtain ⟨b1, b2, _⟩ := anyT_cons h2
  refine ⟨a1, ?_, a2, b2⟩
  unfold badR at b1
  cases hr : rangeB md lo hi with
  | true => rfl
  | false => rw [hr] at b1; cases b1
set_option maxRecDepth 100000 in
set_option maxHeartbeats 800000 in
theorem formEl_any (k md lo hi y : Int) (A : Option Addr) (n c p : Nat) (kd : Tst) (w : World) (h0 : -9223372036854775808 ≤ y) (h1 : y ≤ 9223372036854775807) (hbig : kd.nodes ≤ 1099511627776) (hok : Right k md lo hi kd) (ha : kd.At w w.heap.size A n) (hp : w.cell? ⟨p, 0, none⟩ = some (.int .i64 y)) :
    Calls Try.prog 87 #[eV k md lo hi A n c, .pointer (some ⟨p, 0, none⟩)] w fun e w' => e = .returned (.bool (hd y.natAbs k md lo hi kd)) ∧ Below w.heap.size w w' := by
  have hpl := World.block_lt_of_cell? w _ hp
  have hbx := heap_alloc_new w (.cells #[.int .i64 k, .int .i64 md, .int .i64 lo, .int .i64 hi, .slice A n c] 127)
  obtain ⟨W, hW⟩ : ∃ W, w.alloc (.cells #[.int .i64 k, .int .i64 md, .int .i64 lo, .int .i64 hi, .slice A n c] 127) = W := ⟨_, rfl⟩
  have hw0 : Below w.heap.size w W := by rw [← hW]; exact (Below.refl _ _).alloc (Nat.le_refl _) _
  have hp2 := (hw0.cell (p := ⟨p, 0, none⟩) hpl).trans hp
  rw [hW] at hbx
  obtain ⟨y0, y1, y2, y3, y4⟩ := box5 hbx
  have HS := Lib.hid (fun wX => withoutSign_any y wX h0 h1)
  have HC := Lib.hid (fun wX (hX : Below w.heap.size w wX) => holds_any y.natAbs (by omega) kd.nodes k md lo hi A n c kd wX (Nat.le_refl _) hbig hok ((ha.below hX).more hX.size))
  have H0 := Lib.hid hw0
  have HW := Lib.hid hW
  clear hw0 ha hp hok hW hbx
  unfold Holds at HC
  unfold eV at HC ⊢
  generalize y.natAbs = x at HS HC ⊢
  go_enter Try.func87, Try.ntmps87
  go_upto_region 1 with (fail)
  rw [HW.out]
  refine wp_region_still_tail 3 (by kernel_rfl) (by kernel_rfl) ?_
  simp only [List.take_succ_cons, List.take_zero, List.drop_succ_cons, List.drop_zero]
  change wpStill _ _ W.drew _ _ _
  repeat still_step
  still_call ((HS.out _).mono fun _ _ h => ⟨h.1, h.2.symm⟩)
  repeat still_step
  refine wpStill_nil ?_
  change wpList _ _ _ _ _ W.drew
  go_wp2_with fail
  refine (HC.out _ H0.out.drew).mono ?_
  rintro e w2 ⟨rfl, hb2⟩
  have HB := Lib.hid (H0.out.drew.trans (hb2.mono H0.out.drew.size))
  clear hb2
  go_wp2_with fail
  go_ret
  exact ⟨rfl, HB.out⟩
set_option maxRecDepth 100000 in
set_option maxHeartbeats 800000 in
theorem formOf_any (d : Tst) (A : Option Addr) (n c : Nat) (y : Int) (w : World) (h0 : -9223372036854775808 ≤ y) (h1 : y ≤ 9223372036854775807) (hbig : d.nodes ≤ 1099511627775) (hF : d.anyT badF = false) (hR : d.anyT badR = false) (ha : d.At w w.heap.size A n) :
    Calls Try.prog 42 #[.agg #[.slice A n c], .int .i64 y] w fun e w' => e = .returned (.int .i64 (formN y.natAbs d)) ∧ Below w.heap.size w w' := by
  have ea : ∀ args w, (callFunc 87 args).run Try.prog w = .ok (.enter 87 args) w := enters_of Try.func87 (by kernel_rfl) rfl
  have hnl := ha.len_eq
  have hn : n ≤ 1099511627776 := Nat.le_trans (by rw [hnl]; exact Tst.len_le d) (by omega)
  obtain ⟨W, hW⟩ : ∃ W, (w.alloc (.cells #[.slice A n c] 37)).alloc (.cells #[.int .i64 y] 3) = W := ⟨_, rfl⟩
  have hw1 : (w.alloc (.cells #[.slice A n c] 37)).heap.size = w.heap.size + 1 := by simp
  have hbW : Below w.heap.size w W := by rw [← hW]; exact (((Below.refl _ _).alloc (Nat.le_refl _) _).alloc (by simp) _)
  have hsW : W.heap.size = w.heap.size + 2 := by rw [← hW]; simp
  have hb0 : W.heap[w.heap.size]? = some (.cells #[.slice A n c] 37) := by rw [← hW]; exact (Below.heap_alloc _ _ _ (by omega)).trans (heap_alloc_new _ _)
  have hb1 : W.heap[w.heap.size + 1]? = some (.cells #[.int .i64 y] 3) := by rw [← hW, ← hw1]; exact heap_alloc_new _ _
  have hix := indexT_any d (hd y.natAbs) 87 #[.pointer (some ⟨w.heap.size + 1, 0, none⟩)] A n c W ea hn ((ha.below hbW).more hbW.size) (fun wX i hX k1 m1 l1 e1 A1 n1 c1 kd r he hak _ _ _ _ _ _ =>
    formEl_any k1 m1 l1 e1 y A1 n1 c1 (w.heap.size + 1) kd wX h0 h1 (by have h1 := Tst.nodes_drop' i d; rw [he] at h1; simp only [Tst.nodes] at h1; omega) (right_el hF hR he) hak ((hX.cell (p := ⟨w.heap.size + 1, 0, none⟩) (by show w.heap.size + 1 < W.heap.size; omega)).trans (box1 hb1)))
  have hle := fst_lt (hd y.natAbs) d 0
  have hfn : formN y.natAbs d = if fst (hd y.natAbs) d 0 < 0 then (n : Int) else fst (hd y.natAbs) d 0 := by unfold formN; rw [hnl]
  obtain ⟨r, hr⟩ : ∃ r, fst (hd y.natAbs) d 0 = r := ⟨_, rfl⟩
  rw [hr] at hix hle hfn
  have hrb : r < 0 ∨ 0 ≤ r ∧ r ≤ 1099511627776 := by
    rcases hle with h | ⟨j, h2, h3⟩
    · exact .inl h
    · have := Tst.len_le d
      exact .inr ⟨by omega, by omega⟩
  have keep : ∀ wX, Below W.heap.size W wX → wX.cell? ⟨w.heap.size, 0, none⟩ = some (.slice A n c) := fun wX hX => box1 ((hX.block w.heap.size (by omega)).trans hb0)
  have y0 := keep W (Below.refl _ _)
  have HI := Lib.hid hix
  have HFN := Lib.hid hfn
  have KP := Lib.hid keep
  have HBW := Lib.hid hbW
  have HW := Lib.hid hW
  have ht := hnl
  clear hix hfn keep hbW hW hb0 hb1 ha hF hR ea hle hr hnl ht
  go_enter Try.func42, Try.ntmps42
  go_upto_region 1 with (fail)
  rw [HW.out]
  go_wp2_with fail
  refine HI.out.mono ?_
  rintro e w2 ⟨rfl, hb2⟩
  have y2 := KP.out _ hb2
  have HB2 := Lib.hid (HBW.out.trans (hb2.mono HBW.out.size))
  clear hb2
  rcases hrb with hr | ⟨hr, hr2⟩
  · go_wp2_with fail
    go_ret
    exact ⟨by rw [HFN.out, if_pos hr]; rfl, HB2.out⟩
  · have hr3 : ¬ r < 0 := by omega
    go_wp2_with fail
    go_ret
    exact ⟨by rw [HFN.out, if_neg (by omega)]; rfl, HB2.out⟩
def formV (d : Tst) (y : Int) : Value := if ruleErr d = 0 then .tuple #[.int .i64 (formN y.natAbs d), .int .i64 0] else .tuple #[.int .i64 0, .int .i64 (ruleErr d)]
theorem ruleErr_ok {d : Tst} (h : ruleErr d = 0) : d.anyT badF = false ∧ d.anyT badR = false ∧ anyL d = false ∧ anyC d = false ∧ d.len ≤ 6 := by
  unfold ruleErr at h
  split at h
  · omega
  · split at h
    · omega
    · split at h
      · omega
      · split at h
        · omega
        · split at h
          · omega
          · next a1 a2 a3 a4 a5 => exact ⟨by simpa using a4, by simpa using a5, by simpa using a3, by simpa using a2, by omega⟩
set_option maxRecDepth 100000 in
set_option maxHeartbeats 800000 in
theorem form_any (d : Tst) (A : Option Addr) (n c : Nat) (y : Int) (w : World) (h0 : -9223372036854775808 ≤ y) (h1 : y ≤ 9223372036854775807) (hbig : d.nodes ≤ 1099511627775) (ha : d.At w w.heap.size A n) :
    Calls Try.prog 13 #[.agg #[.slice A n c], .int .i64 y] w fun e w' => e = .returned (formV d y) ∧ Below w.heap.size w w' := by
  have hw0 : Below w.heap.size w (w.alloc (.cells #[.slice A n c] 37)) := (Below.refl _ _).alloc (Nat.le_refl _) _
  have hbx := heap_alloc_new w (.cells #[.slice A n c] 37)
  have H1 := Lib.hid (checkRule_any d A n c _ hbig ((ha.below hw0).more hw0.size))
  have HA := Lib.hid ha
  have H0 := Lib.hid hw0
  have HBX := Lib.hid hbx
  clear ha hw0 hbx
  by_cases hE : ruleErr d = 0
  · have HO := Lib.hid (show formV d y = .tuple #[.int .i64 (formN y.natAbs d), .int .i64 0] by unfold formV; rw [if_pos hE])
    rw [hE] at H1
    obtain ⟨hF, hR, _⟩ := ruleErr_ok hE
    have H2 := Lib.hid (fun wX (hX : Below w.heap.size w wX) => formOf_any d A n c y wX h0 h1 hbig hF hR ((HA.out.below hX).more hX.size))
    clear hE hF hR
    generalize formN y.natAbs d = v at HO H2
    go_enter Try.func13, Try.ntmps13
    go_wp2_with fail
    refine H1.out.mono ?_
    rintro e w1 ⟨rfl, hb1⟩
    simp only [World.size_alloc] at hb1
    have y1 := box1 ((hb1.block w.heap.size (by omega)).trans HBX.out)
    have HB1 := Lib.hid (H0.out.trans (hb1.mono (by omega)))
    clear hb1
    go_wp2_with fail
    refine (H2.out _ HB1.out).mono ?_
    rintro e w2 ⟨rfl, hb2⟩
    have HB2 := Lib.hid (HB1.out.trans (hb2.mono HB1.out.size))
    clear hb2
    go_wp2_with fail
    go_ret2
    exact ⟨by rw [HO.out]; rfl, HB2.out⟩
  · have HO := Lib.hid (show formV d y = .tuple #[.int .i64 0, .int .i64 (ruleErr d)] by unfold formV; rw [if_neg hE])
    obtain ⟨er, her⟩ : ∃ er, ruleErr d = er := ⟨_, rfl⟩
    rw [her] at H1 HO hE
    have hne : (er != 0) = true := by simpa using hE
    clear her
    go_enter Try.func13, Try.ntmps13
    go_wp2_with fail
    refine H1.out.mono ?_
    rintro e w1 ⟨rfl, hb1⟩
    have HB1 := Lib.hid (H0.out.trans (hb1.mono H0.out.size))
    clear hb1
    go_wp2_with fail
    go_ret2
    exact ⟨by rw [HO.out]; rfl, HB1.out⟩
end Go.Proofs.Ytlifjhglpflplaa
