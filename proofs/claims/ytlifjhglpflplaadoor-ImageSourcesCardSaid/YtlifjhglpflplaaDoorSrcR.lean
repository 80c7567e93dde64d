/- DERIVED. What the closure of the reference's SourceSetOf makes: one more part. Condition: the library's variables are as the program's text lays them. -/
import Derived.Test.YtlifjhglpflplaaDoorSrcBox
set_option linter.unusedSimpArgs false
set_option linter.unusedVariables false
namespace Go.Proofs.YtlifjhglpflplaaDoor
open Go.RowKit
theorem strs_map (L : List ByteArray) : strs L = L.map strV := rfl
set_option maxRecDepth 100000 in
set_option maxHeartbeats 1600000 in
theorem add_any (a : ByteArray) (x : Int) (q q2 B : Nat) (l : List ByteArray) (v : Value) (w : World) (hv : Vars w) (ha : a.size ≤ 201) (h0 : 1 ≤ x) (h1 : x ≤ 10000) (hB : B ≤ w.heap.size) (hl : l.length ≤ 13) (hbx : Box B q l v w) (c2 : w.cell? ⟨q2, 0, none⟩ = some (.string a)) (hqq : q2 ≠ q) (hqv : v.ownBlock ≠ some q2) :
    Calls Tryd.prog 40 #[.int .i64 x, .pointer (some ⟨q, 0, none⟩), .pointer (some ⟨q2, 0, none⟩)] w fun e w' => e = .returned (.tuple #[]) ∧ ∃ v', Box B q (l ++ [srcS a x]) v' w' ∧ Wr q v v' w w' := by
  obtain ⟨i0, hi, hz0, hz1, hz2⟩ := info_parts strInfo
  have hql : q < w.heap.size := hbx.lt
  have hq2l : q2 < w.heap.size := World.block_lt_of_cell? w _ c2
  have hlo := hbx.lo
  have aq := hbx.ne
  have hfacts : ∀ w', Below w.heap.size w w' → w'.cell? ⟨q, 0, none⟩ = some v ∧ w'.frozen? ⟨q, 0, none⟩ = false ∧ w'.cell? ⟨q2, 0, none⟩ = some (.string a) := fun w' hb => ⟨(hbx.below hb).cell, (hbx.below hb).frozen, (hb.cell (p := ⟨q2, 0, none⟩) hq2l).trans c2⟩
  have hcall : ∀ wX, Below w.heap.size w wX → Calls Tryd.prog 41 #[.int .i64 x] wX fun e w' => e = .returned (.string (itoaS x)) ∧ Below w.heap.size w w' ∧ w'.cell? ⟨q, 0, none⟩ = some v ∧ w'.frozen? ⟨q, 0, none⟩ = false ∧ w'.cell? ⟨q2, 0, none⟩ = some (.string a) := fun wX hX =>
    (itoaS_any x wX (hv.below hX) (by omega) (by omega)).mono fun e w' h => ⟨h.1, hX.trans (h.2.mono hX.size), hfacts w' (hX.trans (h.2.mono hX.size))⟩
  obtain ⟨hc, hf, hc2⟩ := hfacts w (Below.refl _ _)
  have hg := itoaS_size x (by omega) (by omega)
  have hS : srcS a x = a ++ ⟨#[63, 119, 61]⟩ ++ itoaS x ++ ⟨#[32]⟩ ++ itoaS x ++ ⟨#[119]⟩ := rfl
  generalize itoaS x = g at hcall hg hS
  obtain ⟨r1, hr1⟩ : ∃ r1 : ByteArray, a ++ ⟨#[63, 119, 61]⟩ = r1 := ⟨_, rfl⟩
  have zr1 : r1.size = a.size + 3 := by rw [← hr1, ByteArray.size_append]; rfl
  have p1 : ∀ wx, (Op.stringOp .add a ⟨#[63, 119, 61]⟩).run Tryd.prog wx = .ok (.string r1) wx := fun wx => by rw [← hr1]; exact run_string_add_sum (P := Tryd.prog) (w := wx) a ⟨#[63, 119, 61]⟩ (by show _ + 3 ≤ _; omega)
  obtain ⟨r2, hr2⟩ : ∃ r2 : ByteArray, r1 ++ g = r2 := ⟨_, rfl⟩
  have zr2 : r2.size = a.size + 3 + g.size := by rw [← hr2, ByteArray.size_append]; first | rfl | (rw [zr1]; rfl) | (rw [zr1])
  have p2 : ∀ wx, (Op.stringOp .add r1 g).run Tryd.prog wx = .ok (.string r2) wx := fun wx => by rw [← hr2]; exact run_string_add_sum (P := Tryd.prog) (w := wx) r1 g (by first | (rw [zr1]; show _ + 1 ≤ _; omega) | (rw [zr1]; omega) | (show _ + 3 ≤ _; omega))
  obtain ⟨r3, hr3⟩ : ∃ r3 : ByteArray, r2 ++ ⟨#[32]⟩ = r3 := ⟨_, rfl⟩
  have zr3 : r3.size = a.size + 3 + g.size + 1 := by rw [← hr3, ByteArray.size_append]; first | rfl | (rw [zr2]; rfl) | (rw [zr2])
  have p3 : ∀ wx, (Op.stringOp .add r2 ⟨#[32]⟩).run Tryd.prog wx = .ok (.string r3) wx := fun wx => by rw [← hr3]; exact run_string_add_sum (P := Tryd.prog) (w := wx) r2 ⟨#[32]⟩ (by first | (rw [zr2]; show _ + 1 ≤ _; omega) | (rw [zr2]; omega) | (show _ + 3 ≤ _; omega))
  obtain ⟨r4, hr4⟩ : ∃ r4 : ByteArray, r3 ++ g = r4 := ⟨_, rfl⟩
  have zr4 : r4.size = a.size + 3 + g.size + 1 + g.size := by rw [← hr4, ByteArray.size_append]; first | rfl | (rw [zr3]; rfl) | (rw [zr3])
  have p4 : ∀ wx, (Op.stringOp .add r3 g).run Tryd.prog wx = .ok (.string r4) wx := fun wx => by rw [← hr4]; exact run_string_add_sum (P := Tryd.prog) (w := wx) r3 g (by first | (rw [zr3]; show _ + 1 ≤ _; omega) | (rw [zr3]; omega) | (show _ + 3 ≤ _; omega))
  obtain ⟨r5, hr5⟩ : ∃ r5 : ByteArray, r4 ++ ⟨#[119]⟩ = r5 := ⟨_, rfl⟩
  have zr5 : r5.size = a.size + 3 + g.size + 1 + g.size + 1 := by rw [← hr5, ByteArray.size_append]; first | rfl | (rw [zr4]; rfl) | (rw [zr4])
  have p5 : ∀ wx, (Op.stringOp .add r4 ⟨#[119]⟩).run Tryd.prog wx = .ok (.string r5) wx := fun wx => by rw [← hr5]; exact run_string_add_sum (P := Tryd.prog) (w := wx) r4 ⟨#[119]⟩ (by first | (rw [zr4]; show _ + 1 ≤ _; omega) | (rw [zr4]; omega) | (show _ + 3 ≤ _; omega))
  have hS5 : srcS a x = r5 := by rw [hS, hr1, hr2, hr3, hr4, hr5]
  have HS := Lib.hid hS5
  have HCL := Lib.hid hcall
  clear hr1 hr2 hr3 hr4 hr5 hS5 zr1 zr2 zr3 zr4 zr5
  have HFX := Lib.hid hfacts
  have HBX := Lib.hid hbx
  have HB0 := Lib.hid (Below.refl w.heap.size w)
  clear hcall hS hfacts hbx hv c2
  go_enter Tryd.func40, Tryd.ntmps40
  go_region_law (first
    | (go_simp; go_at_call 41; with_reducible refine Calls.mono (HCL.out _ (by first | exact hb5 | exact hb5.drew)) ?_
       rintro e w6 ⟨rfl, hb6, y0, y1, y2⟩
       have hal := hb6.alloc hb6.size (.cells #[.string r5] 9)
       obtain ⟨z0, z1, z2⟩ := HFX.out _ hal)
    | (go_simp; go_at_call 41; with_reducible refine Calls.mono (HCL.out _ (by first | exact HB0.out | exact HB0.out.drew)) ?_
       rintro e w5 ⟨rfl, hb5, x0, x1, x2⟩)
    | (refine step_append_lies _ (by rfl) _ _ _ (by rfl) B 9 i0 _ 1 16 Tryd.underlying42 hi hz0 hz1 hz2 rfl (by omega) v l.length (strs l) (by rfl) ((row_below HBX.out.row hb6).alloc _) ⟨w6.heap.size, 0, none⟩ 1 1 [.string r5] (by rfl) (by rfl) (World.news_of_block (heap_alloc_new w6 _)) (by simp [Value.oneCell']) (by omega) (by unfold maxLen; omega) (by omega) (by have := hb6.size; simp; omega) (w6.heap.size + 1) (by simp) ?_
       intro gg cap2 w7 hown7 hgrow7 hat7 hlt7
       have hs6 := hb6.size
       have hfar : ∀ b, b < w.heap.size → v.ownBlock ≠ some b → w7.heap[b]? = w.heap[b]? := fun b hb hne => (hgrow7.block b (by simp; omega) (Ne.symm hne)).trans ((Below.heap_alloc _ _ _ (by omega)).trans (hb6.block b hb))
       have t0 : w7.cell? ⟨q, 0, none⟩ = some v := (World.cell?_of_block (hfar q hql aq)).trans hc
       have t1 : w7.frozen? ⟨q, 0, none⟩ = false := (World.frozen?_of_block (hfar q hql aq)).trans hf
       have t2 : w7.cell? ⟨q2, 0, none⟩ = some (.string a) := (World.cell?_of_block (hfar q2 hq2l hqv)).trans hc2))
  all_goals (
    have hgq : gg ≠ q := by
      rcases hat7 with h | h
      · intro e; exact aq (by rw [h, e])
      · omega
    have hbx2 := box_after ((hfar q hql aq).trans HBX.out.blk) hown7 hgq hlo
    have hwr : Wr q v (.slice (some ⟨gg, 0, none⟩) (l.length + 1) cap2) w (w7.setCell ⟨q, 0, none⟩ (.slice (some ⟨gg, 0, none⟩) (l.length + 1) cap2)) := by
      have hgs := hgrow7.size
      simp only [World.size_alloc] at hgs
      refine ⟨hgrow7.os.trans hal.os, hgrow7.tape.trans hal.tape, hgrow7.output.trans hal.output, by simp; omega, fun b hb hq hv => (Below.heap_setCell _ _ _ _ (by exact hq)).trans (hfar b hb hv), fun b hb => ?_⟩
      have hbg : b = gg := by simpa [Value.ownBlock] using hb.symm
      rw [hbg]
      rcases hat7 with h | h
      · exact .inl h
      · exact .inr (by omega)
    go_end0
    exact ⟨rfl, _, by rw [HS.out]; exact hbx2, hwr⟩)
end Go.Proofs.YtlifjhglpflplaaDoor
