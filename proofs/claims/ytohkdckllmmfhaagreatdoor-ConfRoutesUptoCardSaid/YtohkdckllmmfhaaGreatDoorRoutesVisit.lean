/- DERIVED. What the visit of conf's routes does: the routes of the value are put behind those that are there. Condition: at most 2^40 values; the library's table of powers of ten is as laid. -/
import Derived.Test.YtohkdckllmmfhaaGreatDoorRoutesBox
set_option linter.unusedSimpArgs false
set_option linter.unusedVariables false
namespace Go.Proofs.YtohkdckllmmfhaaGreatDoor
open Go.RowKit
/-- The closure itself. -/
def visF (q qv : Nat) : Value := .func (.func 67) #[] #[.pointer (some ⟨q, 0, none⟩), .pointer (some ⟨qv, 0, none⟩)]
def VisPost (B q : Nat) (l : List ByteArray) (v : Value) (w : World) (e : Ending) (w' : World) : Prop :=
  e = .returned (.tuple #[]) ∧ ∃ v', Box B q l v' w' ∧ Wr q v v' w w'
/-- What is known of a value whose routes are asked for. -/
structure Asked (B : Nat) (s : Sv) (r : ByteArray) (w : World) : Prop where
  ok : s.okB w B
  fine : Fine s.row 1099511627776
  size : r.size + 64 * s.items.nodes ≤ 1099511627776
theorem str_inf : (Tryz.prog.info? 9).map (fun i => (i.zero, i.size, i.bytes)) = some (some (Value.string ⟨#[]⟩), 1, 16) := by kernel_rfl
set_option maxRecDepth 100000 in
set_option maxHeartbeats 1600000 in
theorem visit_nil (s : Sv) (r : ByteArray) (B q qv : Nat) (l : List ByteArray) (v : Value) (w : World) (hB : B ≤ w.heap.size) (ha : Asked B s r w) (h0 : s.items.len = 0) (hl : l.length ≤ 1099511627776) (hbx : Box B q l v w) :
    Calls Tryz.prog 67 #[s.val, .string r, .pointer (some ⟨q, 0, none⟩), .pointer (some ⟨qv, 0, none⟩)] w (VisPost B q (l ++ [r]) v w) := by
  obtain ⟨i0, hi, hz0, hz1, hz2⟩ := info_parts str_inf
  obtain ⟨y0, y1, y2, y3, y4, y5⟩ := svCells (svNew w s)
  have hn : s.n1 = 0 := by rw [ha.ok.at_.len_eq]; exact h0
  have hw0 : Below w.heap.size w (w.alloc s.box) := (Below.refl _ _).alloc (Nat.le_refl _) _
  have hbx1 := hbx.below hw0
  have hc := hbx1.cell
  have hf := hbx1.frozen
  have hql : q < w.heap.size := hbx.lt
  have hlo := hbx.lo
  have aq := hbx.ne
  have av : v.ownBlock ≠ some w.heap.size := fun h => by have := (hbx.row.lt _ h).2; omega
  have HBX := Lib.hid hbx1
  have HW0 := Lib.hid hw0
  clear hbx hbx1 hw0
  unfold Sv.box at y0 y1 y2 y3 y4 y5 hc hf HBX HW0
  rw [hn] at y4 hc hf HBX HW0
  unfold Sv.val
  rw [hn]
  clear ha h0 hn
  generalize hwa : w.alloc (Obj.cells #[.int .i64 s.k, .bool s.bo, .int .i64 s.i, .string s.t, .slice s.A1 0 s.c1, .slice s.A2 s.n2 s.c2] 25) = wa at y0 y1 y2 y3 y4 y5 hc hf HBX HW0
  have hsa : wa.heap.size = w.heap.size + 1 := by rw [← hwa]; simp
  have hnw : ∀ t, ∀ j u, [Value.string r][j]? = some u → (wa.alloc (.cells #[.string r] t)).cell? ((⟨w.heap.size + 1, 0, none⟩ : Addr).add j) = some u := fun t => by have h := new_one wa r t; rw [hsa] at h; exact h
  clear y0 y1 y2 y3 y5
  go_enter Tryz.func67, Tryz.ntmps67
  go_upto_region 2 with (fail)
  have HWA := Lib.hid hwa
  have HNW := Lib.hid hnw
  clear hwa hnw
  go_upto_region 3 with (at_builtin; go_loud (refine wpList_append_lies _ rfl _ _ _ rfl B 9 i0 _ 1 16 Tryz.underlying23 hi hz0 hz1 hz2 rfl (by omega) v l.length (strs l) rfl (HBX.out.row.alloc _) ⟨w.heap.size + 1, 0, none⟩ 1 1 [.string r] rfl rfl (HNW.out 9) (by simp [Value.oneCell']) (by omega) (by unfold maxLen; omega) (by omega) (by simp; omega) (w.heap.size + 2) (by simp; omega) ?_; intro gg cap2 w2 hown' hgrow hat hlt2; have hc2 : w2.cell? ⟨q, 0, none⟩ = some v := (hgrow.cell_far ⟨q, 0, none⟩ (by simp; omega) (Ne.symm aq)).trans ((((Below.refl _ wa).alloc (Nat.le_refl _) _).cell (by show q < wa.heap.size; omega)).trans hc); have hf2 : w2.frozen? ⟨q, 0, none⟩ = false := (hgrow.frozen_far ⟨q, 0, none⟩ (by simp; omega) (Ne.symm aq)).trans ((((Below.refl _ wa).alloc (Nat.le_refl _) _).frozen (by show q < wa.heap.size; omega)).trans hf)))
  have hblk : w2.heap[q]? = some (.cells #[v] 23 (0, 0)) := (hgrow.block q (by simp; omega) (Ne.symm aq)).trans ((Below.heap_alloc wa _ q (by omega)).trans HBX.out.blk)
  have hgq : gg ≠ q := by
    rcases hat with h | h
    · intro e; exact aq (by rw [h, e])
    · omega
  have y4b : w2.cell? ⟨w.heap.size, 4, none⟩ = some (.slice s.A1 0 s.c1) := (hgrow.cell_far ⟨w.heap.size, 4, none⟩ (by simp; omega) (Ne.symm av)).trans ((((Below.refl _ wa).alloc (Nat.le_refl _) _).cell (by show w.heap.size < wa.heap.size; omega)).trans y4)
  have hbx2 := box_after hblk hown' hgq hlo
  have hgs := hgrow.size
  simp at hgs
  have hwr : Wr q v (.slice (some ⟨gg, 0, none⟩) (l.length + 1) cap2) w (w2.setCell ⟨q, 0, none⟩ (.slice (some ⟨gg, 0, none⟩) (l.length + 1) cap2)) := by
    have hb0 := HW0.out
    refine ⟨hgrow.os.trans hb0.os, hgrow.tape.trans hb0.tape, hgrow.output.trans hb0.output, ?_, fun b hb hq hv => ?_, fun b hb => ?_⟩
    · simp; omega
    · exact (Below.heap_setCell _ _ _ _ (by exact hq)).trans ((hgrow.block b (by simp; omega) (fun e => hv e.symm)).trans ((Below.heap_alloc wa _ b (by omega)).trans (hb0.block b hb)))
    · have hbg : b = gg := by simpa [Value.ownBlock] using hb.symm
      rw [hbg]
      rcases hat with h | h
      · exact .inl h
      · exact .inr (by omega)
  have HX := Lib.hid (And.intro hbx2 hwr)
  have hz4 : (w2.setCell ⟨q, 0, none⟩ (.slice (some ⟨gg, 0, none⟩) (l.length + 1) cap2)).cell? ⟨w.heap.size, 4, none⟩ = some (.slice s.A1 0 s.c1) := (World.cell?_of_block (Below.heap_setCell _ _ _ _ (by show w.heap.size ≠ q; omega))).trans y4b
  clear hbx2 hwr hgs hblk hgq y4b hown' hgrow hat hlt2 hc2 hf2 y4 hc hf HBX HW0 HWA
  generalize w2.setCell ⟨q, 0, none⟩ (.slice (some ⟨gg, 0, none⟩) (l.length + 1) cap2) = w3 at HX hz4 ⊢
  go_wp2_with fail
  refine wp_loop_rounds 1 ?_
  rw [rounds_succ]
  go_wp2_with fail
  go_end0
  exact ⟨rfl, _, HX.out.1, HX.out.2⟩
end Go.Proofs.YtohkdckllmmfhaaGreatDoor
