/- DERIVED. What the reference's Alike returns for two bundles of the same body, paths and ends: true. No condition but rows of the call's own. -/
import Derived.Test.YtjghindfnjfdcaaGreatDoorBunH
import Derived.BigQuiet
import Derived.Deep.QuietTactic
namespace Go.Proofs.YtjghindfnjfdcaaGreatDoor
open Go.RowKit
set_option linter.unusedVariables false
theorem eqS_same {B1 B2 m : Nat} {v1 v2 : Value} {l : List ByteArray} (w : World) (hm : l.length = m) (hn : m ≤ 1099511627776) (h1 : w.ownsRow B1 9 1 v1 m (svs l)) (h2 : w.ownsRow B2 9 1 v2 m (svs l)) :
    Calls Tryz.prog 20 #[v1, v2] w fun e w' => e = .returned (.bool true) ∧ ∃ q, w' = w.drewN q := by
  obtain ⟨A1, c1, rfl, _, _, r1⟩ := own_form_s h1 hm
  obtain ⟨A2, c2, rfl, _, _, r2⟩ := own_form_s h2 hm
  rcases r1 with rfl | ⟨b1, o1, rfl, _, k1⟩
  · obtain rfl : m = 0 := by rw [← hm]; rfl
    refine (Tryz.slices_Equal_string_empty A1 A2 c1 0 c2 w (by omega)).mono ?_
    rintro e w' ⟨rfl, rfl⟩
    exact ⟨by simp, 0, rfl⟩
  · rcases r2 with rfl | ⟨b2, o2, rfl, _, k2⟩
    · obtain rfl : m = 0 := by rw [← hm]; rfl
      refine (Tryz.slices_Equal_string_empty _ A2 c1 0 c2 w (by omega)).mono ?_
      rintro e w' ⟨rfl, rfl⟩
      exact ⟨by simp, 0, rfl⟩
    · refine (Tryz.slices_Equal_string b1 o1 m c1 b2 o2 m c2 l l w (by omega) (by omega) (by omega) (by omega) (fun j hj => by rw [k1 j l[j] (List.getElem?_eq_getElem hj), List.getD_eq_getElem?_getD, List.getElem?_eq_getElem hj]; rfl) (fun j hj => by rw [k2 j l[j] (List.getElem?_eq_getElem hj), List.getD_eq_getElem?_getD, List.getElem?_eq_getElem hj]; rfl)).mono ?_
      rintro e w' ⟨rfl, q, rfl⟩
      exact ⟨by simp, q, rfl⟩
theorem eqI_same {B1 B2 m : Nat} {v1 v2 : Value} {l : List Int} (w : World) (hm : l.length = m) (hn : m ≤ 1099511627776) (h1 : w.ownsRow B1 3 1 v1 m (ivs l)) (h2 : w.ownsRow B2 3 1 v2 m (ivs l)) :
    Calls Tryz.prog 29 #[v1, v2] w fun e w' => e = .returned (.bool true) ∧ ∃ q, w' = w.drewN q := by
  obtain ⟨A1, c1, rfl⟩ := own_form_i h1
  obtain ⟨A2, c2, rfl⟩ := own_form_i h2
  rcases Nat.eq_zero_or_pos m with h0 | h0
  · subst h0
    refine (Tryz.slices_Equal_int_empty A1 A2 c1 0 c2 w (by omega)).mono ?_
    rintro e w' ⟨rfl, hw⟩
    exact ⟨by simp, 0, hw⟩
  · have cells : ∀ {B : Nat} {A : Option Addr} {c : Nat}, w.ownsRow B 3 1 (.slice A m c) m (ivs l) → ∃ g, A = some ⟨g, 0, none⟩ ∧ ∀ j, j < l.length → w.cell? ⟨g, 0 + j, none⟩ = some (.int .i64 (l.getD j 0)) := by
      intro B A c h
      rcases h.2 with ⟨hv, hz⟩ | ⟨g, cap, cur, hv, _⟩
      · omega
      · cases hv
        refine ⟨g, rfl, fun j hj => ?_⟩
        rw [Nat.zero_add, h.cellAt j (by omega)]
        unfold ivs
        rw [List.getElem?_map, List.getElem?_eq_getElem hj, List.getD_eq_getElem?_getD, List.getElem?_eq_getElem hj]
        rfl
    obtain ⟨g1, rfl, k1⟩ := cells h1
    obtain ⟨g2, rfl, k2⟩ := cells h2
    refine (Tryz.slices_Equal_int g1 0 m c1 g2 0 m c2 l l w (by omega) (by omega) (by omega) (by omega) k1 k2).mono ?_
    rintro e w' ⟨rfl, q, rfl⟩
    exact ⟨by simp, q, rfl⟩
theorem tb0 (v : Value) (w : World) : (Instr.typeAssert (.iface 26 v) 20 49 true).run Tryz.prog w = .ok (.tuple #[.slice none 0 0, .bool false]) w := by kernel_rfl
theorem tb1 (v : Value) (w : World) : (Instr.typeAssert (.iface 26 v) 20 55 true).run Tryz.prog w = .ok (.tuple #[.slice none 0 0, .bool false]) w := by kernel_rfl
theorem tb2 (v : Value) (w : World) : (Instr.typeAssert (.iface 26 v) 20 23 true).run Tryz.prog w = .ok (.tuple #[.slice none 0 0, .bool false]) w := by kernel_rfl
noncomputable def zf3 (w : World) : Value := match (Instr.typeAssert (.iface 26 (.bool false)) 20 68 true).run Tryz.prog w with | .ok (.tuple a) _ => a[0]?.getD (.bool false) | _ => .bool false
theorem tb3 (v : Value) (w : World) : (Instr.typeAssert (.iface 26 v) 20 68 true).run Tryz.prog w = .ok (.tuple #[zf3 w, .bool false]) w := by kernel_rfl
noncomputable def zf4 (w : World) : Value := match (Instr.typeAssert (.iface 26 (.bool false)) 20 71 true).run Tryz.prog w with | .ok (.tuple a) _ => a[0]?.getD (.bool false) | _ => .bool false
theorem tb4 (v : Value) (w : World) : (Instr.typeAssert (.iface 26 v) 20 71 true).run Tryz.prog w = .ok (.tuple #[zf4 w, .bool false]) w := by kernel_rfl
noncomputable def zf5 (w : World) : Value := match (Instr.typeAssert (.iface 26 (.bool false)) 20 65 true).run Tryz.prog w with | .ok (.tuple a) _ => a[0]?.getD (.bool false) | _ => .bool false
theorem tb5 (v : Value) (w : World) : (Instr.typeAssert (.iface 26 v) 20 65 true).run Tryz.prog w = .ok (.tuple #[zf5 w, .bool false]) w := by kernel_rfl
theorem tb6 (v : Value) (w : World) : (Instr.typeAssert (.iface 26 v) 20 72 true).run Tryz.prog w = .ok (.tuple #[.slice none 0 0, .bool false]) w := by kernel_rfl
theorem tb7 (v : Value) (w : World) : (Instr.typeAssert (.iface 26 v) 20 73 true).run Tryz.prog w = .ok (.tuple #[.slice none 0 0, .bool false]) w := by kernel_rfl
noncomputable def zf8 (w : World) : Value := match (Instr.typeAssert (.iface 26 (.bool false)) 20 76 true).run Tryz.prog w with | .ok (.tuple a) _ => a[0]?.getD (.bool false) | _ => .bool false
theorem tb8 (v : Value) (w : World) : (Instr.typeAssert (.iface 26 v) 20 76 true).run Tryz.prog w = .ok (.tuple #[zf8 w, .bool false]) w := by kernel_rfl
theorem tb9 (v : Value) (w : World) : (Instr.typeAssert (.iface 26 v) 20 77 true).run Tryz.prog w = .ok (.tuple #[.slice none 0 0, .bool false]) w := by kernel_rfl
theorem tb10 (v : Value) (w : World) : (Instr.typeAssert (.iface 26 v) 20 78 true).run Tryz.prog w = .ok (.tuple #[.slice none 0 0, .bool false]) w := by kernel_rfl
theorem tb11 (v : Value) (w : World) : (Instr.typeAssert (.iface 26 v) 20 79 true).run Tryz.prog w = .ok (.tuple #[.slice none 0 0, .bool false]) w := by kernel_rfl
noncomputable def zf12 (w : World) : Value := match (Instr.typeAssert (.iface 26 (.bool false)) 20 82 true).run Tryz.prog w with | .ok (.tuple a) _ => a[0]?.getD (.bool false) | _ => .bool false
theorem tb12 (v : Value) (w : World) : (Instr.typeAssert (.iface 26 v) 20 82 true).run Tryz.prog w = .ok (.tuple #[zf12 w, .bool false]) w := by kernel_rfl
theorem tb13 (v : Value) (w : World) : (Instr.typeAssert (.iface 26 v) 20 83 true).run Tryz.prog w = .ok (.tuple #[.slice none 0 0, .bool false]) w := by kernel_rfl
theorem tb14 (v : Value) (w : World) : (Instr.typeAssert (.iface 26 v) 20 84 true).run Tryz.prog w = .ok (.tuple #[.slice none 0 0, .bool false]) w := by kernel_rfl
theorem tb15 (v : Value) (w : World) : (Instr.typeAssert (.iface 26 v) 20 85 true).run Tryz.prog w = .ok (.tuple #[.slice none 0 0, .bool false]) w := by kernel_rfl
theorem tb16 (v : Value) (w : World) : (Instr.typeAssert (.iface 26 v) 20 86 true).run Tryz.prog w = .ok (.tuple #[.slice none 0 0, .bool false]) w := by kernel_rfl
noncomputable def zf17 (w : World) : Value := match (Instr.typeAssert (.iface 26 (.bool false)) 20 94 true).run Tryz.prog w with | .ok (.tuple a) _ => a[0]?.getD (.bool false) | _ => .bool false
theorem tb17 (v : Value) (w : World) : (Instr.typeAssert (.iface 26 v) 20 94 true).run Tryz.prog w = .ok (.tuple #[zf17 w, .bool false]) w := by kernel_rfl
theorem tb18 (v : Value) (w : World) : (Instr.typeAssert (.iface 26 v) 20 100 true).run Tryz.prog w = .ok (.tuple #[.slice none 0 0, .bool false]) w := by kernel_rfl
theorem tbOk (v : Value) (w : World) : (Instr.typeAssert (.iface 26 v) 20 26 true).run Tryz.prog w = .ok (.tuple #[v, .bool true]) w := by kernel_rfl
set_option maxRecDepth 100000 in
set_option maxHeartbeats 6400000 in
theorem alike_bun {B1 B2 : Nat} {P1 P2 E1 E2 : Value} (s : ByteArray) (ps : List ByteArray) (zs : List Int) (w : World) (hp : ps.length ≤ 1048576) (hz : zs.length ≤ 1048576) (hp1 : w.ownsRow B1 9 1 P1 ps.length (svs ps)) (hp2 : w.ownsRow B2 9 1 P2 ps.length (svs ps)) (he1 : w.ownsRow B1 3 1 E1 zs.length (ivs zs)) (he2 : w.ownsRow B2 3 1 E2 zs.length (ivs zs)) :
    Calls Tryz.prog 6 #[.iface 26 (.agg #[.string s, P1, E1]), .iface 26 (.agg #[.string s, P2, E2])] w fun e w' => e = .returned (.bool true) ∧ Below w.heap.size w w' := by
  have a0 := tb0
  have a1 := tb1
  have a2 := tb2
  have a3 := tb3
  have a4 := tb4
  have a5 := tb5
  have a6 := tb6
  have a7 := tb7
  have a8 := tb8
  have a9 := tb9
  have a10 := tb10
  have a11 := tb11
  have a12 := tb12
  have a13 := tb13
  have a14 := tb14
  have a15 := tb15
  have a16 := tb16
  have a17 := tb17
  have a18 := tb18
  have aok := tbOk
  have HQ0 := Lib.hid (heap_alloc_new w (.cells #[.string s, P1, E1] 26))
  have q1 : (s.toList == s.toList) = true := by simp
  have HS := Lib.hid (fun wX (hX : Below w.heap.size w wX) => eqS_same wX rfl (by omega) (own_keep hp1 fun g c hg => hX.block g (Array.getElem?_eq_some_iff.1 hg).1) (own_keep hp2 fun g c hg => hX.block g (Array.getElem?_eq_some_iff.1 hg).1))
  have HI := Lib.hid (fun wX (hX : Below w.heap.size w wX) => eqI_same wX rfl (by omega) (own_keep he1 fun g c hg => hX.block g (Array.getElem?_eq_some_iff.1 hg).1) (own_keep he2 fun g c hg => hX.block g (Array.getElem?_eq_some_iff.1 hg).1))
  obtain ⟨A1, c1, rfl, _, _, _⟩ := own_form_s hp1 rfl
  obtain ⟨A2, c2, rfl, _, _, _⟩ := own_form_s hp2 rfl
  obtain ⟨A3, c3, rfl⟩ := own_form_i he1
  obtain ⟨A4, c4, rfl⟩ := own_form_i he2
  have HB0 := Lib.hid (Below.refl w.heap.size w)
  clear hp1 hp2 he1 he2 hp hz
  go_enter Tryz.func6, Tryz.ntmps6
  go_wp2_with fail
  have hbA := (HB0.out.alloc (Nat.le_refl _) (.cells #[.string s, .slice A1 ps.length c1, .slice A3 zs.length c3] 26)).alloc (by simp) (.cells #[.string s, .slice A2 ps.length c2, .slice A4 zs.length c4] 26)
  have hk1 : ((w.alloc (.cells #[.string s, .slice A1 ps.length c1, .slice A3 zs.length c3] 26)).alloc (.cells #[.string s, .slice A2 ps.length c2, .slice A4 zs.length c4] 26)).heap[w.heap.size]? = some (.cells #[.string s, .slice A1 ps.length c1, .slice A3 zs.length c3] 26 (0, 0)) := (Below.heap_alloc _ _ _ (by simp)).trans (heap_alloc_new _ _)
  have hk2 : ((w.alloc (.cells #[.string s, .slice A1 ps.length c1, .slice A3 zs.length c3] 26)).alloc (.cells #[.string s, .slice A2 ps.length c2, .slice A4 zs.length c4] 26)).heap[w.heap.size + 1]? = some (.cells #[.string s, .slice A2 ps.length c2, .slice A4 zs.length c4] 26 (0, 0)) := by
    have h := heap_alloc_new (w.alloc (.cells #[.string s, .slice A1 ps.length c1, .slice A3 zs.length c3] 26)) (.cells #[.string s, .slice A2 ps.length c2, .slice A4 zs.length c4] 26)
    simpa using h
  have HBA := Lib.hid hbA
  have HK1 := Lib.hid hk1
  have HK2 := Lib.hid hk2
  clear hbA hk1 hk2
  refine (HS.out _ HBA.out).mono ?_
  rintro e w1 ⟨rfl, q, hw1⟩
  have HB1 := Lib.hid (show Below w.heap.size w w1 by rw [hw1]; exact below_drewN HBA.out q)
  have k1 : w1.heap[w.heap.size]? = some (.cells #[.string s, .slice A1 ps.length c1, .slice A3 zs.length c3] 26 (0, 0)) := by rw [hw1]; exact HK1.out
  have k2 : w1.heap[w.heap.size + 1]? = some (.cells #[.string s, .slice A2 ps.length c2, .slice A4 zs.length c4] 26 (0, 0)) := by rw [hw1]; exact HK2.out
  obtain ⟨x0, x1, x2⟩ := zb_cells k1
  obtain ⟨y0, y1, y2⟩ := zb_cells k2
  clear k1 k2 hw1
  go_wp2_with fail
  refine (HI.out _ HB1.out).mono ?_
  rintro e w2 ⟨rfl, q2, hw2⟩
  have HB2 := Lib.hid (show Below w.heap.size w w2 by rw [hw2]; exact below_drewN HB1.out q2)
  clear hw2
  go_wp2_with fail
  go_ret
  exact ⟨by first | rfl | simp, HB2.out⟩
end Go.Proofs.YtjghindfnjfdcaaGreatDoor
