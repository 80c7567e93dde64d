/- DERIVED. What the reference's Alike returns for two rows of the same strings: true. Condition: at most 2^40 strings. -/
import Derived.Test.YtohkdckllmmfhaaGreatDoorRoutesBox
import Derived.BigQuiet
import Derived.Deep.QuietTactic
namespace Go.Proofs.YtohkdckllmmfhaaGreatDoor
open Go.RowKit
set_option linter.unusedVariables false
theorem equal_same (l : List ByteArray) (A1 A2 : Option Addr) (c1 c2 B1 B2 : Nat) (w : World) (hn : l.length ≤ 1099511627776) (h1 : w.ownsRow B1 9 1 (.slice A1 l.length c1) l.length (strs l)) (h2 : w.ownsRow B2 9 1 (.slice A2 l.length c2) l.length (strs l)) :
    Calls Tryz.prog 31 #[.slice A1 l.length c1, .slice A2 l.length c2] w fun e w' => e = .returned (.bool true) ∧ ∃ q, w' = w.drewN q := by
  rcases Nat.eq_zero_or_pos l.length with h0 | h0
  · rw [h0]
    refine (Tryz.slices_Equal_string_empty A1 A2 c1 0 c2 w (by omega)).mono ?_
    rintro e w' ⟨rfl, rfl⟩
    exact ⟨by simp, 0, rfl⟩
  · have cells : ∀ {B : Nat} {A : Option Addr} {c : Nat}, w.ownsRow B 9 1 (.slice A l.length c) l.length (strs l) → ∃ g, A = some ⟨g, 0, none⟩ ∧ ∀ j, j < l.length → w.cell? ⟨g, 0 + j, none⟩ = some (.string (l.getD j ⟨#[]⟩)) := by
      intro B A c h
      rcases h.2 with ⟨hv, hz⟩ | ⟨g, cap, cur, hv, _⟩
      · omega
      · cases hv
        refine ⟨g, rfl, fun j hj => ?_⟩
        rw [Nat.zero_add, h.cellAt j (by omega)]
        unfold strs
        rw [List.getElem?_map, List.getElem?_eq_getElem hj, List.getD_eq_getElem?_getD, List.getElem?_eq_getElem hj]
        rfl
    obtain ⟨g1, rfl, k1⟩ := cells h1
    obtain ⟨g2, rfl, k2⟩ := cells h2
    refine (Tryz.slices_Equal_string g1 0 l.length c1 g2 0 l.length c2 l l w (Nat.le_refl _) (Nat.le_refl _) (by omega) (by omega) k1 k2).mono ?_
    rintro e w' ⟨rfl, q, rfl⟩
    exact ⟨by simp, q, rfl⟩
theorem ta22 (v : Value) (w : World) : (Instr.typeAssert (.iface 23 v) 20 22 true).run Tryz.prog w = .ok (.tuple #[.slice none 0 0, .bool false]) w := by kernel_rfl
theorem ta49 (v : Value) (w : World) : (Instr.typeAssert (.iface 23 v) 20 49 true).run Tryz.prog w = .ok (.tuple #[.slice none 0 0, .bool false]) w := by kernel_rfl
theorem ta23 (v : Value) (w : World) : (Instr.typeAssert (.iface 23 v) 20 23 true).run Tryz.prog w = .ok (.tuple #[v, .bool true]) w := by kernel_rfl
set_option maxRecDepth 100000 in
set_option maxHeartbeats 1600000 in
theorem alike_strs (l : List ByteArray) (A1 A2 : Option Addr) (c1 c2 B1 B2 : Nat) (w : World) (hn : l.length ≤ 1099511627776) (h1 : w.ownsRow B1 9 1 (.slice A1 l.length c1) l.length (strs l)) (h2 : w.ownsRow B2 9 1 (.slice A2 l.length c2) l.length (strs l)) :
    Calls Tryz.prog 12 #[.iface 23 (.slice A1 l.length c1), .iface 23 (.slice A2 l.length c2)] w fun e w' => e = .returned (.bool true) ∧ Below w.heap.size w w' := by
  have HE := Lib.hid (fun wX (hX : Below w.heap.size w wX) => equal_same l A1 A2 c1 c2 B1 B2 wX hn (row_below h1 hX) (row_below h2 hX))
  have a1 := ta22
  have a2 := ta49
  have a3 := ta23
  clear h1 h2
  go_enter Tryz.func12, Tryz.ntmps12
  go_wp2_with fail
  refine (HE.out _ (Below.refl _ _)).mono ?_
  rintro e w1 ⟨rfl, q, hw⟩
  have hb : Below w.heap.size w w1 := by rw [hw]; exact ⟨rfl, rfl, rfl, Nat.le_refl _, fun _ _ => rfl⟩
  clear hw
  go_wp2_with fail
  go_ret
  exact ⟨rfl, hb⟩
end Go.Proofs.YtohkdckllmmfhaaGreatDoor
