/- DERIVED. A row of bytes of the call's own, whatever stretch behind it is marked: what a conversion of a string makes, and what append leaves of it. No condition. -/
import Derived.Test.YthlkibadiiiohaaDoorSideA
import Derived.ArgAppend
import Derived.WalkSmall
import Derived.Laws.Rows
import Derived.Laws.IdiomStrings
import Derived.Deep.MidRow
namespace Go.Proofs.YthlkibadiiiohaaDoor
open Go.RowKit
set_option linter.unusedVariables false
def RowB (w : World) (base b cap : Nat) (l : List UInt8) : Prop :=
  base ≤ b ∧ b < w.heap.size ∧ l.length ≤ cap ∧ (∀ j (hj : j < l.length), w.cell? ⟨b, j, none⟩ = some (.int .u8 (l[j].toNat : Int))) ∧
    ∀ j, l.length ≤ j → j < cap → (w.cell? ⟨b, j, none⟩).isSome = true ∧ w.frozen? ⟨b, j, none⟩ = false
theorem frozen_of_heap {w w' : World} {b j : Nat} (h : w'.heap[b]? = w.heap[b]?) : w'.frozen? ⟨b, j, none⟩ = w.frozen? ⟨b, j, none⟩ := by simp [World.frozen?, h]
theorem cell_of_heap {w w' : World} {b j : Nat} (h : w'.heap[b]? = w.heap[b]?) : w'.cell? ⟨b, j, none⟩ = w.cell? ⟨b, j, none⟩ := by simp [World.cell?, h]
theorem RowB.heap {w w' : World} {base b cap : Nat} {l : List UInt8} (h : RowB w base b cap l) (hh : w'.heap[b]? = w.heap[b]?) (hz : b < w'.heap.size) : RowB w' base b cap l :=
  ⟨h.1, hz, h.2.2.1, fun j hj => (cell_of_heap hh).trans (h.2.2.2.1 j hj), fun j h1 h2 => by rw [cell_of_heap hh, frozen_of_heap hh]; exact h.2.2.2.2 j h1 h2⟩
theorem RowB.alloc {w : World} {base b cap : Nat} {l : List UInt8} (h : RowB w base b cap l) (o : Obj) : RowB (w.alloc o) base b cap l :=
  h.heap (Below.heap_alloc _ _ _ h.2.1) (by simp; have := h.2.1; omega)
/-- What the conversion of a string makes. -/
theorem RowB.conv (w : World) (l : List UInt8) (cap lo hi : Nat) (hl : l.length ≤ cap) (C : Array Value) (hC : C.size = cap) (hb : ∀ j (hj : j < l.length), C[j]? = some (.int .u8 (l[j].toNat : Int))) (hlo : cap ≤ lo) : RowB (w.alloc (.cells C 5 (lo, hi))) w.heap.size w.heap.size cap l := by
  refine ⟨Nat.le_refl _, by simp, hl, fun j hj => (World.cell?_alloc_mark w C _ _ j).trans (hb j hj), fun j h1 h2 => ⟨?_, ?_⟩⟩
  · rw [World.cell?_alloc_mark, Array.getElem?_eq_getElem (by omega)]
    rfl
  · rw [World.frozen?_alloc_mark, decide_eq_false (by omega)]
    rfl
theorem RowB.own {w : World} {base n : Nat} {v : Value} {l : List UInt8} (h : w.ownsRow base 5 1 v n (l.map fun c => .int .u8 (c.toNat : Int))) (hn : l.length = n) (h0 : 0 < n) : ∃ b cap, v = .slice (some ⟨b, 0, none⟩) n cap ∧ RowB w base b cap l := by
  rcases h.2 with ⟨_, h1⟩ | ⟨g, cap, cur, hv, hb, hg, hn2, hm, hz, ht⟩
  · omega
  · refine ⟨g, cap, hv, hb, (Array.getElem?_eq_some_iff.1 hg).1, by omega, fun j hj => ?_, fun j h1 h2 => ?_⟩
    · rw [cell_of_row w g j cur _ _ hg]
      have e : (cur.toList.take (n * 1))[j]? = some (.int .u8 (l[j].toNat : Int)) := by rw [ht, List.getElem?_map, List.getElem?_eq_getElem hj]; rfl
      rw [List.getElem?_take_of_lt (by omega)] at e
      simpa using e
    · refine ⟨?_, frozen_of_row w g j cur _ hg⟩
      rw [cell_of_row w g j cur _ _ hg, Array.getElem?_eq_getElem (by omega)]
      rfl
/-- What append into the room leaves. -/
theorem RowB.room {w : World} {base b cap : Nat} {l : List UInt8} (h : RowB w base b cap l) (d : UInt8) (hr : l.length + 1 ≤ cap) : RowB (w.setCells b l.length [.int .u8 (d.toNat : Int)]) base b cap (l ++ [d]) := by
  have hs : ∀ j, j < [Value.int .u8 (d.toNat : Int)].length → (w.cell? ⟨b, l.length + j, none⟩).isSome = true := fun j hj => by
    have : j = 0 := by simp at hj; omega
    subst this
    exact (h.2.2.2.2 _ (by omega) (by omega)).1
  have hsz : (w.setCells b l.length [.int .u8 (d.toNat : Int)]).heap.size = w.heap.size := by simp [World.setCells, World.setCell]
  refine ⟨h.1, by rw [hsz]; exact h.2.1, by simp; omega, fun j hj => ?_, fun j h1 h2 => ⟨World.isSome_setCells b _ _ _ _ (h.2.2.2.2 j (by simp at h1; omega) h2).1, (World.frozen?_setCells b _ _ _ _).trans (h.2.2.2.2 j (by simp at h1; omega) h2).2⟩⟩
  by_cases e : j < l.length
  · rw [World.cell?_setCells_out b _ _ _ _ (fun _ _ => .inl e), h.2.2.2.1 j e, List.getElem_append_left e]
  · have e2 : j = l.length := by simp at hj; omega
    subst e2
    have := World.cell?_setCells_in b _ _ _ hs 0 (by simp)
    simp only [Nat.add_zero] at this
    rw [this]
    simp
theorem byte_info : (Tryd.prog.info? 5).map (fun i => (i.zero, i.size, i.bytes)) = some (some (.int .u8 0), 1, 1) := by kernel_rfl
theorem wpList_append_rowB {w : World} {ops : Array Oper} {rest : List Oper} {o : Oper} {a : Act} {Q : Exit → Act → World → Prop} (hgd : o.guard = none) (s x : Operand)
    (ho : o.op = Op.call { callee := Callee.builtin Builtin.append, args := #[s, x], argTypes := #[50, 50] })
    {base b cap n : Nat} {l : List UInt8} (hn : l.length = n) (hs : a.eval s = .slice (some ⟨b, 0, none⟩) n cap) (hrow : RowB w base b cap l) (ad : Addr) (c : Nat) (d : UInt8) (hx : a.eval x = .slice (some ad) 1 c) (hd : w.cell? (ad.add 0) = some (.int .u8 (d.toNat : Int))) (hlen : n + 1 ≤ 100000)
    (h : ∀ b' cap' w', RowB w' base b' cap' (l ++ [d]) → Below base w w' → wpList Tryd.prog ops Q rest (a.put o.dst (.slice (some ⟨b', 0, none⟩) (n + 1) cap')) w') : wpList Tryd.prog ops Q (o :: rest) a w := by
  subst hn
  obtain ⟨i0, hi, hz0, hz1, hz2⟩ := info_parts byte_info
  refine wpList_append_arg w hgd s x 50 ho 5 i0 (.int .u8 0) 1 1 Tryd.underlying50 hi hz0 hz1 hz2 rfl (by decide) b 0 l.length cap (l.map fun c => .int .u8 (c.toNat : Int)) hs (by simp) (fun j u hu => ?_) ad 1 c [.int .u8 (d.toNat : Int)] hx rfl (fun j u hu => ?_) (fun u hu => by simp at hu; subst hu; rfl) (fun hr j hj => ?_) (by unfold maxLen; omega) (by omega) (fun hr => ?_) (fun hg v' w' hown hgrow => ?_)
  · rw [List.getElem?_map] at hu
    have hj : j < l.length := by
      by_cases e : j < l.length
      · exact e
      · rw [List.getElem?_eq_none (by omega)] at hu; cases hu
    rw [List.getElem?_eq_getElem hj] at hu
    cases hu
    rw [Nat.zero_add]
    exact hrow.2.2.2.1 j hj
  · have hj : j = 0 := by have := (List.getElem?_eq_some_iff.1 hu).1; simp at this; omega
    subst hj
    simp at hu
    subst hu
    exact hd
  · have hj0 : j = 0 := by simp at hj; omega
    subst hj0
    simp only [Nat.zero_add, Nat.mul_one, Nat.add_zero]
    exact hrow.2.2.2.2 _ (Nat.le_refl _) (by omega)
  · have hr2 := hrow.room d hr
    have hb : Below base w (w.setCells b (0 + l.length * 1) [.int .u8 (d.toNat : Int)]) := by
      have := (Below.refl base w).setCell (p := ⟨b, l.length, none⟩) hrow.1 (.int .u8 (d.toNat : Int))
      simpa [World.setCells] using this
    refine h b cap _ ?_ hb
    simpa using hr2
  · obtain ⟨b', cap', rfl, hR⟩ := RowB.own (l := l ++ [d]) (by simpa using hown) (by simp) (by omega)
    have hbb : base ≤ w.heap.size := by have := hrow.1; have := hrow.2.1; omega
    refine h b' cap' w' ⟨by have := hR.1; omega, hR.2⟩ ((Below.refl base w).grown hgrow hbb (fun k e => by cases e))
end Go.Proofs.YthlkibadiiiohaaDoor
