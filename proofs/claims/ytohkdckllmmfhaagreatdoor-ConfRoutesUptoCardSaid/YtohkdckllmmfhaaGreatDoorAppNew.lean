/- DERIVED. What append returns for a nil slice and a row: a new row of the same cells. No condition but the sizes. -/
import Derived.Test.YtohkdckllmmfhaaGreatDoorValP
import Derived.Laws.OwnMore
import Derived.OwnWalk
namespace Go.Proofs.YtohkdckllmmfhaaGreatDoor
open Go.RowKit
set_option linter.unusedVariables false
theorem run_append_nil_none {P : Program} (w : World) (t ty e : TypeId) (i : TypeInfo) (c : Nat) (ht : P.underlying t = some (.slice e)) (hi : P.info? e = some i) :
    (Builtin.append_ #[t, t] ty #[.slice none 0 0, .slice none 0 c]).run P w = .ok (.slice none 0 0) w := by
  simp [Builtin.append_, run_underlying ht, sizeOf, typeInfo, hi, Builtin.lenOf, Builtin.firstCells]
theorem wpList_append_new {P : Program} (w : World) {ops : Array Oper} {rest : List Oper} {o : Oper} {a : Act} {Q : Exit → Act → World → Prop}
    (hgd : o.guard = none) (s x : Operand) (t : TypeId) (ho : o.op = .call { callee := .builtin .append, args := #[s, x], argTypes := #[t, t] })
    (e : TypeId) (i : TypeInfo) (z : Value) (size bytes : Nat) (ht : P.underlying t = some (.slice e)) (hi : P.info? e = some i) (hz : i.zero = some z)
    (hsize : i.size = size) (hby : i.bytes = bytes) (hzs : z.cells.size = size) (hsz : 0 < size) (hs : a.eval s = .slice none 0 0)
    (A : Option Addr) (m c : Nat) (news : List Value) (hx : a.eval x = .slice A m c) (hl : news.length = m * size) (hA : A = none → m = 0)
    (hnews : ∀ ad, A = some ad → ∀ j u, news[j]? = some u → w.cell? (ad.add j) = some u) (h1 : ∀ u ∈ news, u.oneCell' = true)
    (h63 : m ≤ maxLen) (hbytes : m * bytes ≤ 140737488355328)
    (h : ∀ v' w', w'.ownsRow w.heap.size e size v' m news → w.grownBy w' none → wpList P ops Q rest (a.put o.dst v') w') : wpList P ops Q (o :: rest) a w := by
  cases A with
  | none =>
    obtain rfl : m = 0 := hA rfl
    obtain rfl : news = [] := List.eq_nil_of_length_eq_zero (by rw [hl, Nat.zero_mul])
    refine wpList_plain hgd fun K hK' => ?_
    have hrun := run_append_nil_none (P := P) w t o.type e i c ht hi
    unfold Oper.wp
    simp [execOp, ho, resolve, invoke, builtin, hs, hx, hrun, Result.andThen]
    exact hK' _ _ (h _ _ (World.ownsRow_nil w _ e size) (World.grownBy.refl w none))
  | some ad =>
    refine wpList_append_own w hgd s x t ho w.heap.size e i z size bytes ht hi hz hsize hby hzs hsz (.slice none 0 0) 0 [] hs (World.ownsRow_nil w _ e size) ad m c news hx hl (hnews ad rfl) h1 (by omega) (by rw [Nat.zero_add]; exact hbytes) (Nat.le_refl _) ?_
    intro v' w' h2 h3 _
    rw [Nat.zero_add, List.nil_append] at h2
    exact h v' w' h2 h3
theorem str_info : (Tryz.prog.info? 9).map (fun i => (i.zero, i.size, i.bytes)) = some (some (Value.string ⟨#[]⟩), 1, 16) := by kernel_rfl
theorem val_info : (Tryz.prog.info? 25).map (fun i => (i.zero, i.size, i.bytes)) = some (some (Value.agg #[.int .i64 0, .bool false, .int .i64 0, .string ⟨#[]⟩, .slice none 0 0, .slice none 0 0]), 6, 88) := by kernel_rfl
/-- The keys of a value as cells. -/
theorem keys_cells {w : World} {p : Nat → Prop} {l : List ByteArray} {A : Option Addr} {n : Nat} (h : KeysP w p l A n) : (l.map Value.string).length = n * 1 ∧ (A = none → n = 0) ∧ (∀ ad, A = some ad → ∀ j u, (l.map Value.string)[j]? = some u → w.cell? (ad.add j) = some u) ∧ ∀ u, u ∈ l.map Value.string → u.oneCell' = true := by
  refine ⟨by simp [h.1], fun hA => ?_, fun ad hA j u hu => ?_, fun u hu => ?_⟩
  · rcases Nat.eq_zero_or_pos n with h0 | h0
    · exact h0
    · obtain ⟨b, o, e, _⟩ := h.2.2 h0
      rw [hA] at e; cases e
  · have hn : 0 < n := by
      rw [h.1]
      have := (List.getElem?_eq_some_iff.1 hu).1
      simp at this
      omega
    obtain ⟨b, o, e, _, hc⟩ := h.2.2 hn
    rw [hA] at e
    cases e
    rw [Addr.add_mid]
    rw [List.getElem?_map] at hu
    obtain ⟨s, hs, rfl⟩ := Option.map_eq_some_iff.1 hu
    exact hc j s hs
  · obtain ⟨s, _, rfl⟩ := List.mem_map.1 hu
    rfl
theorem keys_own {w : World} {B : Nat} {l : List ByteArray} {v : Value} {n : Nat} (hn : n = l.length) (hz : ∀ s, s ∈ l → s.size ≤ maxLen) (h : w.ownsRow B 9 1 v n (l.map Value.string)) :
    ∃ A c, v = .slice A n c ∧ n ≤ c ∧ c ≤ maxLen ∧ KeysP w (fun b => B ≤ b ∧ b < w.heap.size) l A n := by
  have hlt := h.lt
  rcases h.2 with ⟨rfl, h0⟩ | ⟨g, cap, cur, rfl, hg, hh, hnc, hcm, _, _⟩
  · subst h0
    exact ⟨none, 0, rfl, Nat.le_refl _, Nat.zero_le _, hn, hz, fun h => absurd h (Nat.lt_irrefl 0)⟩
  · refine ⟨some ⟨g, 0, none⟩, cap, rfl, hnc, hcm, hn, hz, fun _ => ⟨g, 0, rfl, hlt g rfl, fun j s hj => ?_⟩⟩
    have hjl := (List.getElem?_eq_some_iff.1 hj).1
    rw [Nat.zero_add, h.cellAt j (by omega), List.getElem?_map, hj]
    rfl
/-- The cells of a row of values. -/
theorem items_cells {w : World} {p : Nat → Prop} {d : Vals} {A : Option Addr} {n : Nat} (h : d.AtP w p A n) : ∃ xs : List Value, xs.length = n * 6 ∧ (A = none → n = 0) ∧ (∀ ad, A = some ad → ∀ j u, xs[j]? = some u → w.cell? (ad.add j) = some u) ∧ (∀ u, u ∈ xs → u.oneCell' = true) ∧ ∀ g o, A = some ⟨g, o, none⟩ → w.rangeAt g o xs := by
  rcases Nat.eq_zero_or_pos n with h0 | h0
  · subst h0
    exact ⟨[], rfl, fun _ => rfl, fun ad _ j u hu => by simp at hu, (fun u hu => by cases hu), fun g o _ j v hv => by simp at hv⟩
  · obtain ⟨g, o, rfl, hg⟩ := h.base h0
    obtain ⟨xs, h1, h2, h3⟩ := h.cells
    refine ⟨xs, h1, (fun h => by cases h), fun ad had j u hu => ?_, h3, fun g' o' e => by cases e; exact h2⟩
    cases had
    rw [Addr.add_mid]
    exact h2 j u hu
end Go.Proofs.YtohkdckllmmfhaaGreatDoor
