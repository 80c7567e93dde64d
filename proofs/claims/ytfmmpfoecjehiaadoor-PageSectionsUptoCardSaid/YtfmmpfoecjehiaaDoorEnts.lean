/- DERIVED. Contents of pages and their entries as arguments: how what can be read lies in memory. No condition. -/
import Derived.Test.YtfmmpfoecjehiaaDoorSectCut
import Derived.Deep.Slices
import Derived.Deep.Fields
import Derived.ChangeSame
import Derived.Lib.SmallJoins
import Derived.ProofKit
namespace Go.Proofs.YtfmmpfoecjehiaaDoor
open Go.Joins Go.ChangeShapes Go.WideShapes Go.Deep Go.RowKit
set_option linter.unusedVariables false
section
variable {H : Type} {enc : TypeId × Value → H} {P : Program} {w : World} {base : Nat} {spare : Nat → Bool} {held : Bool}
theorem open_slice_fields {t e : TypeId} {fs : Array Field} {fuel : Nat} {cs : List Value} {x : DataW H × List MemPlace} (ht : P.underlying t = some (.slice e)) (he : P.underlying e = some (.struct fs))
    (hone : oneCellFields P fs = true) (hC : P.cellsOf e = fs.size) (h : DataW.trod enc P w base spare held fuel t cs = some x) :
    (cs = [.slice none 0 0] ∧ x = (.nil, [])) ∨
    ∃ (a : Addr) (len cap m : Nat) (D : Nat → DataW H) (Pl : Nat → List MemPlace), cs = [.slice (some a) len cap] ∧ base ≤ a.block ∧ len ≤ cap ∧ cap ≤ maxLen ∧ m = (if spare a.block then cap else len) ∧
      x = (.slice ((List.range len).map D) ((List.range (m - len)).map fun j => D (len + j)), MemPlace.row a (m * fs.size) ++ (List.range m).flatMap Pl) ∧
      ∀ i, i < m → ∃ (ys : List (DataW H × List MemPlace)) (n : Nat), D i = .agg (ys.map (·.1)) ∧ Pl i = ys.flatMap (·.2) ∧ ys.length = fs.size ∧
        ∀ (j : Nat) (f : Field), fs[j]? = some f → ∃ (v : Value) (y : DataW H × List MemPlace), w.cell? (a.add (i * fs.size + j)) = some v ∧ ys[j]? = some y ∧ DataW.trod enc P w base spare held n f.type [v] = some y := by
  rcases open_slice ht h with h0 | ⟨a, len, cap, m, n, D, Pl, hcs, hb, hl, hm, hmm, hx, hi⟩
  · exact .inl h0
  · refine .inr ⟨a, len, cap, m, D, Pl, hcs, hb, hl, hm, hmm, by rw [hC] at hx; exact hx, fun i him => ?_⟩
    obtain ⟨cs', hc, ht'⟩ := hi i him
    rw [hC] at hc
    obtain ⟨ys, n', hn', hy, hlen, hyl, hf⟩ := DataW.trod_struct he ht'
    obtain ⟨_, hcl, hat⟩ := World.cells?_some hc
    simp only [Prod.mk.injEq] at hy
    refine ⟨ys, n', hy.1, hy.2, hyl, fun j f hj => ?_⟩
    obtain ⟨ho, hk⟩ := hone_of hone j f hj
    have hjl : j < fs.size := (Array.getElem?_eq_some_iff.1 hj).1
    have hcell := hat j hjl
    have hv : cs'[j]? = some (cs'[j]'(by omega)) := List.getElem?_eq_getElem (by omega)
    have h1 := hf j f hj
    rw [ho, hk] at h1
    have hone' : (cs'.drop j).take 1 = [cs'[j]'(by omega)] := by
      rw [List.drop_eq_getElem_cons (by omega)]
      rfl
    rw [hone'] at h1
    have hys : ys[j]? = some (ys[j]'(by omega)) := List.getElem?_eq_getElem (by omega)
    refine ⟨_, _, ?_, hys, h1.trans hys⟩
    rw [← Go.Deep.add_add, hcell, hv]
theorem open_agg7 {r : Reach} {b0 : Nat} {t : TypeId} {f0 f1 f2 f3 f4 f5 f6 : Field} {v : Value} {d : DataW H} {p : List MemPlace} (hs : P.underlying t = some (.struct #[f0, f1, f2, f3, f4, f5, f6])) (hone : oneCellFields P #[f0, f1, f2, f3, f4, f5, f6] = true) (hC : P.cellsOf t = 7)
    (hv : Value.okWide P w r b0 t v) (h : DataW.Trod enc P w base spare held t v d p) :
    ∃ (v0 v1 v2 v3 v4 v5 v6 : Value) (y0 y1 y2 y3 y4 y5 y6 : DataW H × List MemPlace) (n : Nat), v = .agg #[v0, v1, v2, v3, v4, v5, v6] ∧ d = .agg [y0.1, y1.1, y2.1, y3.1, y4.1, y5.1, y6.1] ∧ p = y0.2 ++ (y1.2 ++ (y2.2 ++ (y3.2 ++ (y4.2 ++ (y5.2 ++ (y6.2)))))) ∧
      DataW.trod enc P w base spare held n f0.type [v0] = some y0 ∧ DataW.trod enc P w base spare held n f1.type [v1] = some y1 ∧ DataW.trod enc P w base spare held n f2.type [v2] = some y2 ∧ DataW.trod enc P w base spare held n f3.type [v3] = some y3 ∧ DataW.trod enc P w base spare held n f4.type [v4] = some y4 ∧ DataW.trod enc P w base spare held n f5.type [v5] = some y5 ∧ DataW.trod enc P w base spare held n f6.type [v6] = some y6 := by
  obtain ⟨cs, rfl, hsz⟩ := okWide_struct hs hv
  obtain ⟨l⟩ := cs
  match l, hsz.trans hC with
  | [c0, c1, c2, c3, c4, c5, c6], _ =>
    obtain ⟨fuel, hf⟩ := h
    obtain ⟨xs, n, _, hx, _, hlen, hg⟩ := DataW.trod_struct hs hf
    obtain ⟨o0, k0⟩ := hone_of hone 0 f0 rfl
    obtain ⟨o1, k1⟩ := hone_of hone 1 f1 rfl
    obtain ⟨o2, k2⟩ := hone_of hone 2 f2 rfl
    obtain ⟨o3, k3⟩ := hone_of hone 3 f3 rfl
    obtain ⟨o4, k4⟩ := hone_of hone 4 f4 rfl
    obtain ⟨o5, k5⟩ := hone_of hone 5 f5 rfl
    obtain ⟨o6, k6⟩ := hone_of hone 6 f6 rfl
    match xs, hlen with
    | [y0, y1, y2, y3, y4, y5, y6], _ =>
      simp only [Prod.mk.injEq] at hx
      exact ⟨c0, c1, c2, c3, c4, c5, c6, y0, y1, y2, y3, y4, y5, y6, n, rfl, by simpa using hx.1, by simpa using hx.2, by simpa [Value.cells, o0, k0] using hg 0 f0 rfl, by simpa [Value.cells, o1, k1] using hg 1 f1 rfl, by simpa [Value.cells, o2, k2] using hg 2 f2 rfl, by simpa [Value.cells, o3, k3] using hg 3 f3 rfl, by simpa [Value.cells, o4, k4] using hg 4 f4 rfl, by simpa [Value.cells, o5, k5] using hg 5 f5 rfl, by simpa [Value.cells, o6, k6] using hg 6 f6 rfl⟩
theorem n_bulk {bulk : DataW H → Nat} {bulkAll : List (DataW H) → Nat} (b4 : ∀ y r, bulkAll (y :: r) = bulk y + bulkAll r) (D : Nat → DataW H) :
    ∀ L : List Nat, (∀ i, i ∈ L → 1 ≤ bulk (D i)) → L.length ≤ bulkAll (L.map D)
  | [], _ => Nat.zero_le _
  | i :: L, h => by
    have h1 := n_bulk b4 D L (fun j hj => h j (List.mem_cons_of_mem _ hj))
    have h2 := h i List.mem_cons_self
    simp only [List.map_cons, List.length_cons, b4]
    omega
theorem one_bulk {bulk : DataW H → Nat} {bulkAll : List (DataW H) → Nat} (b4 : ∀ y r, bulkAll (y :: r) = bulk y + bulkAll r) (D : Nat → DataW H) :
    ∀ (L : List Nat) (i : Nat), i ∈ L → bulk (D i) ≤ bulkAll (L.map D)
  | a :: L, i, h => by
    simp only [List.map_cons, b4]
    rcases List.mem_cons.1 h with rfl | h
    · omega
    · have := one_bulk b4 D L i h; omega
/-- A slice that can be read is nil or has an address. -/
theorem slice_form {t e : TypeId} {fuel : Nat} {v : Value} {x : DataW H × List MemPlace} (ht : P.underlying t = some (.slice e)) (h : DataW.trod enc P w base spare held fuel t [v] = some x) : ∃ A n c, v = .slice A n c := by
  rcases open_slice ht h with ⟨h1, _⟩ | ⟨a, len, cap, m, n, D, Pl, h1, _⟩
  · simp at h1; exact ⟨_, _, _, h1⟩
  · simp at h1; exact ⟨_, _, _, h1⟩
theorem wf_range {n : Int} (h : (Lit.int .i64 n).wf = true) : -9223372036854775808 ≤ n ∧ n ≤ 9223372036854775807 := by
  simp only [Lit.wf, IntKind.min, IntKind.max, IntKind.signed, IntKind.bits, Bool.and_eq_true, decide_eq_true_eq, if_true] at h
  omega
theorem open_ents {tI tS tL tN : TypeId} {f0 f1 f2 : Field} (hI : P.underlying tI = some (.int .i64)) (hS : P.underlying tS = some .string) (hL : P.underlying tL = some (.slice tN))
    (hN : P.underlying tN = some (.struct #[f0, f1, f2])) (h0 : f0.type = tI) (h1 : f1.type = tS) (h2 : f2.type = tS) (hone : oneCellFields P #[f0, f1, f2] = true) (hC : P.cellsOf tN = 3)
    {bulk : DataW H → Nat} {bulkAll : List (DataW H) → Nat} (b1 : ∀ l, bulk (.lit (.string l)) = l.length + 1) (b2 : ∀ e s, bulk (.slice e s) = bulkAll e + bulkAll s + 1) (b3 : ∀ p, bulk (.agg p) = bulkAll p + 1)
    (b4 : ∀ y r, bulkAll (y :: r) = bulk y + bulkAll r)
    {fuel : Nat} {v : Value} {x : DataW H × List MemPlace} (h : DataW.trod enc P w base spare held fuel tL [v] = some x) (hlt : ∀ p ∈ x.2, p.block < w.heap.size) (hle : bulk x.1 ≤ 1048576) :
    ∃ (A : Option Addr) (n c : Nat) (l : List Ent), v = .slice A n c ∧ n = l.length ∧ n ≤ 1048576 ∧ n ≤ c ∧ c ≤ maxLen ∧ EntsAt w w.heap.size A l := by
  rcases open_slice_fields hL hN hone hC h with ⟨hcs, rfl⟩ | ⟨a, len, cap, m, D, Pl, hcs, hb, hl, hm, hmm, hx, hf⟩
  · simp at hcs
    exact ⟨none, 0, 0, [], hcs, rfl, by omega, Nat.le_refl _, Nat.zero_le _, fun j lv id t hj => by simp at hj⟩
  · simp at hcs
    have hlm : len ≤ m := by rw [hmm]; split <;> omega
    have one : ∀ i, i < len → ∃ p : Ent, w.cell? (a.add (i * 3 + 0)) = some (.int .i64 p.1) ∧ w.cell? (a.add (i * 3 + 1)) = some (.string p.2.1) ∧ w.cell? (a.add (i * 3 + 2)) = some (.string p.2.2) ∧ p.2.1.size + 1 ≤ bulk (D i) ∧
        -9223372036854775808 ≤ p.1 ∧ p.1 ≤ 9223372036854775807 := by
      intro i hi
      obtain ⟨ys, n, hD, _, hyl, hg⟩ := hf i (by omega)
      obtain ⟨v0, y0, hc0, hy0, ht0⟩ := hg 0 f0 rfl
      obtain ⟨v1, y1, hc1, hy1, ht1⟩ := hg 1 f1 rfl
      obtain ⟨v2, y2, hc2, hy2, ht2⟩ := hg 2 f2 rfl
      rw [h0] at ht0
      rw [h1] at ht1
      rw [h2] at ht2
      obtain ⟨k, e0, _, hwf⟩ := DataW.trod_int hI ht0
      obtain ⟨s, e1, hs1, _⟩ := DataW.trod_string hS ht1
      obtain ⟨s', e2, hs2, _⟩ := DataW.trod_string hS ht2
      simp at e0 e1 e2
      subst e0 e1 e2
      refine ⟨(k, s, s'), hc0, hc1, hc2, ?_, wf_range hwf⟩
      match ys, hyl, hy0, hy1, hy2 with
      | [z0, z1, z2], _, hy0, hy1, hy2 =>
        simp at hy0 hy1 hy2
        subst hy0 hy1 hy2
        rw [hD, b3, List.map_cons, List.map_cons, b4, b4, hs1, b1]
        have hsz : s.data.toList.length = s.size := Array.length_toList
        show s.size + 1 ≤ _
        omega
    obtain ⟨F, hF⟩ := Go.Deep.choose_lt one
    have hbk : bulkAll ((List.range len).map D) ≤ 1048576 := by
      have := hle
      rw [hx, b2] at this
      omega
    have hlen : len ≤ 1048576 := by
      have := n_bulk b4 D (List.range len) (fun i hi => by have := (hF i (by simpa using hi)).2.2.2.1; omega)
      rw [List.length_range] at this
      omega
    refine ⟨some a, len, cap, (List.range len).map F, hcs, by simp, hlen, hl, hm, fun j lv id t hj => ?_⟩
    have hjl : j < len := by
      have := (List.getElem?_eq_some_iff.1 hj).1
      simpa using this
    have hFj : F j = (lv, id, t) := by
      rw [List.getElem?_map, List.getElem?_range hjl] at hj
      simpa using hj
    obtain ⟨c0, c1, c2, hsz, hl0, hl1⟩ := hF j hjl
    have hblk : a.block < w.heap.size := hlt (.cell a.block a.off) (by
      rw [hx]
      exact List.mem_append_left _ (MemPlace.mem_row.2 ⟨0, by show 0 < m * 3; omega, by simp⟩))
    have hid := one_bulk b4 D (List.range len) j (by simpa using hjl)
    obtain ⟨b, off, spot⟩ := a
    have hspot : spot = none := by
      obtain ⟨z0, _⟩ := hF 0 (by omega)
      simpa [Addr.add] using World.cell?_spot z0
    subst hspot
    rw [hFj] at c0 c1 c2 hsz hl0 hl1
    refine ⟨⟨b, off, rfl, hblk, ?_, ?_, ?_⟩, hl0, hl1, by show id.size ≤ _; simp only at hsz; omega⟩
    · by_cases hj0 : j = 0
      · subst hj0; simpa [Addr.add] using c0
      · unfold Addr.add at c0
        rw [if_neg (by omega)] at c0
        simpa using c0
    · unfold Addr.add at c1
      rw [if_neg (by omega)] at c1
      rw [Nat.add_assoc]
      exact c1
    · unfold Addr.add at c2
      rw [if_neg (by omega)] at c2
      rw [Nat.add_assoc]
      exact c2
end
end Go.Proofs.YtfmmpfoecjehiaaDoor
