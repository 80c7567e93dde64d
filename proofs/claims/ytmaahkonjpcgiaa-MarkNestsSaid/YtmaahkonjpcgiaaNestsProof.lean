/- DERIVED. THE STATEMENT MarkNestsSaid: for every list of entries MarkNests returns true, and each argument reads afterwards as it read before. No condition of ours. -/
import Derived.Test.YtmaahkonjpcgiaaNestsLaw
import Derived.ProofKit
import Derived.OpenShut
import Derived.ChangeOld
import Derived.Deep.Slices
import Derived.Deep.Fields
namespace Go.Proofs.Ytmaahkonjpcgiaa.markNestsDone
open Go.ChangeShapes Go.WideShapes Go.ChangeAt Go.RowKit Go.Deep
set_option linter.unusedVariables false

theorem own : ownKnob Try.prog.godebug = none := by kernel_rfl
theorem laidOut : laidOutB Try.prog = true := by kernel_rfl

section
variable {H : Type} {enc : TypeId × Value → H} {P : Program} {w : World} {base : Nat} {spare : Nat → Bool} {held : Bool}
theorem open_ents {tI tS tL tN : TypeId} {f0 f1 f2 : Field} (hI : P.underlying tI = some (.int .i64)) (hS : P.underlying tS = some .string) (hL : P.underlying tL = some (.slice tN))
    (hN : P.underlying tN = some (.struct #[f0, f1, f2])) (h0 : f0.type = tI) (h1 : f1.type = tS) (h2 : f2.type = tS) (hone : oneCellFields P #[f0, f1, f2] = true) (hC : P.cellsOf tN = 3)
    {fuel : Nat} {cs : List Value} {x : DataW H × List MemPlace} (h : DataW.trod enc P w base spare held fuel tL cs = some x) (hlt : ∀ p ∈ x.2, p.block < w.heap.size) :
    ∃ (A : Option Addr) (n c : Nat) (lv : Nat → Int), cs = [.slice A n c] ∧ n ≤ maxLen ∧ EntsAt w w.heap.size A n lv := by
  rcases DataW.trod_slice hL h with ⟨rfl, _⟩ | ⟨a, len, cap, elems, rest, n, rfl, rfl, rfl, hb, hl, hm, hlen, hel, _, _⟩
  · exact ⟨none, 0, 0, fun _ => 0, rfl, Nat.zero_le _, fun i hi => absurd hi (by omega)⟩
  · have one : ∀ i, i < len → ∃ k : Int, ∃ s t : ByteArray, ∀ j v, [Value.int .i64 k, .string s, .string t][j]? = some v → w.cell? (a.add (i * 3 + j)) = some v := by
      intro i hi
      have hh := hel i hi
      rw [hC, List.getElem?_eq_getElem (by omega)] at hh
      obtain ⟨cs', hcs, ht⟩ := Option.bind_eq_some_iff.1 hh
      obtain ⟨_, hcl, hat⟩ := World.cells?_some hcs
      obtain ⟨ys, n1, rfl, hy, _, hyl, hf⟩ := DataW.trod_struct hN ht
      match cs', hcl, hat with
      | [v0, v1, v2], _, hat =>
        obtain ⟨o0, k0⟩ := hone_of hone 0 f0 rfl
        obtain ⟨o1, k1⟩ := hone_of hone 1 f1 rfl
        obtain ⟨o2, k2⟩ := hone_of hone 2 f2 rfl
        have g0 := hf 0 f0 rfl
        have g1 := hf 1 f1 rfl
        have g2 := hf 2 f2 rfl
        rw [o0, k0, h0] at g0
        rw [o1, k1, h1] at g1
        rw [o2, k2, h2] at g2
        rw [List.getElem?_eq_getElem (by simp at hyl; omega)] at g0 g1 g2
        obtain ⟨k, e0, _, _⟩ := DataW.trod_int hI g0
        obtain ⟨s, e1, _, _⟩ := DataW.trod_string hS g1
        obtain ⟨t, e2, _, _⟩ := DataW.trod_string hS g2
        simp at e0 e1 e2
        subst e0 e1 e2
        refine ⟨k, s, t, fun j v hj => ?_⟩
        have hj3 : j < 3 := by simpa using (List.getElem?_eq_some_iff.1 hj).1
        rw [← Go.Deep.add_add, hat j hj3]
        exact hj
    obtain ⟨lv, hlv⟩ := Go.Deep.choose_lt (α := Int) (p := fun i k => ∃ s t : ByteArray, ∀ j v, [Value.int .i64 k, .string s, .string t][j]? = some v → w.cell? (a.add (i * 3 + j)) = some v) one
    refine ⟨some a, len, cap, lv, rfl, Nat.le_trans hl hm, fun i hi => ?_⟩
    obtain ⟨s, t, hc⟩ := hlv i hi
    have hblk : a.block < w.heap.size := hlt (.cell a.block a.off) (List.mem_append_left _ (MemPlace.mem_row.2 ⟨0, by rw [hC, hlen]; omega, by simp⟩))
    obtain ⟨b, off, spot⟩ := a
    have hspot : spot = none := by
      obtain ⟨s0, t0, hc0⟩ := hlv 0 (by omega)
      simpa [Addr.add] using World.cell?_spot (hc0 0 _ rfl)
    subst hspot
    have cell : ∀ j v, [Value.int .i64 (lv i), .string s, .string t][j]? = some v → w.cell? ⟨b, off + i * 3 + j, none⟩ = some v := by
      intro j v hj
      have := hc j v hj
      by_cases hij : i * 3 + j = 0
      · have : i = 0 := by omega
        have : j = 0 := by omega
        subst i; subst j
        simpa [Addr.add] using hc 0 v hj
      · unfold Addr.add at this
        rw [if_neg hij, ← Nat.add_assoc] at this
        exact this
    exact ⟨b, off, s, t, rfl, hblk, cell 0 _ rfl, cell 1 _ rfl, cell 2 _ rfl⟩
end

set_option maxRecDepth 100000 in
theorem lifted (os : Os) (started : os.Started) (H : Type) (enc : TypeId × Value → H) :
    ReturnsInHanded {} Try.checked os 6 .any (Rows.markNestsSpec.pre6 enc Try.prog Try.f6 Rows.markNestsRow.domain false) (Rows.markNestsSpec.post enc Try.prog Try.f6 false true false false) := by
  refine returnsInHanded_of_change (C := Try.checked) own started (by kernel_rfl) Try.func6
    (ChangeSpec.witness6 (enc := enc) (C := Try.checked) false ⟨#[], #[.slice none 0 0], []⟩ 8 (by kernel_rfl) (by kernel_rfl) (by kernel_rfl) (by kernel_rfl)) ?_
  intro W base args ds gs before hval0 hW hcnd _
  have hval : ∀ (j : Nat) t v, Try.f6.params[j]? = some t → args[j]? = some v → Value.okWide Try.prog W .any base t v := hval0
  have hW' := hW
  obtain ⟨p, q, hA0, hV, rfl, hfz, hnd⟩ := hW
  have hA : DataW.TrodAll enc Try.prog W 0 (fun _ => true) true Try.f6.params.toList args.toList ds p := hA0
  rw [Try.params6] at hA hval
  obtain ⟨v0, vs0, d0, ds0, p0, q0, hargs, rfl, rfl, h0, r0⟩ := trodAll_cons hA
  obtain ⟨rfl, rfl, rfl⟩ := trodAll_nil r0
  obtain rfl : args = #[v0] := by cases args; simp_all
  obtain ⟨rfl, rfl⟩ := trodVars_none hV
  have k0 := h0
  have lt0 : ∀ x ∈ p0, x.block < W.heap.size := by obtain ⟨m, hm⟩ := k0; exact DataW.trod_lt m _ _ _ hm
  obtain ⟨a0, len0, cap0, rfl⟩ := okWide_slice Try.underlying37 (hval 0 37 v0 rfl rfl)
  obtain ⟨A, n, c, lv, he, hn, hents⟩ : ∃ A n c lv, Value.slice a0 len0 cap0 = .slice A n c ∧ n ≤ maxLen ∧ EntsAt W W.heap.size A n lv := by
    obtain ⟨fuel, hf⟩ := h0
    obtain ⟨A, n, c, lv, hcs, hn, he⟩ := open_ents Try.underlying3 Try.underlying9 Try.underlying37 Try.underlying42 rfl rfl rfl (by kernel_rfl) (by kernel_rfl) hf lt0
    simp [Value.cells] at hcs
    obtain ⟨rfl, rfl, rfl⟩ := hcs
    exact ⟨_, _, _, lv, rfl, hn, he⟩
  cases he
  clear hA0 hval0
  refine (law_any a0 len0 cap0 lv W (by unfold maxLen at hn; omega) hents).mono fun e W' ⟨he, bel⟩ => ?_
  subst he
  exact ⟨_, rfl, _, _, _, [], _, [], hW', trodAll_mk1 (shut_bool Try.underlying4 _), (trodAll_cons_mk (Below.trod laidOut (by kernel_rfl) (of_decide_eq_true (by kernel_rfl)) k0 bel lt0) trodAll_mk0), rfl, bel.frame _, fun h => by cases h⟩

theorem over : Rows.markNestsRow.holds Try.pinned (OpenSpec.ofChange Rows.markNestsSpec) :=
  OpenClaim.holds_of_wide 6 Try.f6 rfl rfl rfl rfl rfl rfl rfl ⟨rfl, rfl, rfl, rfl, rfl⟩ rfl rfl rfl rfl rfl (by kernel_rfl) Try.func6 (by kernel_rfl)
    (of_decide_eq_true (by kernel_rfl)) (by unfold Func.isWrapper; first | (rw [if_pos (by decide +kernel)]; kernel_rfl) | (rw [if_neg (by decide +kernel)]; exact ⟨rfl, rfl⟩))
    (fun os started H enc _ => lifted os started H enc)

theorem proved : Rows.MarkNestsSaid := over
#print axioms proved
end Go.Proofs.Ytmaahkonjpcgiaa.markNestsDone
