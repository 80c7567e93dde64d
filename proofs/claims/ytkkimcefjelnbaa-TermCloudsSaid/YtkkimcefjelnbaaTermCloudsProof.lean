/- DERIVED. THE STATEMENT TermCloudsSaid: for every list of terms and every number TermClouds returns true, and each argument reads afterwards as it read before. No condition of ours. -/
import Derived.Test.YtkkimcefjelnbaaCloudR
import Derived.BigQuiet
import Derived.OpenShut
import Derived.ChangeOld
import Derived.Deep.Slices
import Derived.Deep.Fields
namespace Go.Proofs.Ytkkimcefjelnbaa.termCloudsDone
open Go.ChangeShapes Go.WideShapes Go.ChangeAt Go.RowKit Go.Deep
set_option linter.unusedVariables false
theorem own : ownKnob Try.prog.godebug = none := by kernel_rfl
theorem laidOut : laidOutB Try.prog = true := by kernel_rfl
/-- slices.Equal of two rows of the same integers. -/
theorem equal_own {w : World} {B B' g g' cap cap' n : Nat} {zs : List Int} (hl : zs.length = n) (hn : n ≤ 2000) (hc : ∀ j, j < n → w.cell? ⟨g, j, none⟩ = (zs.map (Value.int .i64))[j]?) (hc' : ∀ j, j < n → w.cell? ⟨g', j, none⟩ = (zs.map (Value.int .i64))[j]?) :
    Calls Try.prog 11 #[.slice (some ⟨g, 0, none⟩) n cap, .slice (some ⟨g', 0, none⟩) n cap'] w fun e w' => e = .returned (.bool true) ∧ ∃ q, w' = w.drewN q := by
  have key : ∀ (g : Nat), (∀ j, j < n → w.cell? ⟨g, j, none⟩ = (zs.map (Value.int .i64))[j]?) → ∀ j, j < zs.length → w.cell? ⟨g, 0 + j, none⟩ = some (.int .i64 (zs.getD j 0)) := fun g h j hj => by
    rw [Nat.zero_add, h j (by omega), List.getElem?_map, List.getD_eq_getElem?_getD, List.getElem?_eq_getElem hj]; rfl
  refine (Try.slices_Equal_int g 0 n cap g' 0 n cap' zs zs w (by omega) (by omega) (by omega) (by omega) (key g hc) (key g' hc')).mono ?_
  rintro e w' ⟨rfl, hw⟩
  exact ⟨by simp, hw⟩
set_option maxRecDepth 100000 in
set_option maxHeartbeats 800000 in
theorem walk (A : Option Addr) (n c : Nat) (s : Int) (ln : Nat → Nat) (w : World) (hm : n ≤ maxLen) (hT : TermsAt w w.heap.size A n ln) :
    Calls Try.prog 6 #[.slice A n c, .int .i64 s] w fun e w' => e = .returned (.bool true) ∧ Below w.heap.size w w' := by
  by_cases h : 2000 < n ∨ s < 1 ∨ 100 < s ∨ n = 0
  · have H1 := Lib.hid (fun wX => cloud_none A n c s wX h)
    have H2 := Lib.hid (fun wX => cloudOf_none A n c s wX h)
    have H3 := Lib.hid (fun wX => Try.slices_Equal_int_empty none none 0 0 0 wX (by omega))
    clear h hT
    obtain ⟨er, her⟩ : ∃ er, cloudErr n s = er := ⟨_, rfl⟩
    rw [her] at H1 H2
    clear her
    go_enter Try.func6, Try.ntmps6
    go_wp2_with fail
    refine (H1.out _).mono ?_
    rintro e w' ⟨rfl, rfl⟩
    go_wp2_with fail
    refine (H2.out _).mono ?_
    rintro e w' ⟨rfl, rfl⟩
    go_wp2_with fail
    refine (H3.out _).mono ?_
    rintro e w' ⟨rfl, rfl⟩
    go_wp2_with fail
    go_ret
    exact ⟨rfl, Below.refl _ _⟩
  · have hn0 : 0 < n := by omega
    have H1 := Lib.hid (cloud_any A n c s ln w hn0 (by omega) (by omega) (by omega) hT)
    have H2 := Lib.hid (fun wX (hX : Below w.heap.size w wX) => cloudOf_any A n c s ln wX hn0 (by omega) (by omega) (by omega) ((hT.below hX).more hX.size))
    have hn2 : n ≤ 2000 := by omega
    clear h hT
    go_enter Try.func6, Try.ntmps6
    go_wp2_with fail
    refine H1.out.mono ?_
    rintro e w1 ⟨v, rfl, hown, hb1⟩
    have HO := Lib.hid hown; clear hown
    go_wp2_with fail
    refine (H2.out _ hb1).mono ?_
    rintro e w2 ⟨v', rfl, hown', hb2⟩
    obtain ⟨g, cap, rfl, hg1, hg2⟩ := HO.out.form hn0
    obtain ⟨g', cap', rfl, hg1', hg2'⟩ := hown'.form hn0
    have H3 := Lib.hid (equal_own (cap := cap) (cap' := cap') (zs := cloudOut s ln n) (lensQ_length _ _ _) hn2 (fun j hj => (hb2.cell (p := ⟨g, j, none⟩) hg2).trans (HO.out.cellAt j (by omega))) (fun j hj => hown'.cellAt j (by omega)) (B := 0) (B' := 0))
    clear hown' HO
    go_wp2_with fail
    refine H3.out.mono ?_
    rintro e w3 ⟨rfl, q, rfl⟩
    go_wp2_with fail
    go_ret
    exact ⟨rfl, below_drewN (hb1.trans (hb2.mono hb1.size)) _⟩
section
variable {H : Type} {enc : TypeId × Value → H} {P : Program} {w : World} {base : Nat} {spare : Nat → Bool} {held : Bool}
theorem open_terms {tI tS tL tN tK : TypeId} {f0 f1 f2 : Field} (hK : P.underlying tK = some (.slice tI)) (hS : P.underlying tS = some .string) (hL : P.underlying tL = some (.slice tN))
    (hN : P.underlying tN = some (.struct #[f0, f1, f2])) (h0 : f0.type = tS) (h1 : f1.type = tS) (h2 : f2.type = tK) (hone : oneCellFields P #[f0, f1, f2] = true) (hC : P.cellsOf tN = 3)
    {fuel : Nat} {cs : List Value} {x : DataW H × List MemPlace} (h : DataW.trod enc P w base spare held fuel tL cs = some x) (hlt : ∀ p ∈ x.2, p.block < w.heap.size) :
    ∃ (A : Option Addr) (n c : Nat) (ln : Nat → Nat), cs = [.slice A n c] ∧ n ≤ maxLen ∧ TermsAt w w.heap.size A n ln := by
  rcases DataW.trod_slice hL h with ⟨rfl, _⟩ | ⟨a, len, cap, elems, rest, n, rfl, rfl, rfl, hb, hl, hm, hlen, hel, _, _⟩
  · exact ⟨none, 0, 0, fun _ => 0, rfl, Nat.zero_le _, fun i hi => absurd hi (by omega)⟩
  · have one : ∀ i, i < len → ∃ k : Nat, ∃ (s t : ByteArray) (A1 : Option Addr) (c1 : Nat), k ≤ maxLen ∧ ∀ j v, [Value.string s, .string t, .slice A1 k c1][j]? = some v → w.cell? (a.add (i * 3 + j)) = some v := by
      intro i hi
      have hh := hel i hi
      rw [hC, List.getElem?_eq_getElem (by omega)] at hh
      obtain ⟨cs', hcs, ht⟩ := Option.bind_eq_some_iff.1 hh
      obtain ⟨_, hcl, hat⟩ := World.cells?_some hcs
      obtain ⟨ys, n1, rfl, hy, _, hyl, hf⟩ := DataW.trod_struct hN ht
      match cs', hcl, hat with
      | [v0, v1, v2], _, hat =>
        obtain ⟨o0, k0⟩ := hone_of hone 0 f0 rfl
        obtain ⟨o1, k1⟩ := hone_of hone 1 f1 rfl
        obtain ⟨o2, k2⟩ := hone_of hone 2 f2 rfl
        have g0 := hf 0 f0 rfl
        have g1 := hf 1 f1 rfl
        have g2 := hf 2 f2 rfl
        rw [o0, k0, h0] at g0
        rw [o1, k1, h1] at g1
        rw [o2, k2, h2] at g2
        rw [List.getElem?_eq_getElem (by simp at hyl; omega)] at g0 g1 g2
        obtain ⟨s, e0, _, _⟩ := DataW.trod_string hS g0
        obtain ⟨t, e1, _, _⟩ := DataW.trod_string hS g1
        have e2 : ∃ (A1 : Option Addr) (k c1 : Nat), k ≤ maxLen ∧ [v2] = [Value.slice A1 k c1] := by
          rcases DataW.trod_slice hK g2 with ⟨e, _⟩ | ⟨a', len', cap', _, _, _, _, e, _, _, hl', hm', _⟩
          · exact ⟨none, 0, 0, Nat.zero_le _, by simpa using e⟩
          · exact ⟨some a', len', cap', Nat.le_trans hl' hm', by simpa using e⟩
        obtain ⟨A1, k, c1, hk, e2⟩ := e2
        simp at e0 e1 e2
        subst e0 e1 e2
        refine ⟨k, s, t, A1, c1, hk, fun j v hj => ?_⟩
        have hj3 : j < 3 := by simpa using (List.getElem?_eq_some_iff.1 hj).1
        rw [← Go.Deep.add_add, hat j hj3]
        exact hj
    obtain ⟨ln, hln⟩ := Go.Deep.choose_lt (α := Nat) (p := fun i k => ∃ (s t : ByteArray) (A1 : Option Addr) (c1 : Nat), k ≤ maxLen ∧ ∀ j v, [Value.string s, .string t, .slice A1 k c1][j]? = some v → w.cell? (a.add (i * 3 + j)) = some v) one
    refine ⟨some a, len, cap, ln, rfl, Nat.le_trans hl hm, fun i hi => ?_⟩
    obtain ⟨s, t, A1, c1, hk, hc⟩ := hln i hi
    have hblk : a.block < w.heap.size := hlt (.cell a.block a.off) (List.mem_append_left _ (MemPlace.mem_row.2 ⟨0, by rw [hC, hlen]; omega, by simp⟩))
    obtain ⟨b, off, spot⟩ := a
    have hspot : spot = none := by
      obtain ⟨s0, t0, A0, c0, _, hc0⟩ := hln 0 (by omega)
      simpa [Addr.add] using World.cell?_spot (hc0 0 _ rfl)
    subst hspot
    have cell : ∀ j v, [Value.string s, .string t, .slice A1 (ln i) c1][j]? = some v → w.cell? ⟨b, off + i * 3 + j, none⟩ = some v := by
      intro j v hj
      have := hc j v hj
      by_cases hij : i * 3 + j = 0
      · have : i = 0 := by omega
        have : j = 0 := by omega
        subst i; subst j
        simpa [Addr.add] using hc 0 v hj
      · unfold Addr.add at this
        rw [if_neg hij, ← Nat.add_assoc] at this
        exact this
    exact ⟨b, off, c1, s, t, A1, rfl, hblk, hk, cell 0 _ rfl, cell 1 _ rfl, cell 2 _ rfl⟩
end
set_option maxRecDepth 100000 in
theorem lifted (os : Os) (started : os.Started) (H : Type) (enc : TypeId × Value → H) :
    ReturnsInHanded {} Try.checked os 6 .any (Rows.termCloudsSpec.pre6 enc Try.prog Try.f6 Rows.termCloudsRow.domain false) (Rows.termCloudsSpec.post enc Try.prog Try.f6 false true false false) := by
  refine returnsInHanded_of_change (C := Try.checked) own started (by kernel_rfl) Try.func6
    (ChangeSpec.witness6 (enc := enc) (C := Try.checked) false ⟨#[], #[.slice none 0 0, .int .i64 0], []⟩ 8 (by kernel_rfl) (by kernel_rfl) (by kernel_rfl) (by kernel_rfl)) ?_
  intro W base args ds gs before hval0 hW hcnd _
  have hval : ∀ (j : Nat) t v, Try.f6.params[j]? = some t → args[j]? = some v → Value.okWide Try.prog W .any base t v := hval0
  have hW' := hW
  obtain ⟨p, q, hA0, hV, rfl, hfz, hnd⟩ := hW
  have hA : DataW.TrodAll enc Try.prog W 0 (fun _ => true) true Try.f6.params.toList args.toList ds p := hA0
  rw [Try.params6] at hA hval
  obtain ⟨v0, vs0, d0, ds0, p0, q0, hargs, rfl, rfl, h0, r0⟩ := trodAll_cons hA
  obtain ⟨v1, vs1, d1, ds1, p1, q1, rfl, rfl, rfl, h1, r1⟩ := trodAll_cons r0
  obtain ⟨rfl, rfl, rfl⟩ := trodAll_nil r1
  obtain rfl : args = #[v0, v1] := by cases args; simp_all
  obtain ⟨rfl, rfl⟩ := trodVars_none hV
  have k0 := h0
  have lt0 : ∀ x ∈ p0, x.block < W.heap.size := by obtain ⟨m, hm⟩ := k0; exact DataW.trod_lt m _ _ _ hm
  obtain ⟨a0, len0, cap0, rfl⟩ := okWide_slice Try.underlying44 (hval 0 44 v0 rfl rfl)
  obtain ⟨A, n, c, ln, he, hn, hents⟩ : ∃ A n c ln, Value.slice a0 len0 cap0 = .slice A n c ∧ n ≤ maxLen ∧ TermsAt W W.heap.size A n ln := by
    obtain ⟨fuel, hf⟩ := h0
    obtain ⟨A, n, c, ln, hcs, hn, he⟩ := open_terms Try.underlying30 Try.underlying9 Try.underlying44 Try.underlying54 rfl rfl rfl (by kernel_rfl) (by kernel_rfl) hf lt0
    simp [Value.cells] at hcs
    obtain ⟨rfl, rfl, rfl⟩ := hcs
    exact ⟨_, _, _, ln, rfl, hn, he⟩
  cases he
  obtain ⟨a1, rfl, rfl, rfl, w1⟩ := open_int Try.underlying3 (hval 1 3 v1 rfl rfl) h1
  clear hA0 hval0
  simp only [List.append_nil] at hW'
  refine (walk a0 len0 cap0 a1 ln W hn hents).mono fun e W' ⟨he, bel⟩ => ?_
  subst he
  exact ⟨_, rfl, _, _, _, [], _, [], hW', trodAll_mk1 (shut_bool Try.underlying4 _), (trodAll_cons_mk (Below.trod laidOut (by kernel_rfl) (of_decide_eq_true (by kernel_rfl)) k0 bel lt0) (trodAll_cons_mk (shut_int Try.underlying3 w1) trodAll_mk0)), rfl, bel.frame _, fun h => by cases h⟩

theorem over : Rows.termCloudsRow.holds Try.pinned (OpenSpec.ofChange Rows.termCloudsSpec) :=
  OpenClaim.holds_of_wide 6 Try.f6 rfl rfl rfl rfl rfl rfl rfl ⟨rfl, rfl, rfl, rfl, rfl⟩ rfl rfl rfl rfl rfl (by kernel_rfl) Try.func6 (by kernel_rfl)
    (of_decide_eq_true (by kernel_rfl)) (by unfold Func.isWrapper; first | (rw [if_pos (by decide +kernel)]; kernel_rfl) | (rw [if_neg (by decide +kernel)]; exact ⟨rfl, rfl⟩))
    (fun os started H enc _ => lifted os started H enc)
theorem proved : Rows.TermCloudsSaid := over
#print axioms proved
end Go.Proofs.Ytkkimcefjelnbaa.termCloudsDone
