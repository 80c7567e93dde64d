/- DERIVED. What CodeOf of the reference returns: what Line returns. Condition: strings of at most 20000 bytes. -/
import Derived.Test.YtfmmpfoecjehiaaCodeF
import Derived.Test.YtfmmpfoecjehiaaCodeT
namespace Go.Proofs.Ytfmmpfoecjehiaa
set_option linter.unusedVariables false
set_option linter.unusedSimpArgs false
open Go.RowKit
set_option maxRecDepth 100000 in
set_option maxHeartbeats 4000000 in
theorem codeOf_any (s : ByteArray) (w : World) (hs : s.size ≤ 20000) :
    Calls Try.prog 6 #[.string s] w (LnPost s w) := by
  have H1 := Lib.hid (fun wX => hpre s wX)
  have H2 := Lib.hid (fun wX => hclo s wX)
  have hb0 := Lib.hid (Below.refl w.heap.size w)
  cases hp : preL s with
  | false =>
    rw [hp] at H1
    have HN := Lib.hid (show ¬ (preL s = true ∧ preC s = false) by rw [hp]; simp)
    clear hp
    go_enter Try.func6, Try.ntmps6
    go_wp2_with (go_at_call 13; refine (H1.out _).mono ?_; rintro e w9 ⟨rfl, rfl⟩)
    refine bodyPost_ret (v := .tuple #[zP, .int .i64 7]) (by simp [results, Try.results6, go_sem, zP, pcells, ]; try rfl) rfl (LnPost.no HN.out ?_)
    repeat (first | with_reducible exact hb0.out | with_reducible refine below_setN ?_ (by first | exact Nat.le_refl _ | omega) | refine Below.alloc ?_ (by simp; try omega) _)
  | true =>
    rw [hp] at H1
    cases hc : preC s with
    | true =>
      rw [hc] at H2
      have HN := Lib.hid (show ¬ (preL s = true ∧ preC s = false) by rw [hc]; simp)
      clear hp hc
      go_enter Try.func6, Try.ntmps6
      go_wp2_with (first | (go_at_call 13; with_reducible refine (H1.out _).mono ?_; rintro e w9 ⟨rfl, rfl⟩) | (go_at_call 13; with_reducible refine (H2.out _).mono ?_; rintro e w9 ⟨rfl, rfl⟩))
      refine bodyPost_ret (v := .tuple #[zP, .int .i64 7]) (by simp [results, Try.results6, go_sem, zP, pcells, ]; try rfl) rfl (LnPost.no HN.out ?_)
      repeat (first | with_reducible exact hb0.out | with_reducible refine below_setN ?_ (by first | exact Nat.le_refl _ | omega) | refine Below.alloc ?_ (by simp; try omega) _)
    | false =>
      rw [hc] at H2
      have HY := Lib.hid (And.intro hp hc)
      have hp0 := hp
      have hc0 := hc
      have hl3 := pre_len hp
      have hs1 := fun wX => hsuf s ⟨#[32, 47, 62, 125]⟩ wX hs
      have hs2 := fun wX => hsuf s ⟨#[32, 62, 125]⟩ wX hs
      clear hp hc
      have e1 : (bl (ByteArray.mk #[32, 47, 62, 125])) = suf false := rfl
      have e2 : (bl (ByteArray.mk #[32, 62, 125])) = suf true := rfl
      simp only [e1] at hs1
      simp only [e2] at hs2
      cases hf : Lib.hasSuffix (bl s) (suf false) with
      | false =>
        cases ht : Lib.hasSuffix (bl s) (suf true) with
        | false =>
          have HG := Lib.hid (show ∀ nm gs o, ¬ GL ((bl s).drop 3) nm gs o from fun nm gs o h => by
            obtain ⟨W, ps, h1, _⟩ := h.ends hl3
            have := suffix_of h1
            cases o
            · rw [hf] at this; cases this
            · rw [ht] at this; cases this)
          rw [hf] at hs1
          rw [ht] at hs2
          have HS1 := Lib.hid hs1
          have HS2 := Lib.hid hs2
          clear hs1 hs2 hf ht e1 e2
          go_enter Try.func6, Try.ntmps6
          go_wp2_with (first | (go_at_call 13; with_reducible refine (H1.out _).mono ?_; rintro e w9 ⟨rfl, rfl⟩) | (go_at_call 13; with_reducible refine (H2.out _).mono ?_; rintro e w9 ⟨rfl, rfl⟩) | (go_at_call 16; with_reducible refine (HS1.out _).mono ?_; rintro e w9 ⟨rfl, rfl⟩) | (go_at_call 16; with_reducible refine (HS2.out _).mono ?_; rintro e w9 ⟨rfl, rfl⟩))
          refine bodyPost_ret (v := .tuple #[zP, .int .i64 8]) (by simp [results, Try.results6, go_sem, zP, pcells, ]; try rfl) rfl (LnPost.bad HY.out HG.out ?_)
          repeat (first | with_reducible exact hb0.out | with_reducible refine below_setN ?_ (by first | exact Nat.le_refl _ | omega) | refine Below.alloc ?_ (by simp; try omega) _)
        | true =>
          exact codeOf_t s w hs hp0 hc0 hf ht
      | true =>
        exact codeOf_f s w hs hp0 hc0 hf
end Go.Proofs.Ytfmmpfoecjehiaa
