/- DERIVED. page.Resolve and the reference's Resolved at what they refuse, and the law PageResolves, for all strings of up to 2^47 bytes. Condition: the library's variable MaxLen holds a number. -/
import Derived.Test.YtekgpimlanaokaaDoorResolvedT
namespace Go.Proofs.YtekgpimlanaokaaDoor
set_option linter.unusedVariables false
open Go.RowKit Go.Shelf
set_option maxRecDepth 100000 in
set_option maxHeartbeats 400000 in
theorem resolve_bad (fr R : ByteArray) (w : World) (hm : MaxT w) (hfz : fr.size ≤ 140737488351232) (hrz : R.size ≤ 140737488351232) (h : padB fr = false ∨ 200 < R.size) :
    Calls Tryd.prog 5 #[.string fr, .string R] w fun e w' => e = .returned (.tuple #[.string ⟨#[]⟩, .int .i64 3]) ∧ Below w.heap.size w w' := by
  have h1 := fun wX (hX : Below w.heap.size w wX) => pIsAddr_any fr wX (hm.below hX) (by omega)
  by_cases hp : padB fr = false
  · rw [hp] at h1
    have H1 := Lib.hid h1
    clear h1 h hp
    go_enter Tryd.func5, Tryd.ntmps5
    go_wp2_with fail
    refine (H1.out _ (((Below.refl _ w).alloc (Nat.le_refl _) _).alloc (by simp) _)).mono ?_
    rintro e w1 ⟨rfl, hb1⟩
    have o6 : w1.heap[w.heap.size]? = some (.cells #[.string ⟨#[]⟩] 9 (0, 0)) := (hb1.block _ (by simp; omega)).trans (heap_alloc2_old _ _ _)
    have o7 : w1.heap[w.heap.size + 1]? = some (.cells #[.int .i64 0] 22 (0, 0)) := (hb1.block _ (by simp)).trans (heap_alloc2_new _ _ _)
    have x6 : Boxed w1 w.heap.size 9 (.string ⟨#[]⟩) := o6
    have x7 : Boxed w1 (w.heap.size + 1) 22 (.int .i64 0) := o7
    have c6 := x6.cell
    have f6 := x6.frozen
    have c7 := x7.cell
    have f7 := x7.frozen
    have y7 : ((w1.setCell ⟨w.heap.size, 0, none⟩ (.string ⟨#[]⟩)).setCell ⟨w.heap.size + 1, 0, none⟩ (.int .i64 3)).cell? ⟨w.heap.size + 1, 0, none⟩ = some (.int .i64 3) := ((x7.other (by omega) _).set _).cell
    have y6 : ((w1.setCell ⟨w.heap.size, 0, none⟩ (.string ⟨#[]⟩)).setCell ⟨w.heap.size + 1, 0, none⟩ (.int .i64 3)).cell? ⟨w.heap.size, 0, none⟩ = some (.string ⟨#[]⟩) := ((x6.set _).other (by omega) _).cell
    have hb : Below w.heap.size w ((w1.setCell ⟨w.heap.size, 0, none⟩ (.string ⟨#[]⟩)).setCell ⟨w.heap.size + 1, 0, none⟩ (.int .i64 3)) := (((((Below.refl _ w).alloc (Nat.le_refl _) _).alloc (by simp) _).trans (hb1.mono (by simp; omega))).setCell (p := ⟨w.heap.size, 0, none⟩) (Nat.le_refl _) _).setCell (p := ⟨w.heap.size + 1, 0, none⟩) (Nat.le_succ _) _
    have HY := Lib.hid (And.intro y6 (And.intro y7 hb))
    clear hb1 o6 o7 x6 x7 y6 y7 hb
    go_wp2_with fail
    have y6 := HY.out.1
    have y7 := HY.out.2.1
    exact bodyPost_ret (v := .tuple #[.string ⟨#[]⟩, .int .i64 3]) (by simp [results, Tryd.results5, go_sem, y6, y7]) rfl ⟨rfl, HY.out.2.2⟩
  · have hp' : padB fr = true := by simpa using hp
    have hr : (200 : Int) < (R.size : Int) := by rcases h with h | h; exact absurd h hp; omega
    rw [hp'] at h1
    have H1 := Lib.hid h1
    clear h1 h hp hp'
    go_enter Tryd.func5, Tryd.ntmps5
    go_wp2_with fail
    refine (H1.out _ (((Below.refl _ w).alloc (Nat.le_refl _) _).alloc (by simp) _)).mono ?_
    rintro e w1 ⟨rfl, hb1⟩
    have o6 : w1.heap[w.heap.size]? = some (.cells #[.string ⟨#[]⟩] 9 (0, 0)) := (hb1.block _ (by simp; omega)).trans (heap_alloc2_old _ _ _)
    have o7 : w1.heap[w.heap.size + 1]? = some (.cells #[.int .i64 0] 22 (0, 0)) := (hb1.block _ (by simp)).trans (heap_alloc2_new _ _ _)
    have x6 : Boxed w1 w.heap.size 9 (.string ⟨#[]⟩) := o6
    have x7 : Boxed w1 (w.heap.size + 1) 22 (.int .i64 0) := o7
    have c6 := x6.cell
    have f6 := x6.frozen
    have c7 := x7.cell
    have f7 := x7.frozen
    have y7 : ((w1.setCell ⟨w.heap.size, 0, none⟩ (.string ⟨#[]⟩)).setCell ⟨w.heap.size + 1, 0, none⟩ (.int .i64 3)).cell? ⟨w.heap.size + 1, 0, none⟩ = some (.int .i64 3) := ((x7.other (by omega) _).set _).cell
    have y6 : ((w1.setCell ⟨w.heap.size, 0, none⟩ (.string ⟨#[]⟩)).setCell ⟨w.heap.size + 1, 0, none⟩ (.int .i64 3)).cell? ⟨w.heap.size, 0, none⟩ = some (.string ⟨#[]⟩) := ((x6.set _).other (by omega) _).cell
    have hb : Below w.heap.size w ((w1.setCell ⟨w.heap.size, 0, none⟩ (.string ⟨#[]⟩)).setCell ⟨w.heap.size + 1, 0, none⟩ (.int .i64 3)) := (((((Below.refl _ w).alloc (Nat.le_refl _) _).alloc (by simp) _).trans (hb1.mono (by simp; omega))).setCell (p := ⟨w.heap.size, 0, none⟩) (Nat.le_refl _) _).setCell (p := ⟨w.heap.size + 1, 0, none⟩) (Nat.le_succ _) _
    have HY := Lib.hid (And.intro y6 (And.intro y7 hb))
    clear hb1 o6 o7 x6 x7 y6 y7 hb
    go_wp2_with fail
    have y6 := HY.out.1
    have y7 := HY.out.2.1
    exact bodyPost_ret (v := .tuple #[.string ⟨#[]⟩, .int .i64 3]) (by simp [results, Tryd.results5, go_sem, y6, y7]) rfl ⟨rfl, HY.out.2.2⟩
set_option maxRecDepth 100000 in
set_option maxHeartbeats 400000 in
theorem resolved_bad (fr R : ByteArray) (w : World) (hm : MaxT w) (hfz : fr.size ≤ 140737488351232) (hrz : R.size ≤ 140737488351232) (h : padB fr = false ∨ 200 < R.size) :
    Calls Tryd.prog 6 #[.string fr, .string R] w fun e w' => e = .returned (.tuple #[.string ⟨#[]⟩, .int .i64 3]) ∧ Below w.heap.size w w' := by
  have h1 := fun wX (hX : Below w.heap.size w wX) => rAddr1_any fr wX (hm.below hX) (by omega)
  by_cases hp : padB fr = false
  · rw [hp] at h1
    have H1 := Lib.hid h1
    clear h1 h hp
    go_enter Tryd.func6, Tryd.ntmps6
    go_wp2_with fail
    refine (H1.out _ (Below.refl _ _)).mono ?_
    rintro e w1 ⟨rfl, hb1⟩
    go_wp2_with fail
    go_ret2
    exact ⟨rfl, hb1⟩
  · have hp' : padB fr = true := by simpa using hp
    have hr : (200 : Int) < (R.size : Int) := by rcases h with h | h; exact absurd h hp; omega
    rw [hp'] at h1
    have H1 := Lib.hid h1
    clear h1 h hp hp'
    go_enter Tryd.func6, Tryd.ntmps6
    go_wp2_with fail
    refine (H1.out _ (Below.refl _ _)).mono ?_
    rintro e w1 ⟨rfl, hb1⟩
    go_wp2_with fail
    go_ret2
    exact ⟨rfl, hb1⟩
theorem padB_size {s : ByteArray} (h : padB s = true) : s.size ≤ 200 := by
  unfold padB at h
  simp only [Bool.and_eq_true, decide_eq_true_eq] at h
  exact h.1
set_option maxRecDepth 100000 in
set_option maxHeartbeats 400000 in
theorem law_of (fr R o : ByteArray) (x : Int) (w : World) (h1 : ∀ wX, Below w.heap.size w wX → Calls Tryd.prog 5 #[.string fr, .string R] wX fun e w' => e = .returned (.tuple #[.string o, .int .i64 x]) ∧ Below wX.heap.size wX w')
    (h2 : ∀ wX, Below w.heap.size w wX → Calls Tryd.prog 6 #[.string fr, .string R] wX fun e w' => e = .returned (.tuple #[.string o, .int .i64 x]) ∧ Below wX.heap.size wX w') :
    Calls Tryd.prog 3 #[.string fr, .string R] w fun e w' => e = .returned (.bool true) ∧ Below w.heap.size w w' := by
  have H1 := Lib.hid h1
  have H2 := Lib.hid h2
  have q1 : (o.toList == o.toList) = true := by simp
  have q3 : (x == x) = true := by simp
  clear h1 h2
  go_enter Tryd.func3, Tryd.ntmps3
  go_wp2_with fail
  refine (H1.out _ (Below.refl _ _)).mono ?_
  rintro e w1 ⟨rfl, hb1⟩
  go_wp2_with fail
  refine (H2.out _ hb1).mono ?_
  rintro e w2 ⟨rfl, hb2⟩
  go_wp2_with fail
  go_ret
  exact ⟨rfl, hb1.trans (hb2.mono hb1.size)⟩
theorem resolves_any (fr R : ByteArray) (w : World) (hm : MaxT w) (hfz : fr.size ≤ 140737488351232) (hrz : R.size ≤ 140737488351232) :
    Calls Tryd.prog 3 #[.string fr, .string R] w fun e w' => e = .returned (.bool true) ∧ Below w.heap.size w w' := by
  by_cases hbad : padB fr = false ∨ 200 < R.size
  · exact law_of fr R ⟨#[]⟩ 3 w (fun wX hX => resolve_bad fr R wX (hm.below hX) hfz hrz hbad) (fun wX hX => resolved_bad fr R wX (hm.below hX) hfz hrz hbad)
  · have hp : padB fr = true := by
      cases h : padB fr with
      | true => rfl
      | false => exact absurd (.inl h) hbad
    have hr : R.size ≤ 200 := by
      by_cases h : 200 < R.size
      · exact absurd (.inr h) hbad
      · omega
    obtain ⟨ref, rfl⟩ : ∃ ref, R = bP ref := ⟨R.data.toList, (bP_of R).symm⟩
    rw [bP_size] at hr
    cases hb : refB (bP ref) with
    | false =>
      obtain ⟨ps, hf, hsf, hal, h200⟩ := padB_inv fr hp
      exact law_of fr (bP ref) _ _ w (fun wX hX => resolve_try fr ref wX (hm.below hX) ps hf hsf hal h200 hr hb _ _ rfl rfl) (fun wX hX => resolved_try fr ref wX (hm.below hX) hp (padB_size hp) ps hf hsf hal h200 hr hb _ _ rfl rfl)
    | true =>
      exact law_of fr (bP ref) _ _ w (fun wX hX => resolve_root fr ref wX (hm.below hX) hp (padB_size hp) [] rfl (fun p h => by cases h) rfl (by decide) hr hb _ _ rfl rfl) (fun wX hX => resolved_root fr ref wX (hm.below hX) hp (padB_size hp) [] rfl (fun p h => by cases h) rfl (by decide) hr hb _ _ rfl rfl)
end Go.Proofs.YtekgpimlanaokaaDoor
