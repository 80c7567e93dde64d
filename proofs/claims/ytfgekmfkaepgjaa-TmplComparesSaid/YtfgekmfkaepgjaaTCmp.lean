/- DERIVED. What Compare of package tmpl and its reference return for every two values: their order, or an error. No condition. -/
import Derived.Test.YtfgekmfkaepgjaaConfCmpP
import Derived.Deep.RegionHeld3
import Derived.BigQuiet
import Derived.Deep.QuietTactic
namespace Go.Proofs.Ytfgekmfkaepgjaa
set_option linter.unusedVariables false
open Go.RowKit
/-- What a value in memory is, at its top. -/
structure Top where
  k : Int
  bo : Bool
  i : Int
  t : ByteArray
  A1 : Option Addr
  n1 : Nat
  c1 : Nat
  A2 : Option Addr
  n2 : Nat
  c2 : Nat
def Top.val (a : Top) : Value := .agg #[.int .i64 a.k, .bool a.bo, .int .i64 a.i, .string a.t, .slice a.A1 a.n1 a.c1, .slice a.A2 a.n2 a.c2]
def Top.box (a : Top) : Obj := .cells #[.int .i64 a.k, .bool a.bo, .int .i64 a.i, .string a.t, .slice a.A1 a.n1 a.c1, .slice a.A2 a.n2 a.c2] 27
theorem flat12 {p0 p1 p2 p3 p4 p5 p6 p7 p8 p9 p10 p11 : Prop} (h : (p0 ∧ p1 ∧ p2 ∧ p3 ∧ p4 ∧ p5) ∧ p6 ∧ p7 ∧ p8 ∧ p9 ∧ p10 ∧ p11) : p0 ∧ p1 ∧ p2 ∧ p3 ∧ p4 ∧ p5 ∧ p6 ∧ p7 ∧ p8 ∧ p9 ∧ p10 ∧ p11 :=
  let ⟨⟨a0, a1, a2, a3, a4, a5⟩, r⟩ := h
  ⟨a0, a1, a2, a3, a4, a5, r⟩
def isTB (k : Int) : Bool := decide (k = 3) || decide (k = 7)
def tcB (a b : Bool) : Int := if a = b then 0 else if b = true then -1 else 1
def tcN (a b : Top) : Int :=
  if isTB a.k = true ∧ isTB b.k = true then Lib.compareBytes a.t.data.toList b.t.data.toList else if a.k ≠ b.k then 0 else if a.k = 1 then tcB a.bo b.bo else if a.k = 2 ∨ a.k = 4 then Lib.compareInt a.i b.i else 0
def tcE (a b : Top) : Int :=
  if isTB a.k = true ∧ isTB b.k = true then 0 else if a.k ≠ b.k then 10 else if a.k = 0 ∨ a.k = 1 ∨ a.k = 2 ∨ a.k = 4 then 0 else 10
theorem retTC {a b a' b' : Int} (h : a = a') (g : b = b') : Ending.returned (.tuple #[.int .i64 a', .int .i64 b']) = .returned (.tuple #[.int .i64 a, .int .i64 b]) := by rw [h, g]

set_option maxRecDepth 100000 in
theorem isText_any (a : Top) (b : Bool) (w : World) (h : isTB a.k = b) :
    Calls Try.prog 27 #[a.val] w fun e w' => e = .returned (.bool b) ∧ Below w.heap.size w w' := by
  obtain ⟨k, bo, i, t, A1, n1, c1, A2, n2, c2⟩ := a
  simp only [Top.val]
  simp only at h
  have hbx : Below w.heap.size w (w.alloc (.cells #[.int .i64 k, .bool bo, .int .i64 i, .string t, .slice A1 n1 c1, .slice A2 n2 c2] 27)) := (Below.refl _ _).alloc (Nat.le_refl _) _
  by_cases h3 : k = 3
  · subst h3
    obtain rfl : b = true := by rw [← h]; rfl
    go_enter Try.func27, Try.ntmps27
    go_wp2_with fail
    go_ret
    exact ⟨rfl, hbx⟩
  · by_cases h7 : k = 7
    · subst h7
      obtain rfl : b = true := by rw [← h]; rfl
      go_enter Try.func27, Try.ntmps27
      go_wp2_with fail
      go_ret
      exact ⟨rfl, hbx⟩
    · have z3 : (k == 3) = false := by simpa using h3
      have z7 : (k == 7) = false := by simpa using h7
      obtain rfl : b = false := by rw [← h]; unfold isTB; rw [decide_eq_false h3, decide_eq_false h7]; rfl
      clear h h3 h7
      go_enter Try.func27, Try.ntmps27
      go_wp2_with fail
      go_ret
      exact ⟨rfl, hbx⟩

set_option maxRecDepth 100000 in
theorem isString_any (a : Top) (b : Bool) (w : World) (h : isTB a.k = b) :
    Calls Try.prog 32 #[a.val] w fun e w' => e = .returned (.bool b) ∧ Below w.heap.size w w' := by
  obtain ⟨k, bo, i, t, A1, n1, c1, A2, n2, c2⟩ := a
  simp only [Top.val]
  simp only at h
  have hbx : Below w.heap.size w (w.alloc (.cells #[.int .i64 k, .bool bo, .int .i64 i, .string t, .slice A1 n1 c1, .slice A2 n2 c2] 27)) := (Below.refl _ _).alloc (Nat.le_refl _) _
  by_cases h3 : k = 3
  · subst h3
    obtain rfl : b = true := by rw [← h]; rfl
    go_enter Try.func32, Try.ntmps32
    go_wp2_with fail
    go_ret
    exact ⟨rfl, hbx⟩
  · by_cases h7 : k = 7
    · subst h7
      obtain rfl : b = true := by rw [← h]; rfl
      go_enter Try.func32, Try.ntmps32
      go_wp2_with fail
      go_ret
      exact ⟨rfl, hbx⟩
    · have z3 : (k == 3) = false := by simpa using h3
      have z7 : (k == 7) = false := by simpa using h7
      obtain rfl : b = false := by rw [← h]; unfold isTB; rw [decide_eq_false h3, decide_eq_false h7]; rfl
      clear h h3 h7
      go_enter Try.func32, Try.ntmps32
      go_wp2_with fail
      go_ret
      exact ⟨rfl, hbx⟩

set_option maxRecDepth 100000 in
theorem order_any (a b : Int) (w : World) : Calls Try.prog 33 #[.int .i64 a, .int .i64 b] w fun e w' => e = .returned (.int .i64 (Lib.compareInt a b)) ∧ w = w' := by
  obtain ⟨x, hx⟩ : ∃ x, Lib.compareInt a b = x := ⟨_, rfl⟩
  rw [hx]
  rcases Int.lt_trichotomy a b with h | h | h
  · obtain rfl : x = -1 := by rw [← hx]; exact compareInt_lt h
    clear hx
    go_enter Try.func33, Try.ntmps33
    go_wp2_with fail
    go_ret
    exact ⟨rfl, rfl⟩
  · subst h
    obtain rfl : x = 0 := by rw [← hx]; exact compareInt_zero.2 rfl
    clear hx
    go_enter Try.func33, Try.ntmps33
    go_wp2_with fail
    go_ret
    exact ⟨rfl, rfl⟩
  · obtain rfl : x = 1 := by rw [← hx]; exact compareInt_gt h
    have h2 : ¬ a < b := by omega
    clear hx
    go_enter Try.func33, Try.ntmps33
    go_wp2_with fail
    go_ret
    exact ⟨rfl, rfl⟩
set_option maxRecDepth 100000 in
theorem truth_any (b : Bool) (w : World) : Calls Try.prog 30 #[.bool b] w fun e w' => e = .returned (Top.val ⟨1, b, 0, ⟨#[]⟩, none, 0, 0, none, 0, 0⟩) ∧ Below w.heap.size w w' := by
  simp only [Top.val]
  go_enter Try.func30, Try.ntmps30
  go_wp2_with fail
  refine bodyPost_ret (v := .agg #[.int .i64 1, .bool b, .int .i64 0, .string ⟨#[]⟩, .slice none 0 0, .slice none 0 0]) (by simp [results, Try.results30, go_sem]) rfl ⟨rfl, ?_⟩
  exact (Below.refl _ _).alloc (Nat.le_refl _) _
theorem cmpB_any (a b : Bool) (w : World) : Calls Try.prog 29 #[Top.val ⟨1, a, 0, ⟨#[]⟩, none, 0, 0, none, 0, 0⟩, Top.val ⟨1, b, 0, ⟨#[]⟩, none, 0, 0, none, 0, 0⟩] w fun e w' => e = .returned (.int .i64 (tcB a b)) ∧ Below w.heap.size w w' := by
  have hok : VOk w w.heap.size 1 0 ⟨#[]⟩ none 0 0 none 0 0 .nil [] := ⟨Nat.le_refl _, Nat.zero_le _, Nat.le_refl _, Nat.zero_le _, by decide, by decide, Nat.zero_le _, rfl, rfl, fun s hs => (nomatch hs), fun h => absurd h (Nat.lt_irrefl 0)⟩
  refine (compare_any 1 a 0 ⟨#[]⟩ none 0 0 none 0 0 .nil [] 1 b 0 ⟨#[]⟩ none 0 0 none 0 0 .nil [] w hok hok (by decide) (by decide) (by decide) (by decide)).mono ?_
  rintro e w' ⟨rfl, hb⟩
  refine ⟨retC ?_, hb⟩
  cases a <;> cases b <;> decide

set_option maxRecDepth 100000 in
set_option maxHeartbeats 2000000 in
theorem tcompare_any (a b : Top) (w : World) :
    Calls Try.prog 8 #[a.val, b.val] w fun e w' => e = .returned (.tuple #[.int .i64 (tcN a b), .int .i64 (tcE a b)]) ∧ Below w.heap.size w w' := by
  obtain ⟨x, hx⟩ : ∃ x, tcN a b = x := ⟨_, rfl⟩
  obtain ⟨y, hy⟩ : ∃ y, tcE a b = y := ⟨_, rfl⟩
  rw [hx, hy]
  have HB := fun (w1 : World) (h : Below (w.heap.size + 2) ((w.alloc a.box).alloc b.box) w1) => below_box2 h
  have HX := fun (w1 : World) (h : Below (w.heap.size + 2) ((w.alloc a.box).alloc b.box) w1) => boxV12 h
  have hb0 := Below.refl (w.heap.size + 2) ((w.alloc a.box).alloc b.box)
  obtain ⟨b1, hk1⟩ : ∃ b1, isTB a.k = b1 := ⟨_, rfl⟩
  obtain ⟨b2, hk2⟩ : ∃ b2, isTB b.k = b2 := ⟨_, rfl⟩
  have hi1 := fun (wX : World) => isText_any a b1 wX hk1
  have hi2 := fun (wX : World) => isText_any b b2 wX hk2
  unfold tcN at hx
  unfold tcE at hy
  rw [hk1, hk2] at hx hy
  obtain ⟨ka, boa, ia, ta, A1a, n1a, c1a, A2a, n2a, c2a⟩ := a
  obtain ⟨kb, bob, ib, tb, A1b, n1b, c1b, A2b, n2b, c2b⟩ := b
  generalize hW2 : (w.alloc (Top.box ⟨ka, boa, ia, ta, A1a, n1a, c1a, A2a, n2a, c2a⟩)).alloc (Top.box ⟨kb, bob, ib, tb, A1b, n1b, c1b, A2b, n2b, c2b⟩) = W2 at HB HX hb0
  simp only [Top.box] at hW2
  simp only [Top.val] at hi1 hi2 ⊢
  simp only at hx hy hk1 hk2
  unfold Six at HX
  simp only [Nat.zero_add] at HX
  have H1 := Lib.hid (fun wX (hX : Below (w.heap.size + 2) W2 wX) => (hi1 wX).mono (fun e w' h => (⟨h.1, hX.trans (h.2.mono (HB wX hX).2), flat12 (HX _ (hX.trans (h.2.mono (HB wX hX).2)))⟩ : _ ∧ Below (w.heap.size + 2) W2 w' ∧ _)))
  have H2 := Lib.hid (fun wX (hX : Below (w.heap.size + 2) W2 wX) => (hi2 wX).mono (fun e w' h => (⟨h.1, hX.trans (h.2.mono (HB wX hX).2), flat12 (HX _ (hX.trans (h.2.mono (HB wX hX).2)))⟩ : _ ∧ Below (w.heap.size + 2) W2 w' ∧ _)))
  have HBW := Lib.hid HB
  have HXX := Lib.hid (fun w1 h => flat12 (HX w1 h))
  clear HB HX hi1 hi2
  have CS := Lib.hid (fun (a b : ByteArray) (wX : World) => Try.strings_Compare a b wX)
  obtain ⟨x0, x1, x2, x3, x4, x5, y0, y1, y2, y3, y4, y5⟩ := HXX.out _ hb0
  have HW2 := hW2

  by_cases hT : b1 = true ∧ b2 = true
  · obtain ⟨rfl, rfl⟩ := hT
    rw [if_pos ⟨rfl, rfl⟩] at hx hy
    have HX := Lib.hid hx; clear hx
    have HY := Lib.hid hy; clear hy hk1 hk2
    go_enter Try.func8, Try.ntmps8
    go_wp2_with fail
    refine (H1.out _ hb0).mono ?_
    rintro e w1 ⟨rfl, hb1, x0, x1, x2, x3, x4, x5, y0, y1, y2, y3, y4, y5⟩
    go_wp2_with fail
    refine (H2.out _ hb1).mono ?_
    rintro e w2 ⟨rfl, hb2, x0, x1, x2, x3, x4, x5, y0, y1, y2, y3, y4, y5⟩
    go_wp2_with fail
    refine (CS.out _ _ _).mono ?_
    rintro e w3 ⟨rfl, hw3⟩
    rw [hw3]
    clear hw3 w3
    dsimp only
    go_wp2_with fail
    go_ret2
    exact ⟨retTC HX.out.symm HY.out.symm, (HBW.out _ hb2).1⟩
  rw [if_neg hT] at hx hy
  by_cases hne : ka ≠ kb
  · rw [if_pos hne] at hx hy
    have zk : (ka != kb) = true := by simpa using hne
    have HX := Lib.hid hx; clear hx
    have HY := Lib.hid hy; clear hy hne hk1 hk2
    cases b1
    · clear H2 hT
      go_enter Try.func8, Try.ntmps8
      go_wp2_with fail
      refine (H1.out _ hb0).mono ?_
      rintro e w1 ⟨rfl, hb1, x0, x1, x2, x3, x4, x5, y0, y1, y2, y3, y4, y5⟩
      go_wp2_with fail
      go_ret2
      exact ⟨retTC HX.out.symm HY.out.symm, (HBW.out _ hb1).1⟩
    · cases b2
      · clear hT
        go_enter Try.func8, Try.ntmps8
        go_wp2_with fail
        refine (H1.out _ hb0).mono ?_
        rintro e w1 ⟨rfl, hb1, x0, x1, x2, x3, x4, x5, y0, y1, y2, y3, y4, y5⟩
        go_wp2_with fail
        refine (H2.out _ hb1).mono ?_
        rintro e w2 ⟨rfl, hb2, x0, x1, x2, x3, x4, x5, y0, y1, y2, y3, y4, y5⟩
        go_wp2_with fail
        go_ret2
        exact ⟨retTC HX.out.symm HY.out.symm, (HBW.out _ hb2).1⟩
      · exact absurd ⟨rfl, rfl⟩ hT
  rw [if_neg hne] at hx hy
  obtain rfl : ka = kb := Classical.not_not.1 hne
  obtain rfl : b1 = b2 := hk1.symm.trans hk2
  obtain rfl : b1 = false := by
    cases b1
    · rfl
    · exact absurd ⟨rfl, rfl⟩ hT
  clear H2 hT hne hk2
  by_cases h0 : ka = 0
  · subst h0
    rw [if_neg (by decide), if_neg (by decide)] at hx
    rw [if_pos (Or.inl rfl)] at hy
    have HX := Lib.hid hx; clear hx
    have HY := Lib.hid hy; clear hy hk1
    go_enter Try.func8, Try.ntmps8
    go_wp2_with fail
    refine (H1.out _ hb0).mono ?_
    rintro e w1 ⟨rfl, hb1, x0, x1, x2, x3, x4, x5, y0, y1, y2, y3, y4, y5⟩
    go_wp2_with fail
    go_ret2
    exact ⟨retTC HX.out.symm HY.out.symm, (HBW.out _ hb1).1⟩

  by_cases h1 : ka = 1
  · subst h1
    rw [if_pos rfl] at hx
    rw [if_pos (Or.inr (Or.inl rfl))] at hy
    have keep : ∀ w1 w' : World, Below (w.heap.size + 2) W2 w1 → Below w1.heap.size w1 w' → Below (w.heap.size + 2) W2 w' ∧ w'.cell? ⟨w.heap.size, 1, none⟩ = some (.bool boa) ∧ w'.cell? ⟨w.heap.size + 1, 1, none⟩ = some (.bool bob) := fun w1 w' h g => by
      have h2 := h.trans (g.mono (HBW.out _ h).2)
      obtain ⟨_, q1, _, _, _, _, _, r1, _⟩ := HXX.out _ h2
      exact ⟨h2, q1, r1⟩
    have T1 := Lib.hid (fun wX (hX : Below (w.heap.size + 2) W2 wX) => (truth_any boa wX).mono (fun e w' h => (⟨h.1, keep _ _ hX h.2⟩ : _ ∧ _)))
    have T2 := Lib.hid (fun wX (hX : Below (w.heap.size + 2) W2 wX) => (truth_any bob wX).mono (fun e w' h => (⟨h.1, keep _ _ hX h.2⟩ : _ ∧ _)))
    have T3 := Lib.hid (fun wX (hX : Below (w.heap.size + 2) W2 wX) => (cmpB_any boa bob wX).mono (fun e w' h => (⟨h.1, keep _ _ hX h.2⟩ : _ ∧ _)))
    simp only [Top.val] at T1 T2 T3
    rw [hx] at T3
    have HX := Lib.hid hx; clear hx
    have HY := Lib.hid hy; clear hy hk1 keep
    go_enter Try.func8, Try.ntmps8
    go_wp2_with fail
    refine (H1.out _ hb0).mono ?_
    rintro e w1 ⟨rfl, hb1, x0, x1, x2, x3, x4, x5, y0, y1, y2, y3, y4, y5⟩
    go_wp2_with fail
    go_region_held3 (fun w' => Below (w.heap.size + 2) W2 w' ∧ w'.cell? ⟨w.heap.size, 1, none⟩ = some (.bool boa) ∧ w'.cell? ⟨w.heap.size + 1, 1, none⟩ = some (.bool bob))
      (first
        | exact ⟨hb1.drew, x1, y1⟩
        | exact ⟨hb2, z1, z2⟩)
      (first
        | (go_at_call 30; with_reducible refine Calls.mono (T1.out _ (by first | exact hb1.drew | exact hb2)) ?_; rintro e w2 ⟨rfl, hb2, z1, z2⟩)
        | (go_at_call 30; with_reducible refine Calls.mono (T2.out _ (by first | exact hb1.drew | exact hb2)) ?_; rintro e w2 ⟨rfl, hb2, z1, z2⟩)
        | (go_at_call 29; with_reducible refine Calls.mono (T3.out _ (by first | exact hb1.drew | exact hb2)) ?_; rintro e w2 ⟨rfl, hb2, z1, z2⟩))
    go_wp2_with fail
    go_ret2
    exact ⟨retTC rfl HY.out.symm, (HBW.out _ hb2).1⟩

  by_cases h24 : ka = 2 ∨ ka = 4
  · rw [if_neg h1, if_pos h24] at hx
    rw [if_pos (Or.inr (Or.inr h24))] at hy
    have HX := Lib.hid hx; clear hx
    have HY := Lib.hid hy; clear hy hk1 h0 h1
    rcases h24 with rfl | rfl
    · have CI := Lib.hid (fun (wX : World) => Try.cmp_Compare_int ia ib wX)
      go_enter Try.func8, Try.ntmps8
      go_wp2_with fail
      refine (H1.out _ hb0).mono ?_
      rintro e w1 ⟨rfl, hb1, x0, x1, x2, x3, x4, x5, y0, y1, y2, y3, y4, y5⟩
      go_wp2_with fail
      refine (CI.out _).mono ?_
      rintro e w3 ⟨rfl, hw3⟩
      rw [hw3]
      clear hw3 w3
      dsimp only
      go_wp2_with fail
      go_ret2
      exact ⟨retTC HX.out.symm HY.out.symm, (HBW.out _ hb1).1⟩
    · have CI := Lib.hid (fun (wX : World) => Try.cmp_Compare_int ia ib wX)
      go_enter Try.func8, Try.ntmps8
      go_wp2_with fail
      refine (H1.out _ hb0).mono ?_
      rintro e w1 ⟨rfl, hb1, x0, x1, x2, x3, x4, x5, y0, y1, y2, y3, y4, y5⟩
      go_wp2_with fail
      refine (CI.out _).mono ?_
      rintro e w3 ⟨rfl, hw3⟩
      rw [hw3]
      clear hw3 w3
      dsimp only
      go_wp2_with fail
      go_ret2
      exact ⟨retTC HX.out.symm HY.out.symm, (HBW.out _ hb1).1⟩
  have hk3 : ¬ (ka = 3 ∨ ka = 7) := by
    rintro (rfl | rfl) <;> exact absurd hk1 (by decide)
  rw [if_neg h1, if_neg h24] at hx
  rw [if_neg (fun h => h.elim h0 (fun h => h.elim h1 h24))] at hy
  have z0 : (ka == 0) = false := by simpa using h0
  have z1 : (ka == 1) = false := by simpa using h1
  have z2 : (ka == 2) = false := by have : ¬ ka = 2 := fun e => h24 (.inl e); simpa using this
  have z4 : (ka == 4) = false := by have : ¬ ka = 4 := fun e => h24 (.inr e); simpa using this
  have HX := Lib.hid hx; clear hx
  have HY := Lib.hid hy; clear hy hk1 h0 h1 h24 hk3
  go_enter Try.func8, Try.ntmps8
  go_wp2_with fail
  refine (H1.out _ hb0).mono ?_
  rintro e w1 ⟨rfl, hb1, x0, x1, x2, x3, x4, x5, y0, y1, y2, y3, y4, y5⟩
  go_wp2_with fail
  go_ret2
  exact ⟨retTC HX.out.symm HY.out.symm, (HBW.out _ hb1).1⟩

set_option maxRecDepth 100000 in
set_option maxHeartbeats 2000000 in
theorem tcompared_any (a b : Top) (w : World) :
    Calls Try.prog 9 #[a.val, b.val] w fun e w' => e = .returned (.tuple #[.int .i64 (tcN a b), .int .i64 (tcE a b)]) ∧ Below w.heap.size w w' := by
  obtain ⟨x, hx⟩ : ∃ x, tcN a b = x := ⟨_, rfl⟩
  obtain ⟨y, hy⟩ : ∃ y, tcE a b = y := ⟨_, rfl⟩
  rw [hx, hy]
  have HB := fun (w1 : World) (h : Below (w.heap.size + 2) ((w.alloc a.box).alloc b.box) w1) => below_box2 h
  have HX := fun (w1 : World) (h : Below (w.heap.size + 2) ((w.alloc a.box).alloc b.box) w1) => boxV12 h
  have hb0 := Below.refl (w.heap.size + 2) ((w.alloc a.box).alloc b.box)
  obtain ⟨b1, hk1⟩ : ∃ b1, isTB a.k = b1 := ⟨_, rfl⟩
  obtain ⟨b2, hk2⟩ : ∃ b2, isTB b.k = b2 := ⟨_, rfl⟩
  have hi1 := fun (wX : World) => isString_any a b1 wX hk1
  have hi2 := fun (wX : World) => isString_any b b2 wX hk2
  unfold tcN at hx
  unfold tcE at hy
  rw [hk1, hk2] at hx hy
  obtain ⟨ka, boa, ia, ta, A1a, n1a, c1a, A2a, n2a, c2a⟩ := a
  obtain ⟨kb, bob, ib, tb, A1b, n1b, c1b, A2b, n2b, c2b⟩ := b
  generalize hW2 : (w.alloc (Top.box ⟨ka, boa, ia, ta, A1a, n1a, c1a, A2a, n2a, c2a⟩)).alloc (Top.box ⟨kb, bob, ib, tb, A1b, n1b, c1b, A2b, n2b, c2b⟩) = W2 at HB HX hb0
  simp only [Top.box] at hW2
  simp only [Top.val] at hi1 hi2 ⊢
  simp only at hx hy hk1 hk2
  unfold Six at HX
  simp only [Nat.zero_add] at HX
  have H1 := Lib.hid (fun wX (hX : Below (w.heap.size + 2) W2 wX) => (hi1 wX).mono (fun e w' h => (⟨h.1, hX.trans (h.2.mono (HB wX hX).2), flat12 (HX _ (hX.trans (h.2.mono (HB wX hX).2)))⟩ : _ ∧ Below (w.heap.size + 2) W2 w' ∧ _)))
  have H2 := Lib.hid (fun wX (hX : Below (w.heap.size + 2) W2 wX) => (hi2 wX).mono (fun e w' h => (⟨h.1, hX.trans (h.2.mono (HB wX hX).2), flat12 (HX _ (hX.trans (h.2.mono (HB wX hX).2)))⟩ : _ ∧ Below (w.heap.size + 2) W2 w' ∧ _)))
  have HBW := Lib.hid HB
  have HXX := Lib.hid (fun w1 h => flat12 (HX w1 h))
  clear HB HX hi1 hi2
  have CS := Lib.hid (fun (a b : ByteArray) (wX : World) => Try.strings_Compare a b wX)
  obtain ⟨x0, x1, x2, x3, x4, x5, y0, y1, y2, y3, y4, y5⟩ := HXX.out _ hb0
  have HW2 := hW2

  by_cases hT : b1 = true ∧ b2 = true
  · obtain ⟨rfl, rfl⟩ := hT
    rw [if_pos ⟨rfl, rfl⟩] at hx hy
    have HX := Lib.hid hx; clear hx
    have HY := Lib.hid hy; clear hy hk1 hk2
    go_enter Try.func9, Try.ntmps9
    go_wp2_with fail
    refine (H1.out _ hb0).mono ?_
    rintro e w1 ⟨rfl, hb1, x0, x1, x2, x3, x4, x5, y0, y1, y2, y3, y4, y5⟩
    go_wp2_with fail
    refine (H2.out _ hb1).mono ?_
    rintro e w2 ⟨rfl, hb2, x0, x1, x2, x3, x4, x5, y0, y1, y2, y3, y4, y5⟩
    go_wp2_with fail
    refine (CS.out _ _ _).mono ?_
    rintro e w3 ⟨rfl, hw3⟩
    rw [hw3]
    clear hw3 w3
    dsimp only
    go_wp2_with fail
    go_ret2
    exact ⟨retTC HX.out.symm HY.out.symm, (HBW.out _ hb2).1⟩
  rw [if_neg hT] at hx hy
  by_cases hne : ka ≠ kb
  · rw [if_pos hne] at hx hy
    have zk : (ka != kb) = true := by simpa using hne
    have HX := Lib.hid hx; clear hx
    have HY := Lib.hid hy; clear hy hne hk1 hk2
    cases b1
    · clear H2 hT
      go_enter Try.func9, Try.ntmps9
      go_wp2_with fail
      refine (H1.out _ hb0).mono ?_
      rintro e w1 ⟨rfl, hb1, x0, x1, x2, x3, x4, x5, y0, y1, y2, y3, y4, y5⟩
      go_wp2_with fail
      go_ret2
      exact ⟨retTC HX.out.symm HY.out.symm, (HBW.out _ hb1).1⟩
    · cases b2
      · clear hT
        go_enter Try.func9, Try.ntmps9
        go_wp2_with fail
        refine (H1.out _ hb0).mono ?_
        rintro e w1 ⟨rfl, hb1, x0, x1, x2, x3, x4, x5, y0, y1, y2, y3, y4, y5⟩
        go_wp2_with fail
        refine (H2.out _ hb1).mono ?_
        rintro e w2 ⟨rfl, hb2, x0, x1, x2, x3, x4, x5, y0, y1, y2, y3, y4, y5⟩
        go_wp2_with fail
        go_ret2
        exact ⟨retTC HX.out.symm HY.out.symm, (HBW.out _ hb2).1⟩
      · exact absurd ⟨rfl, rfl⟩ hT
  rw [if_neg hne] at hx hy
  obtain rfl : ka = kb := Classical.not_not.1 hne
  obtain rfl : b1 = b2 := hk1.symm.trans hk2
  obtain rfl : b1 = false := by
    cases b1
    · rfl
    · exact absurd ⟨rfl, rfl⟩ hT
  clear H2 hT hne hk2
  by_cases h0 : ka = 0
  · subst h0
    rw [if_neg (by decide), if_neg (by decide)] at hx
    rw [if_pos (Or.inl rfl)] at hy
    have HX := Lib.hid hx; clear hx
    have HY := Lib.hid hy; clear hy hk1
    go_enter Try.func9, Try.ntmps9
    go_wp2_with fail
    refine (H1.out _ hb0).mono ?_
    rintro e w1 ⟨rfl, hb1, x0, x1, x2, x3, x4, x5, y0, y1, y2, y3, y4, y5⟩
    go_wp2_with fail
    go_ret2
    exact ⟨retTC HX.out.symm HY.out.symm, (HBW.out _ hb1).1⟩

  by_cases h1 : ka = 1
  · subst h1
    rw [if_pos rfl] at hx
    rw [if_pos (Or.inr (Or.inl rfl))] at hy
    unfold tcB at hx
    clear hk1
    cases boa <;> cases bob <;>
    (simp only [if_true, if_false, reduceCtorEq] at hx hy
     have HX := Lib.hid hx; clear hx
     have HY := Lib.hid hy; clear hy
     go_enter Try.func9, Try.ntmps9
     go_wp2_with fail
     refine (H1.out _ hb0).mono ?_
     rintro e w1 ⟨rfl, hb1, x0, x1, x2, x3, x4, x5, y0, y1, y2, y3, y4, y5⟩
     go_wp2_with fail
     go_ret2
     exact ⟨retTC HX.out.symm HY.out.symm, (HBW.out _ hb1).1⟩)

  by_cases h24 : ka = 2 ∨ ka = 4
  · rw [if_neg h1, if_pos h24] at hx
    rw [if_pos (Or.inr (Or.inr h24))] at hy
    have HX := Lib.hid hx; clear hx
    have HY := Lib.hid hy; clear hy hk1 h0 h1
    rcases h24 with rfl | rfl
    · have CI := Lib.hid (fun (wX : World) => order_any ia ib wX)
      go_enter Try.func9, Try.ntmps9
      go_wp2_with fail
      refine (H1.out _ hb0).mono ?_
      rintro e w1 ⟨rfl, hb1, x0, x1, x2, x3, x4, x5, y0, y1, y2, y3, y4, y5⟩
      go_wp2_with fail
      refine (CI.out _).mono ?_
      rintro e w3 ⟨rfl, rfl⟩
      go_wp2_with fail
      go_ret2
      exact ⟨retTC HX.out.symm HY.out.symm, (HBW.out _ hb1).1⟩
    · have CI := Lib.hid (fun (wX : World) => order_any ia ib wX)
      go_enter Try.func9, Try.ntmps9
      go_wp2_with fail
      refine (H1.out _ hb0).mono ?_
      rintro e w1 ⟨rfl, hb1, x0, x1, x2, x3, x4, x5, y0, y1, y2, y3, y4, y5⟩
      go_wp2_with fail
      refine (CI.out _).mono ?_
      rintro e w3 ⟨rfl, rfl⟩
      go_wp2_with fail
      go_ret2
      exact ⟨retTC HX.out.symm HY.out.symm, (HBW.out _ hb1).1⟩
  have hk3 : ¬ (ka = 3 ∨ ka = 7) := by
    rintro (rfl | rfl) <;> exact absurd hk1 (by decide)
  rw [if_neg h1, if_neg h24] at hx
  rw [if_neg (fun h => h.elim h0 (fun h => h.elim h1 h24))] at hy
  have z0 : (ka == 0) = false := by simpa using h0
  have z1 : (ka == 1) = false := by simpa using h1
  have z2 : (ka == 2) = false := by have : ¬ ka = 2 := fun e => h24 (.inl e); simpa using this
  have z4 : (ka == 4) = false := by have : ¬ ka = 4 := fun e => h24 (.inr e); simpa using this
  have HX := Lib.hid hx; clear hx
  have HY := Lib.hid hy; clear hy hk1 h0 h1 h24 hk3
  go_enter Try.func9, Try.ntmps9
  go_wp2_with fail
  refine (H1.out _ hb0).mono ?_
  rintro e w1 ⟨rfl, hb1, x0, x1, x2, x3, x4, x5, y0, y1, y2, y3, y4, y5⟩
  go_wp2_with fail
  go_ret2
  exact ⟨retTC HX.out.symm HY.out.symm, (HBW.out _ hb1).1⟩

end Go.Proofs.Ytfgekmfkaepgjaa
