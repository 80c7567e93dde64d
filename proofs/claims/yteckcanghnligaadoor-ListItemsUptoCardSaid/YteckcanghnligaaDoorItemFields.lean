/- DERIVED. What list's checkFields returns: the error of one value of an item. Condition: at most 2^40 keys. -/
import Derived.Test.YteckcanghnligaaDoorItemFit
import Derived.BigQuiet
import Derived.Deep.RegionWith
import Derived.Deep.RegionHeld3
namespace Go.Proofs.YteckcanghnligaaDoor
set_option linter.unusedVariables false
open Go.RowKit
/-- A box with a value's cells. -/
def BoxAt (w : World) (b : Nat) (k : Int) (bo : Bool) (i : Int) (t : ByteArray) (v4 v5 : Value) : Prop :=
  w.heap[b]? = some (.cells #[.int .i64 k, .bool bo, .int .i64 i, .string t, v4, v5] 25 (0, 0))
theorem BoxAt.cells {w : World} {b : Nat} {k : Int} {bo : Bool} {i : Int} {t : ByteArray} {v4 v5 : Value} (h : BoxAt w b k bo i t v4 v5) :
    w.cell? ⟨b, 0, none⟩ = some (.int .i64 k) ∧ w.cell? ⟨b, 1, none⟩ = some (.bool bo) ∧ w.cell? ⟨b, 2, none⟩ = some (.int .i64 i) ∧ w.cell? ⟨b, 3, none⟩ = some (.string t) ∧ w.cell? ⟨b, 4, none⟩ = some v4 ∧ w.cell? ⟨b, 5, none⟩ = some v5 := by
  unfold BoxAt at h
  refine ⟨?_, ?_, ?_, ?_, ?_, ?_⟩ <;> (rw [cell_of_row _ _ _ _ _ _ h]; rfl)
theorem BoxAt.frozen {w : World} {b : Nat} {k : Int} {bo : Bool} {i : Int} {t : ByteArray} {v4 v5 : Value} (h : BoxAt w b k bo i t v4 v5) (j : Nat) : w.frozen? ⟨b, j, none⟩ = false := by
  unfold BoxAt at h
  simp [World.frozen?, h]
theorem block_set' {w : World} {b : Nat} {cs : Array Value} {t : TypeId} (h : w.heap[b]? = some (.cells cs t (0, 0))) {i : Nat} {v : Value} : (w.setCell ⟨b, i, none⟩ v).heap[b]? = some (.cells (cs.setIfInBounds i v) t (0, 0)) := by
  simp [World.setCell, Array.getElem?_modify, h]
theorem BoxAt.set0 {w : World} {b : Nat} {k : Int} {bo : Bool} {i : Int} {t : ByteArray} {v4 v5 : Value} (h : BoxAt w b k bo i t v4 v5) (x : Int) : BoxAt (w.setCell ⟨b, 0, none⟩ (.int .i64 x)) b x bo i t v4 v5 := block_set' h
theorem BoxAt.set4 {w : World} {b : Nat} {k : Int} {bo : Bool} {i : Int} {t : ByteArray} {v4 v5 : Value} (h : BoxAt w b k bo i t v4 v5) (x : Value) : BoxAt (w.setCell ⟨b, 4, none⟩ x) b k bo i t x v5 := block_set' h
theorem BoxAt.set5 {w : World} {b : Nat} {k : Int} {bo : Bool} {i : Int} {t : ByteArray} {v4 v5 : Value} (h : BoxAt w b k bo i t v4 v5) (x : Value) : BoxAt (w.setCell ⟨b, 5, none⟩ x) b k bo i t v4 x := block_set' h
theorem BoxAt.keep {w w1 : World} {B b : Nat} {k : Int} {bo : Bool} {i : Int} {t : ByteArray} {v4 v5 : Value} (h : BoxAt w b k bo i t v4 v5) (hb : Below B w w1) (hB : b < B) : BoxAt w1 b k bo i t v4 v5 := (hb.block b hB).trans h
theorem below_set {w w1 : World} {B b : Nat} (h : Below B w w1) (hb : B ≤ b) (j : Nat) (v : Value) : Below B w (w1.setCell ⟨b, j, none⟩ v) := h.setCell hb v
theorem alloc_cell0 (w : World) (v : Value) (t : TypeId) {b : Nat} (h : b = w.heap.size) : (w.alloc (.cells #[v] t)).cell? ⟨b, 0 + 0, none⟩ = some v := by
  subst h
  rw [cell_of_row _ _ _ _ _ _ (heap_alloc_new w _)]; rfl
theorem BoxAt.new (w : World) (k : Int) (bo : Bool) (i : Int) (t : ByteArray) (v4 v5 : Value) : BoxAt (w.alloc (.cells #[.int .i64 k, .bool bo, .int .i64 i, .string t, v4, v5] 25)) w.heap.size k bo i t v4 v5 := heap_alloc_new w _
set_option maxRecDepth 100000 in
set_option maxHeartbeats 3200000 in
theorem lFields_any (k : Int) (bo : Bool) (i : Int) (t : ByteArray) (A1 : Option Addr) (n1 c1 : Nat) (A2 : Option Addr) (n2 c2 : Nat) (items : Vals) (keys : List ByteArray) (w : World)
    (hv : VOk w w.heap.size k i t A1 n1 c1 A2 n2 c2 items keys) (hn : n2 ≤ 1099511627776) :
    Calls Tryd.prog 8 #[.agg #[.int .i64 k, .bool bo, .int .i64 i, .string t, .slice A1 n1 c1, .slice A2 n2 c2]] w
      fun e w' => e = .returned (.int .i64 (valErr leS (sk k) bo i t n1 keys)) ∧ Below w.heap.size w w' := by
  have HK := Lib.hid (fun wX (hX : Below w.heap.size w wX) => lKeys_any keys A2 n2 c2 wX hn ((hv.ks.below hX).more hX.size))
  obtain ⟨q, hq⟩ : ∃ q, sk k = q := ⟨_, rfl⟩
  have hqw : (Lit.int .i64 q).wf = true := by
    rw [← hq]
    have := hv.kwf
    unfold sk
    split
    · rfl
    · exact this
  have HV := Lib.hid (show valErr leS (sk k) bo i t n1 keys = if valErr leS q bo i t 0 (fitKeys (fitB q n1 n2)) ≠ 0 then valErr leS q bo i t 0 (fitKeys (fitB q n1 n2)) else keysErr leS none keys by
    rw [hq, hv.ks.1]; exact valErr_parts leS q bo i t n1 keys)
  obtain ⟨W2, hW2⟩ : ∃ W2, w.alloc (.cells #[.int .i64 q, .bool bo, .int .i64 i, .string t, .slice A1 n1 c1, .slice A2 n2 c2] 25) = W2 := ⟨_, rfl⟩
  have hBox : BoxAt W2 w.heap.size q bo i t (.slice A1 n1 c1) (.slice A2 n2 c2) := by rw [← hW2]; exact BoxAt.new w q bo i t _ _
  have hsz2 : W2.heap.size = w.heap.size + 1 := by rw [← hW2]; simp
  have hb02 : Below w.heap.size w W2 := by rw [← hW2]; exact (Below.refl w.heap.size w).alloc (Nat.le_refl _) _
  -- what is checked without keys and items
  obtain ⟨f, hf⟩ : ∃ f, fitB q n1 n2 = f := ⟨_, rfl⟩
  obtain ⟨x, hx⟩ : ∃ x, valErr leS q bo i t 0 (fitKeys f) = x := ⟨_, rfl⟩
  have hfit := fun wX => lFit_any q bo i t A1 n1 c1 A2 n2 c2 wX
  rw [hf] at hfit HV
  rw [hx] at HV
  have HF := Lib.hid (fun wX (hX : Below (w.heap.size + 1) W2 wX) => (hfit wX).mono (R' := fun e w' => e = .returned (.bool f) ∧ Below (w.heap.size + 1) W2 w' ∧ w'.cell? ⟨w.heap.size, 0, none⟩ = some (.int .i64 q) ∧ w'.cell? ⟨w.heap.size, 1, none⟩ = some (.bool bo) ∧ w'.cell? ⟨w.heap.size, 2, none⟩ = some (.int .i64 i) ∧ w'.cell? ⟨w.heap.size, 3, none⟩ = some (.string t) ∧ w'.cell? ⟨w.heap.size, 4, none⟩ = some (.slice A1 n1 c1) ∧ w'.cell? ⟨w.heap.size, 5, none⟩ = some (.slice A2 n2 c2)) (fun e w' h => by
    have hb := hX.trans (h.2.mono (by have := hX.size; omega))
    exact ⟨h.1, hb, (hBox.keep hb (by omega)).cells⟩))
  have hts := hv.ts
  have hiw := hv.iwf
  have hcc := (fun (wX : World) => fun (A : Option Addr) (n c : Nat) (hka : KeysAt wX wX.heap.size (fitKeys f) A n) (hnc : n ≤ c) (hcm : c ≤ maxLen) (hn1 : n ≤ 1) =>
    confCheck_any q bo i t none 0 0 A n c .nil (fitKeys f) wX ⟨Nat.le_refl _, Nat.zero_le _, hnc, hcm, hqw, hiw, hts, rfl, hka⟩ (by decide) (by decide) (by omega))
  simp only [confErr_nil, hx] at hcc
  have HC := Lib.hid hcc; clear hcc
  have HB2 := Lib.hid (And.intro hb02 hsz2)
  have HBX := Lib.hid hBox
  have HW2 := Lib.hid hW2
  clear hv hn hBox hsz2 hb02 hx hfit hts hiw
  -- the walk, from the two states of the kind
  have hm := fun wX => str_make1 wX
  rcases (show (k = 7 ∧ q = 3) ∨ (k = 8 ∧ q = 3) ∨ ((k == 7) = false ∧ (k == 8) = false ∧ q = k) by
    rw [← hq]
    unfold sk
    by_cases h7 : k = 7
    · exact .inl ⟨h7, by rw [if_pos (.inl h7)]⟩
    · by_cases h8 : k = 8
      · exact .inr (.inl ⟨h8, by rw [if_pos (.inr h8)]⟩)
      · exact .inr (.inr ⟨by simpa using h7, by simpa using h8, by rw [if_neg (by simp [h7, h8])]⟩)) with ⟨rfl, rfl⟩ | ⟨rfl, rfl⟩ | ⟨e7, e8, rfl⟩
  · obtain ⟨y0, y1, y2, y3, y4, y5⟩ := HBX.out.cells
    go_enter Tryd.func8, Tryd.ntmps8
    go_wp2_with fail
    go_region_held3 (fun w' => Below (w.heap.size + 1) W2 w' ∧ w'.cell? ⟨w.heap.size, 0, none⟩ = some (.int .i64 3) ∧ w'.cell? ⟨w.heap.size, 1, none⟩ = some (.bool bo) ∧ w'.cell? ⟨w.heap.size, 2, none⟩ = some (.int .i64 i) ∧ w'.cell? ⟨w.heap.size, 3, none⟩ = some (.string t) ∧ w'.cell? ⟨w.heap.size, 4, none⟩ = some (.slice A1 n1 c1) ∧ w'.cell? ⟨w.heap.size, 5, none⟩ = some (.slice A2 n2 c2))
      (first | exact ⟨(Below.refl _ _).drew, y0, y1, y2, y3, y4, y5⟩ | exact ⟨hb3, z0, z1, z2, z3, z4, z5⟩)
      (first | (go_at_call 16; with_reducible refine Calls.mono (HF.out _ (by first | exact (Below.refl _ _).drew | exact hb3)) ?_; rintro e w3 ⟨rfl, hb3, z0, z1, z2, z3, z4, z5⟩))
    have hbox3 := HBX.out.keep hb3 (by omega)
    have hw3 : w.heap.size < w3.heap.size := by have := hb3.size; have := HB2.out.2; omega
    have gf4 := hbox3.frozen 4
    have gf5 := hbox3.frozen 5
    have HX3 := Lib.hid hbox3; clear hbox3
    have hb03 : Below w.heap.size w w3 := HB2.out.1.trans (hb3.mono (by omega))
    cases f with
    | true =>
      have hbX := below_set (below_set hb03 (Nat.le_refl _) 5 (.slice none 0 0)) (Nat.le_refl _) 4 (.slice none 0 0)
      have HBX2 := Lib.hid hbX; clear hbX
      go_wp2_with fail
      refine (HC.out _ none 0 0 ⟨rfl, fun s h => (by cases h), fun h => absurd h (by omega)⟩ (Nat.le_refl _) (Nat.zero_le _) (by omega)).mono ?_
      rintro e w4 ⟨rfl, hb4⟩
      have hb04 := HBX2.out.trans (hb4.mono HBX2.out.size)
      clear hb4
      by_cases hx0 : x = 0
      · subst hx0
        go_wp2_with fail
        refine (HK.out _ hb04).mono ?_
        rintro e w5 ⟨rfl, hb5⟩
        go_wp2_with fail
        go_ret
        exact ⟨retI (by rw [HV.out]; simp), hb04.trans (hb5.mono hb04.size)⟩
      · go_wp2_with fail
        go_ret
        exact ⟨retI (by rw [HV.out, if_pos hx0]), hb04⟩
    | false =>
      have hbX := (below_set (below_set (below_set hb03 (Nat.le_refl _) 5 (.slice none 0 0)) (Nat.le_refl _) 4 (.slice none 0 0)) (Nat.le_refl _) 5 (.slice (some ⟨w3.heap.size, 0, none⟩) 1 1)).alloc (by simp; omega) (.cells #[.string ⟨#[]⟩] 9)
      have HBX2 := Lib.hid hbX; clear hbX
      go_wp2_with fail
      refine (HC.out _ (some ⟨w3.heap.size, 0, none⟩) 1 1 ⟨rfl, fun s h => (by rw [List.mem_singleton.1 h]; exact Nat.zero_le _), fun _ => ⟨w3.heap.size, 0, rfl, by simp, fun j s hj => ?cellj⟩⟩ (Nat.le_refl _) (by unfold maxLen; omega) (by omega)).mono ?_
      case cellj =>
        match j, hj with
        | 0, hj =>
          have hs : s = ⟨#[]⟩ := by simpa [fitKeys] using hj.symm
          rw [hs]
          exact alloc_cell0 _ _ _ (by simp)
        | j + 1, hj => simp [fitKeys] at hj
      rintro e w4 ⟨rfl, hb4⟩
      have hb04 := HBX2.out.trans (hb4.mono HBX2.out.size)
      clear hb4
      by_cases hx0 : x = 0
      · subst hx0
        go_wp2_with fail
        refine (HK.out _ hb04).mono ?_
        rintro e w5 ⟨rfl, hb5⟩
        go_wp2_with fail
        go_ret
        exact ⟨retI (by rw [HV.out]; simp), hb04.trans (hb5.mono hb04.size)⟩
      · go_wp2_with fail
        go_ret
        exact ⟨retI (by rw [HV.out, if_pos hx0]), hb04⟩
  · obtain ⟨y0, y1, y2, y3, y4, y5⟩ := HBX.out.cells
    go_enter Tryd.func8, Tryd.ntmps8
    go_wp2_with fail
    go_region_held3 (fun w' => Below (w.heap.size + 1) W2 w' ∧ w'.cell? ⟨w.heap.size, 0, none⟩ = some (.int .i64 3) ∧ w'.cell? ⟨w.heap.size, 1, none⟩ = some (.bool bo) ∧ w'.cell? ⟨w.heap.size, 2, none⟩ = some (.int .i64 i) ∧ w'.cell? ⟨w.heap.size, 3, none⟩ = some (.string t) ∧ w'.cell? ⟨w.heap.size, 4, none⟩ = some (.slice A1 n1 c1) ∧ w'.cell? ⟨w.heap.size, 5, none⟩ = some (.slice A2 n2 c2))
      (first | exact ⟨(Below.refl _ _).drew, y0, y1, y2, y3, y4, y5⟩ | exact ⟨hb3, z0, z1, z2, z3, z4, z5⟩)
      (first | (go_at_call 16; with_reducible refine Calls.mono (HF.out _ (by first | exact (Below.refl _ _).drew | exact hb3)) ?_; rintro e w3 ⟨rfl, hb3, z0, z1, z2, z3, z4, z5⟩))
    have hbox3 := HBX.out.keep hb3 (by omega)
    have hw3 : w.heap.size < w3.heap.size := by have := hb3.size; have := HB2.out.2; omega
    have gf4 := hbox3.frozen 4
    have gf5 := hbox3.frozen 5
    have HX3 := Lib.hid hbox3; clear hbox3
    have hb03 : Below w.heap.size w w3 := HB2.out.1.trans (hb3.mono (by omega))
    cases f with
    | true =>
      have hbX := below_set (below_set hb03 (Nat.le_refl _) 5 (.slice none 0 0)) (Nat.le_refl _) 4 (.slice none 0 0)
      have HBX2 := Lib.hid hbX; clear hbX
      go_wp2_with fail
      refine (HC.out _ none 0 0 ⟨rfl, fun s h => (by cases h), fun h => absurd h (by omega)⟩ (Nat.le_refl _) (Nat.zero_le _) (by omega)).mono ?_
      rintro e w4 ⟨rfl, hb4⟩
      have hb04 := HBX2.out.trans (hb4.mono HBX2.out.size)
      clear hb4
      by_cases hx0 : x = 0
      · subst hx0
        go_wp2_with fail
        refine (HK.out _ hb04).mono ?_
        rintro e w5 ⟨rfl, hb5⟩
        go_wp2_with fail
        go_ret
        exact ⟨retI (by rw [HV.out]; simp), hb04.trans (hb5.mono hb04.size)⟩
      · go_wp2_with fail
        go_ret
        exact ⟨retI (by rw [HV.out, if_pos hx0]), hb04⟩
    | false =>
      have hbX := (below_set (below_set (below_set hb03 (Nat.le_refl _) 5 (.slice none 0 0)) (Nat.le_refl _) 4 (.slice none 0 0)) (Nat.le_refl _) 5 (.slice (some ⟨w3.heap.size, 0, none⟩) 1 1)).alloc (by simp; omega) (.cells #[.string ⟨#[]⟩] 9)
      have HBX2 := Lib.hid hbX; clear hbX
      go_wp2_with fail
      refine (HC.out _ (some ⟨w3.heap.size, 0, none⟩) 1 1 ⟨rfl, fun s h => (by rw [List.mem_singleton.1 h]; exact Nat.zero_le _), fun _ => ⟨w3.heap.size, 0, rfl, by simp, fun j s hj => ?cellj⟩⟩ (Nat.le_refl _) (by unfold maxLen; omega) (by omega)).mono ?_
      case cellj =>
        match j, hj with
        | 0, hj =>
          have hs : s = ⟨#[]⟩ := by simpa [fitKeys] using hj.symm
          rw [hs]
          exact alloc_cell0 _ _ _ (by simp)
        | j + 1, hj => simp [fitKeys] at hj
      rintro e w4 ⟨rfl, hb4⟩
      have hb04 := HBX2.out.trans (hb4.mono HBX2.out.size)
      clear hb4
      by_cases hx0 : x = 0
      · subst hx0
        go_wp2_with fail
        refine (HK.out _ hb04).mono ?_
        rintro e w5 ⟨rfl, hb5⟩
        go_wp2_with fail
        go_ret
        exact ⟨retI (by rw [HV.out]; simp), hb04.trans (hb5.mono hb04.size)⟩
      · go_wp2_with fail
        go_ret
        exact ⟨retI (by rw [HV.out, if_pos hx0]), hb04⟩
  · obtain ⟨y0, y1, y2, y3, y4, y5⟩ := HBX.out.cells
    go_enter Tryd.func8, Tryd.ntmps8
    go_wp2_with fail
    go_region_held3 (fun w' => Below (w.heap.size + 1) W2 w' ∧ w'.cell? ⟨w.heap.size, 0, none⟩ = some (.int .i64 q) ∧ w'.cell? ⟨w.heap.size, 1, none⟩ = some (.bool bo) ∧ w'.cell? ⟨w.heap.size, 2, none⟩ = some (.int .i64 i) ∧ w'.cell? ⟨w.heap.size, 3, none⟩ = some (.string t) ∧ w'.cell? ⟨w.heap.size, 4, none⟩ = some (.slice A1 n1 c1) ∧ w'.cell? ⟨w.heap.size, 5, none⟩ = some (.slice A2 n2 c2))
      (first | exact ⟨(Below.refl _ _).drew, y0, y1, y2, y3, y4, y5⟩ | exact ⟨hb3, z0, z1, z2, z3, z4, z5⟩)
      (first | (go_at_call 16; with_reducible refine Calls.mono (HF.out _ (by first | exact (Below.refl _ _).drew | exact hb3)) ?_; rintro e w3 ⟨rfl, hb3, z0, z1, z2, z3, z4, z5⟩))
    have hbox3 := HBX.out.keep hb3 (by omega)
    have hw3 : w.heap.size < w3.heap.size := by have := hb3.size; have := HB2.out.2; omega
    have gf4 := hbox3.frozen 4
    have gf5 := hbox3.frozen 5
    have HX3 := Lib.hid hbox3; clear hbox3
    have hb03 : Below w.heap.size w w3 := HB2.out.1.trans (hb3.mono (by omega))
    cases f with
    | true =>
      have hbX := below_set (below_set hb03 (Nat.le_refl _) 5 (.slice none 0 0)) (Nat.le_refl _) 4 (.slice none 0 0)
      have HBX2 := Lib.hid hbX; clear hbX
      go_wp2_with fail
      refine (HC.out _ none 0 0 ⟨rfl, fun s h => (by cases h), fun h => absurd h (by omega)⟩ (Nat.le_refl _) (Nat.zero_le _) (by omega)).mono ?_
      rintro e w4 ⟨rfl, hb4⟩
      have hb04 := HBX2.out.trans (hb4.mono HBX2.out.size)
      clear hb4
      by_cases hx0 : x = 0
      · subst hx0
        go_wp2_with fail
        refine (HK.out _ hb04).mono ?_
        rintro e w5 ⟨rfl, hb5⟩
        go_wp2_with fail
        go_ret
        exact ⟨retI (by rw [HV.out]; simp), hb04.trans (hb5.mono hb04.size)⟩
      · go_wp2_with fail
        go_ret
        exact ⟨retI (by rw [HV.out, if_pos hx0]), hb04⟩
    | false =>
      have hbX := (below_set (below_set (below_set hb03 (Nat.le_refl _) 5 (.slice none 0 0)) (Nat.le_refl _) 4 (.slice none 0 0)) (Nat.le_refl _) 5 (.slice (some ⟨w3.heap.size, 0, none⟩) 1 1)).alloc (by simp; omega) (.cells #[.string ⟨#[]⟩] 9)
      have HBX2 := Lib.hid hbX; clear hbX
      go_wp2_with fail
      refine (HC.out _ (some ⟨w3.heap.size, 0, none⟩) 1 1 ⟨rfl, fun s h => (by rw [List.mem_singleton.1 h]; exact Nat.zero_le _), fun _ => ⟨w3.heap.size, 0, rfl, by simp, fun j s hj => ?cellj⟩⟩ (Nat.le_refl _) (by unfold maxLen; omega) (by omega)).mono ?_
      case cellj =>
        match j, hj with
        | 0, hj =>
          have hs : s = ⟨#[]⟩ := by simpa [fitKeys] using hj.symm
          rw [hs]
          exact alloc_cell0 _ _ _ (by simp)
        | j + 1, hj => simp [fitKeys] at hj
      rintro e w4 ⟨rfl, hb4⟩
      have hb04 := HBX2.out.trans (hb4.mono HBX2.out.size)
      clear hb4
      by_cases hx0 : x = 0
      · subst hx0
        go_wp2_with fail
        refine (HK.out _ hb04).mono ?_
        rintro e w5 ⟨rfl, hb5⟩
        go_wp2_with fail
        go_ret
        exact ⟨retI (by rw [HV.out]; simp), hb04.trans (hb5.mono hb04.size)⟩
      · go_wp2_with fail
        go_ret
        exact ⟨retI (by rw [HV.out, if_pos hx0]), hb04⟩
end Go.Proofs.YteckcanghnligaaDoor
