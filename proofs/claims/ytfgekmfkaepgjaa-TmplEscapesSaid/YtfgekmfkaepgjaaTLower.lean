/- DERIVED. Small letters of a string, and whether an address has no scheme that can do harm, in the program and in the reference. Condition: at most 200000 bytes. -/
import Derived.Test.YtfgekmfkaepgjaaTBytes
import Derived.Laws.IdiomStrings
import Derived.WalkLawsBesides
import Derived.Shelf.Strings.BuilderK
namespace Go.Proofs.Ytfgekmfkaepgjaa
set_option linter.unusedVariables false
open Go.RowKit
def low1 (c : UInt8) : UInt8 := if 65 ≤ c.toNat ∧ c.toNat ≤ 90 then UInt8.ofNat (c.toNat + 32) else c
def lowL (l : List UInt8) : List UInt8 := l.map low1
theorem low1_int {c : UInt8} (h1 : 65 ≤ (c.toNat : Int)) (h2 : (c.toNat : Int) ≤ 90) : ((low1 c).toNat : Int) = c.toNat + 32 := by
  unfold low1
  rw [if_pos (by omega), UInt8.toNat_ofNat_of_lt' (by unfold UInt8.size; omega)]
  omega
theorem low1_same {c : UInt8} (h : ¬ (65 ≤ (c.toNat : Int) ∧ (c.toNat : Int) ≤ 90)) : low1 c = c := by
  unfold low1
  rw [if_neg (by omega)]
/-- What the row of bytes holds after k rounds. -/
def rowAt (s : ByteArray) (k j : Nat) : UInt8 := if j < k then low1 (s.data.toList.getD j 0) else s.data.toList.getD j 0
theorem getD_at (s : ByteArray) (j : Nat) (h : j < s.size) : s.data.toList[j]? = some (s.data.toList.getD j 0) := by
  rw [List.getD_eq_getElem?_getD, Lib.data_getElem? s j h]
  rfl
theorem bytesRow_get (s : ByteArray) (cap j : Nat) (h : j < s.size) : (bytesRow s cap)[j]? = some (.int .u8 (s.data.toList.getD j 0).toNat) := by
  unfold bytesRow
  have hj : j < s.data.size := h
  rw [Array.getElem?_append_left (by simpa using hj)]
  have e : s.data.toList.getD j 0 = s.data[j] := by
    rw [List.getD_eq_getElem?_getD, Array.getElem?_toList, Array.getElem?_eq_getElem hj]
    rfl
  rw [e]
  simp
  exact ⟨_, Array.getElem?_eq_getElem hj, rfl⟩
theorem bytesRow_size (s : ByteArray) (cap : Nat) : s.size ≤ (bytesRow s cap).size := by
  unfold bytesRow
  show s.data.size ≤ _
  rw [Array.size_append, Array.size_map]
  omega
theorem lowL_row (s : ByteArray) : ∀ j (hj : j < (lowL s.data.toList).length), (lowL s.data.toList)[j] = rowAt s s.size j := by
  intro j hj
  have hj2 : j < s.size := by unfold lowL at hj; simpa using hj
  have h2 : (lowL s.data.toList)[j]? = some (rowAt s s.size j) := by
    unfold lowL rowAt
    rw [List.getElem?_map, getD_at s j hj2, if_pos hj2]
    rfl
  exact (List.getElem?_eq_some_iff.1 h2).2

set_option maxRecDepth 100000 in
set_option maxHeartbeats 2000000 in
theorem shifted_any (s : ByteArray) (w : World) (hs : s.size ≤ 200000) :
    Calls Try.prog 52 #[.string s, .int .u8 65, .int .u8 97] w fun e w' => e = .returned (.string ⟨(lowL s.data.toList).toArray⟩) ∧ Below w.heap.size w w' := by
  have hcv := run_bytes_of_string (P := Try.prog) w 9 37 5 s Try.underlying9 Try.underlying37 Try.underlying5
  obtain ⟨row, hrow⟩ : ∃ row, bytesRow s (grownCap w s.size 0 5) = row := ⟨_, rfl⟩
  have hr0 : ∀ j, j < s.size → row[j]? = some (.int .u8 (s.data.toList.getD j 0).toNat) := fun j hj => by rw [← hrow]; exact bytesRow_get s _ j hj
  have hr1 : s.size ≤ row.size := by rw [← hrow]; exact bytesRow_size s _
  rw [hrow] at hcv
  generalize grownCap w s.size 0 5 = cap at hcv
  clear hrow
  have hb1 : Below w.heap.size w (w.drew.alloc (.cells row 5 (row.size, row.size + 1))) := (Below.refl _ _).drew.alloc (Nat.le_refl _) _
  have e1 : (w.drew.alloc (.cells row 5 (row.size, row.size + 1))).heap[w.heap.size]? = some (.cells row 5 (row.size, row.size + 1)) := heap_alloc_new w.drew _
  generalize w.drew.alloc (.cells row 5 (row.size, row.size + 1)) = w1 at hcv hb1 e1
  have c0 : ∀ j, j < s.size → w1.cell? ⟨w.heap.size, j, none⟩ = some (.int .u8 (rowAt s 0 j).toNat) := fun j hj => by
    rw [cell_of_row _ _ _ _ _ _ e1, hr0 j hj]
    unfold rowAt
    rw [if_neg (by omega)]
  have f0 : ∀ j, j < s.size → w1.frozen? ⟨w.heap.size, j, none⟩ = false := fun j hj => by
    unfold World.frozen?
    simp only [e1]
    show (decide (row.size ≤ j) && decide (j < row.size + 1)) = false
    rw [decide_eq_false (by omega)]
    rfl
  clear e1 hr0 hr1
  have HB := Lib.hid hb1; clear hb1
  have HC := Lib.hid c0; clear c0
  have HF := Lib.hid f0; clear f0
  go_enter Try.func52, Try.ntmps52
  go_wp2_with fail
  go_loopw [14] (fun i wr => ∃ k : Nat, k ≤ s.size ∧ i = .int .i64 k ∧ (∀ j, j < s.size → wr.cell? ⟨w.heap.size, j, none⟩ = some (.int .u8 (rowAt s k j).toNat)) ∧ (∀ j, j < s.size → wr.frozen? ⟨w.heap.size, j, none⟩ = false) ∧ Below w.heap.size w wr) (fun i _ => s.size - (intOf i).toNat)
  case atStart => exact ⟨0, by omega, rfl, HC.out, HF.out, HB.out⟩
  case round =>
    clear hcv HB HC HF
    obtain ⟨k, hk, rfl, hc, hf, hb⟩ := hrel
    have HBW := Lib.hid hb; clear hb
    by_cases hlt : k < s.size
    · have g0 := hc k hlt
      have g1 := hf k hlt
      have hrow : rowAt s k k = s.data.toList.getD k 0 := by unfold rowAt; rw [if_neg (by omega)]
      rw [hrow] at g0
      have HC := Lib.hid hc; clear hc
      have HF := Lib.hid hf; clear hf
      generalize hcc : s.data.toList.getD k 0 = c at g0 hrow
      have HCC := Lib.hid hcc; clear hcc hrow
      have step : ∀ j, rowAt s (k + 1) j = if j = k then low1 c else rowAt s k j := fun j => by
        unfold rowAt
        by_cases h : j = k
        · subst h; rw [if_pos (by omega), if_pos rfl, HCC.out]
        · rw [if_neg h]
          by_cases h2 : j < k
          · rw [if_pos h2, if_pos (by omega)]
          · rw [if_neg h2, if_neg (by omega)]
      have HST := Lib.hid step; clear step
      have hc255 := c.toNat_lt
      by_cases hu : 65 ≤ (c.toNat : Int) ∧ (c.toNat : Int) ≤ 90
      · obtain ⟨h1, h2⟩ := hu
        have h3 : (c.toNat : Int) < 91 := by omega
        have HU := Lib.hid (low1_int h1 h2)
        go_wp2_with fail
        go_roundw
        case rel =>
          refine ⟨k + 1, by omega, by go_num, fun j hj => ?_, fun j hj => ?_, HBW.out.setCell (p := ⟨w.heap.size, k, none⟩) (Nat.le_refl _) _⟩
          · rw [HST.out j]
            by_cases hjk : j = k
            · subst hjk
              rw [if_pos rfl, HU.out]
              first | exact World.cell?_setCell_same _ _ _ g0 | (rw [World.cell?_setCell_same _ _ _ g0]; exact congrArg (fun x => some (Value.int .u8 x)) (by omega))
            · rw [if_neg hjk, World.cell?_setCell_other _ _ _ _ (fun e => hjk (congrArg Addr.off e).symm)]
              exact HC.out j hj
          · simpa using HF.out j hj
        case measure => simp [intOf]; omega
      · have HU := Lib.hid (low1_same hu)
        by_cases h1 : 65 ≤ (c.toNat : Int)
        · have h2 : ¬ (c.toNat : Int) < 91 := fun h => hu ⟨h1, by omega⟩
          have h3 : ¬ (c.toNat : Int) ≤ 90 := fun h => hu ⟨h1, h⟩
          have h4 : decide ((c.toNat : Int) < 91) = false := decide_eq_false h2
          have h5 : decide ((c.toNat : Int) ≤ 90) = false := decide_eq_false h3
          clear hu
          go_wp2_with fail
          go_roundw
          case rel =>
            refine ⟨k + 1, by omega, by go_num, fun j hj => ?_, HF.out, HBW.out⟩
            rw [HST.out j]
            by_cases hjk : j = k
            · subst hjk
              rw [if_pos rfl, HU.out]
              exact g0
            · rw [if_neg hjk]
              exact HC.out j hj
          case measure => simp [intOf]; omega
        · clear hu
          go_wp2_with fail
          go_roundw
          case rel =>
            refine ⟨k + 1, by omega, by go_num, fun j hj => ?_, HF.out, HBW.out⟩
            rw [HST.out j]
            by_cases hjk : j = k
            · subst hjk
              rw [if_pos rfl, HU.out]
              exact g0
            · rw [if_neg hjk]
              exact HC.out j hj
          case measure => simp [intOf]; omega
    · obtain rfl : k = s.size := by omega
      have hback := run_convert_bytes_back (P := Try.prog) wr 37 9 5 ⟨w.heap.size, 0, none⟩ cap (lowL s.data.toList) Try.underlying37 Try.underlying5 Try.underlying9 (fun j hj => by
        have hj2 : j < s.size := by unfold lowL at hj; simpa using hj
        have := hc j hj2
        rw [lowL_row s j hj]
        by_cases hj0 : j = 0
        · subst hj0; simpa [Addr.add] using this
        · simpa [Addr.add, hj0] using this)
      have hl : (lowL s.data.toList).length = s.size := by unfold lowL; simp
      rw [hl] at hback
      clear hc hf hl
      go_wp2_with fail
      go_ret
      exact ⟨rfl, HBW.out⟩

set_option maxRecDepth 100000 in
set_option maxHeartbeats 2000000 in
theorem lowerR_any (s : ByteArray) (w : World) (hs : s.size ≤ 200000) :
    Calls Try.prog 43 #[.string s] w fun e w' => e = .returned (.string ⟨(lowL s.data.toList).toArray⟩) ∧ Below w.heap.size w w' := by
  have hcv := run_bytes_of_string (P := Try.prog) w 9 37 5 s Try.underlying9 Try.underlying37 Try.underlying5
  obtain ⟨row, hrow⟩ : ∃ row, bytesRow s (grownCap w s.size 0 5) = row := ⟨_, rfl⟩
  have hr0 : ∀ j, j < s.size → row[j]? = some (.int .u8 (s.data.toList.getD j 0).toNat) := fun j hj => by rw [← hrow]; exact bytesRow_get s _ j hj
  have hr1 : s.size ≤ row.size := by rw [← hrow]; exact bytesRow_size s _
  rw [hrow] at hcv
  generalize grownCap w s.size 0 5 = cap at hcv
  clear hrow
  have hb1 : Below w.heap.size w (w.drew.alloc (.cells row 5 (row.size, row.size + 1))) := (Below.refl _ _).drew.alloc (Nat.le_refl _) _
  have e1 : (w.drew.alloc (.cells row 5 (row.size, row.size + 1))).heap[w.heap.size]? = some (.cells row 5 (row.size, row.size + 1)) := heap_alloc_new w.drew _
  generalize w.drew.alloc (.cells row 5 (row.size, row.size + 1)) = w1 at hcv hb1 e1
  have c0 : ∀ j, j < s.size → w1.cell? ⟨w.heap.size, j, none⟩ = some (.int .u8 (rowAt s 0 j).toNat) := fun j hj => by
    rw [cell_of_row _ _ _ _ _ _ e1, hr0 j hj]
    unfold rowAt
    rw [if_neg (by omega)]
  have f0 : ∀ j, j < s.size → w1.frozen? ⟨w.heap.size, j, none⟩ = false := fun j hj => by
    unfold World.frozen?
    simp only [e1]
    show (decide (row.size ≤ j) && decide (j < row.size + 1)) = false
    rw [decide_eq_false (by omega)]
    rfl
  clear e1 hr0 hr1
  have HB := Lib.hid hb1; clear hb1
  have HC := Lib.hid c0; clear c0
  have HF := Lib.hid f0; clear f0
  go_enter Try.func43, Try.ntmps43
  go_wp2_with fail
  go_loopw [10] (fun i wr => ∃ k : Nat, k ≤ s.size ∧ i = .int .i64 k ∧ (∀ j, j < s.size → wr.cell? ⟨w.heap.size, j, none⟩ = some (.int .u8 (rowAt s k j).toNat)) ∧ (∀ j, j < s.size → wr.frozen? ⟨w.heap.size, j, none⟩ = false) ∧ Below w.heap.size w wr) (fun i _ => s.size - (intOf i).toNat)
  case atStart => exact ⟨0, by omega, rfl, HC.out, HF.out, HB.out⟩
  case round =>
    clear hcv HB HC HF
    obtain ⟨k, hk, rfl, hc, hf, hb⟩ := hrel
    have HBW := Lib.hid hb; clear hb
    by_cases hlt : k < s.size
    · have g0 := hc k hlt
      have g1 := hf k hlt
      have hrow : rowAt s k k = s.data.toList.getD k 0 := by unfold rowAt; rw [if_neg (by omega)]
      rw [hrow] at g0
      have HC := Lib.hid hc; clear hc
      have HF := Lib.hid hf; clear hf
      generalize hcc : s.data.toList.getD k 0 = c at g0 hrow
      have HCC := Lib.hid hcc; clear hcc hrow
      have step : ∀ j, rowAt s (k + 1) j = if j = k then low1 c else rowAt s k j := fun j => by
        unfold rowAt
        by_cases h : j = k
        · subst h; rw [if_pos (by omega), if_pos rfl, HCC.out]
        · rw [if_neg h]
          by_cases h2 : j < k
          · rw [if_pos h2, if_pos (by omega)]
          · rw [if_neg h2, if_neg (by omega)]
      have HST := Lib.hid step; clear step
      have hc255 := c.toNat_lt
      by_cases hu : 65 ≤ (c.toNat : Int) ∧ (c.toNat : Int) ≤ 90
      · obtain ⟨h1, h2⟩ := hu
        have h3 : (c.toNat : Int) < 91 := by omega
        have HU := Lib.hid (low1_int h1 h2)
        go_wp2_with fail
        go_roundw
        case rel =>
          refine ⟨k + 1, by omega, by go_num, fun j hj => ?_, fun j hj => ?_, HBW.out.setCell (p := ⟨w.heap.size, k, none⟩) (Nat.le_refl _) _⟩
          · rw [HST.out j]
            by_cases hjk : j = k
            · subst hjk
              rw [if_pos rfl, HU.out]
              first | exact World.cell?_setCell_same _ _ _ g0 | (rw [World.cell?_setCell_same _ _ _ g0]; exact congrArg (fun x => some (Value.int .u8 x)) (by omega))
            · rw [if_neg hjk, World.cell?_setCell_other _ _ _ _ (fun e => hjk (congrArg Addr.off e).symm)]
              exact HC.out j hj
          · simpa using HF.out j hj
        case measure => simp [intOf]; omega
      · have HU := Lib.hid (low1_same hu)
        by_cases h1 : 65 ≤ (c.toNat : Int)
        · have h2 : ¬ (c.toNat : Int) < 91 := fun h => hu ⟨h1, by omega⟩
          have h3 : ¬ (c.toNat : Int) ≤ 90 := fun h => hu ⟨h1, h⟩
          have h4 : decide ((c.toNat : Int) < 91) = false := decide_eq_false h2
          have h5 : decide ((c.toNat : Int) ≤ 90) = false := decide_eq_false h3
          clear hu
          go_wp2_with fail
          go_roundw
          case rel =>
            refine ⟨k + 1, by omega, by go_num, fun j hj => ?_, HF.out, HBW.out⟩
            rw [HST.out j]
            by_cases hjk : j = k
            · subst hjk
              rw [if_pos rfl, HU.out]
              exact g0
            · rw [if_neg hjk]
              exact HC.out j hj
          case measure => simp [intOf]; omega
        · clear hu
          go_wp2_with fail
          go_roundw
          case rel =>
            refine ⟨k + 1, by omega, by go_num, fun j hj => ?_, HF.out, HBW.out⟩
            rw [HST.out j]
            by_cases hjk : j = k
            · subst hjk
              rw [if_pos rfl, HU.out]
              exact g0
            · rw [if_neg hjk]
              exact HC.out j hj
          case measure => simp [intOf]; omega
    · obtain rfl : k = s.size := by omega
      have hback := run_convert_bytes_back (P := Try.prog) wr 37 9 5 ⟨w.heap.size, 0, none⟩ cap (lowL s.data.toList) Try.underlying37 Try.underlying5 Try.underlying9 (fun j hj => by
        have hj2 : j < s.size := by unfold lowL at hj; simpa using hj
        have := hc j hj2
        rw [lowL_row s j hj]
        by_cases hj0 : j = 0
        · subst hj0; simpa [Addr.add] using this
        · simpa [Addr.add, hj0] using this)
      have hl : (lowL s.data.toList).length = s.size := by unfold lowL; simp
      rw [hl] at hback
      clear hc hf hl
      go_wp2_with fail
      go_ret
      exact ⟨rfl, HBW.out⟩

set_option maxRecDepth 100000 in
theorem lower_any (s : ByteArray) (w : World) (hs : s.size ≤ 200000) :
    Calls Try.prog 39 #[.string s] w fun e w' => e = .returned (.string ⟨(lowL s.data.toList).toArray⟩) ∧ Below w.heap.size w w' := by
  have HS := Lib.hid (shifted_any s w hs)
  go_enter Try.func39, Try.ntmps39
  go_wp2_with fail
  refine HS.out.mono ?_
  rintro e w1 ⟨rfl, hb⟩
  go_wp2_with fail
  go_ret
  exact ⟨rfl, hb⟩
end Go.Proofs.Ytfgekmfkaepgjaa
