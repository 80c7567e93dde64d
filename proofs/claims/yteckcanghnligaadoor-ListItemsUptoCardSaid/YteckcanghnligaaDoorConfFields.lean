/- DERIVED. What conf's checkFields returns: the error of one value. Condition: at most 2^40 keys. -/
import Derived.Test.YteckcanghnligaaDoorConfUnused
import Derived.Test.YteckcanghnligaaDoorDayFns
namespace Go.Proofs.YteckcanghnligaaDoor
set_option linter.unusedVariables false
open Go.RowKit
/-- A value in a box of its own. -/
def boxOf (k : Int) (bo : Bool) (i : Int) (t : ByteArray) (A1 : Option Addr) (n1 c1 : Nat) (A2 : Option Addr) (n2 c2 : Nat) : Obj :=
  .cells #[.int .i64 k, .bool bo, .int .i64 i, .string t, .slice A1 n1 c1, .slice A2 n2 c2] 25
theorem box6 {w w1 : World} {B : Nat} {k : Int} {bo : Bool} {i : Int} {t : ByteArray} {A1 : Option Addr} {n1 c1 : Nat} {A2 : Option Addr} {n2 c2 : Nat}
    (hb : Below B (w.alloc (boxOf k bo i t A1 n1 c1 A2 n2 c2)) w1) (hB : w.heap.size < B) :
    w1.cell? ⟨w.heap.size, 0, none⟩ = some (.int .i64 k) ∧ w1.cell? ⟨w.heap.size, 1, none⟩ = some (.bool bo) ∧ w1.cell? ⟨w.heap.size, 2, none⟩ = some (.int .i64 i) ∧
    w1.cell? ⟨w.heap.size, 3, none⟩ = some (.string t) ∧ w1.cell? ⟨w.heap.size, 4, none⟩ = some (.slice A1 n1 c1) ∧ w1.cell? ⟨w.heap.size, 5, none⟩ = some (.slice A2 n2 c2) := by
  have h : ∀ j, w1.cell? ⟨w.heap.size, j, none⟩ = (w.alloc (boxOf k bo i t A1 n1 c1 A2 n2 c2)).cell? ⟨w.heap.size, j, none⟩ := fun j => hb.cell (p := ⟨w.heap.size, j, none⟩) hB
  refine ⟨(h 0).trans ?_, (h 1).trans ?_, (h 2).trans ?_, (h 3).trans ?_, (h 4).trans ?_, (h 5).trans ?_⟩ <;> simp [boxOf]
theorem kinds6 {k : Int} (h : 0 ≤ k) (h' : k ≤ 6) : k = 0 ∨ k = 1 ∨ k = 2 ∨ k = 3 ∨ k = 4 ∨ k = 5 ∨ k = 6 := by omega
theorem hasUnused_any (k : Int) (bo : Bool) (i : Int) (t : ByteArray) (A1 : Option Addr) (n1 c1 : Nat) (A2 : Option Addr) (n2 c2 : Nat) (w : World) (h : 0 ≤ k) (h' : k ≤ 6) :
    Calls Tryd.prog 34 #[.agg #[.int .i64 k, .bool bo, .int .i64 i, .string t, .slice A1 n1 c1, .slice A2 n2 c2]] w
      fun e w' => e = .returned (.bool (unB k bo i t.toList.isEmpty n1 n2)) ∧ Below w.heap.size w w' := by
  rcases kinds6 h h' with rfl | rfl | rfl | rfl | rfl | rfl | rfl
  · exact hasUnused_0 bo i t A1 n1 c1 A2 n2 c2 w
  · exact hasUnused_1 bo i t A1 n1 c1 A2 n2 c2 w
  · exact hasUnused_2 bo i t A1 n1 c1 A2 n2 c2 w
  · exact hasUnused_3 bo i t A1 n1 c1 A2 n2 c2 w
  · exact hasUnused_4 bo i t A1 n1 c1 A2 n2 c2 w
  · exact hasUnused_5 bo i t A1 n1 c1 A2 n2 c2 w
  · exact hasUnused_6 bo i t A1 n1 c1 A2 n2 c2 w
set_option maxRecDepth 100000 in
set_option maxHeartbeats 1000000 in
theorem checkFields_any (k : Int) (bo : Bool) (i : Int) (t : ByteArray) (A1 : Option Addr) (n1 c1 : Nat) (A2 : Option Addr) (n2 c2 : Nat) (items : Vals) (keys : List ByteArray) (w : World)
    (hv : VOk w w.heap.size k i t A1 n1 c1 A2 n2 c2 items keys) (hn : n2 ≤ 1099511627776) :
    Calls Tryd.prog 26 #[.agg #[.int .i64 k, .bool bo, .int .i64 i, .string t, .slice A1 n1 c1, .slice A2 n2 c2]] w
      fun e w' => e = .returned (.int .i64 (valErr leS k bo i t n1 keys)) ∧ Below w.heap.size w w' := by
  have HB := Lib.hid (fun o => (Below.refl w.heap.size w).alloc (Nat.le_refl _) o)
  have hk2 := hv.ks.1
  have HU := Lib.hid (fun (h : 0 ≤ k) (h' : k ≤ 6) wX => hasUnused_any k bo i t A1 n1 c1 A2 n2 c2 wX h h')
  have HD := Lib.hid (fun wX => isDay_any i wX)
  have hts := hv.ts
  unfold maxLen at hts
  have HT := Lib.hid (fun wX => checkText_any t wX (by omega))
  have HK := Lib.hid (fun wX (hX : Below w.heap.size w wX) => checkKeys_any keys A2 n2 c2 wX hn ((hv.ks.below hX).more hX.size))
  clear hv hn hts
  have hV : valErr leS k bo i t n1 keys = if k < 0 ∨ 6 < k then 10 else if unB k bo i t.toList.isEmpty n1 n2 = true then 1 else if k = 4 ∧ (i < 0 ∨ 84005 < i) then 2 else if textErr t ≠ 0 then textErr t else keysErr leS none keys := by
    rw [hk2]; rfl
  have HV := Lib.hid hV; clear hV hk2
  have HX := Lib.hid (fun (w1 : World) (B : Nat) (hb : Below B (w.alloc (boxOf k bo i t A1 n1 c1 A2 n2 c2)) w1) (hB : w.heap.size < B) => box6 hb hB)
  by_cases h0 : 0 ≤ k
  · by_cases h6 : k ≤ 6
    · have h0' : ¬ k < 0 := by omega
      have h6' : ¬ 6 < k := by omega
      have HU2 := Lib.hid (HU.out h0 h6); clear HU
      cases hu : unB k bo i t.toList.isEmpty n1 n2 with
      | true =>
        rw [hu] at HU2 HV
        go_enter Tryd.func26, Tryd.ntmps26
        go_wp2_with fail
        refine (HU2.out _).mono ?_
        rintro e w1 ⟨rfl, hb1⟩
        go_wp2_with fail
        go_ret
        exact ⟨retI (by rw [HV.out, if_neg (by omega)]; simp), (HB.out _).trans (hb1.mono (by simp))⟩
      | false =>
        rw [hu] at HU2 HV
        have hVV : ∀ x, (if k < 0 ∨ 6 < k then (10 : Int) else if false = true then 1 else x) = x := fun x => by rw [if_neg (by omega), if_neg (by simp)]
        rw [hVV] at HV
        clear hVV hu
        by_cases h4 : k = 4 ∧ dayB i = false
        · obtain ⟨h4, hd⟩ := h4
          subst h4
          rw [hd] at HD
          have hi : i < 0 ∨ 84005 < i := by unfold dayB at hd; simp at hd; omega
          have HI := Lib.hid hi; clear hi hd
          go_enter Tryd.func26, Tryd.ntmps26
          go_wp2_with fail
          refine (HU2.out _).mono ?_
          rintro e w1 ⟨rfl, hb1⟩
          obtain ⟨y0, y1, y2, y3, y4, y5⟩ := HX.out _ _ hb1 (by simp)
          go_wp2_with fail
          refine (HD.out _).mono ?_
          rintro e w' ⟨rfl, rfl⟩
          go_wp2_with fail
          go_ret
          exact ⟨retI (by rw [HV.out, if_pos ⟨by trivial, HI.out⟩]), (HB.out _).trans (hb1.mono (by simp))⟩
        · have hno : ¬ (k = 4 ∧ (i < 0 ∨ 84005 < i)) := by
            rintro ⟨e, hi⟩
            exact h4 ⟨e, by unfold dayB; simp; omega⟩
          have hV3 : ∀ x, (if k = 4 ∧ (i < 0 ∨ 84005 < i) then (2 : Int) else x) = x := fun x => by rw [if_neg hno]
          rw [hV3] at HV
          clear hV3 hno
          obtain ⟨x, hx⟩ : ∃ x, textErr t = x := ⟨_, rfl⟩
          rw [hx] at HT HV
          clear hx
          by_cases h4' : k = 4
          · subst h4'
            have hd : dayB i = true := by
              cases hd : dayB i with
              | true => rfl
              | false => exact absurd ⟨rfl, hd⟩ h4
            rw [hd] at HD
            clear hd h4
            go_enter Tryd.func26, Tryd.ntmps26
            go_wp2_with fail
            refine (HU2.out _).mono ?_
            rintro e w1 ⟨rfl, hb1⟩
            obtain ⟨y0, y1, y2, y3, y4, y5⟩ := HX.out _ _ hb1 (by simp)
            have hb1' := (HB.out _).trans (hb1.mono (by simp))
            have HB1 := Lib.hid hb1'; clear hb1' hb1
            go_wp2_with fail
            refine (HD.out _).mono ?_
            rintro e w' ⟨rfl, rfl⟩
            go_wp2_with fail
            refine (HT.out _).mono ?_
            rintro e w' ⟨rfl, rfl⟩
            by_cases hx0 : x = 0
            · subst hx0
              go_wp2_with fail
              refine (HK.out _ HB1.out).mono ?_
              rintro e w2 ⟨rfl, hb2⟩
              go_wp2_with fail
              go_ret
              exact ⟨retI (by rw [HV.out]; simp), HB1.out.trans (hb2.mono HB1.out.size)⟩
            · go_wp2_with fail
              go_ret
              exact ⟨retI (by rw [HV.out, if_pos hx0]), HB1.out⟩
          · clear h4
            go_enter Tryd.func26, Tryd.ntmps26
            go_wp2_with fail
            refine (HU2.out _).mono ?_
            rintro e w1 ⟨rfl, hb1⟩
            obtain ⟨y0, y1, y2, y3, y4, y5⟩ := HX.out _ _ hb1 (by simp)
            have hb1' := (HB.out _).trans (hb1.mono (by simp))
            have HB1 := Lib.hid hb1'; clear hb1' hb1
            go_wp2_with fail
            refine (HT.out _).mono ?_
            rintro e w' ⟨rfl, rfl⟩
            by_cases hx0 : x = 0
            · subst hx0
              go_wp2_with fail
              refine (HK.out _ HB1.out).mono ?_
              rintro e w2 ⟨rfl, hb2⟩
              go_wp2_with fail
              go_ret
              exact ⟨retI (by rw [HV.out]; simp), HB1.out.trans (hb2.mono HB1.out.size)⟩
            · go_wp2_with fail
              go_ret
              exact ⟨retI (by rw [HV.out, if_pos hx0]), HB1.out⟩
    · have h0' : ¬ k < 0 := by omega
      have h6' : 6 < k := by omega
      go_enter Tryd.func26, Tryd.ntmps26
      go_wp2_with fail
      go_ret
      exact ⟨retI (by rw [HV.out, if_pos (.inr h6')]), HB.out _⟩
  · have h0' : k < 0 := by omega
    go_enter Tryd.func26, Tryd.ntmps26
    go_wp2_with fail
    go_ret
    exact ⟨retI (by rw [HV.out, if_pos (.inl h0')]), HB.out _⟩
end Go.Proofs.YteckcanghnligaaDoor
