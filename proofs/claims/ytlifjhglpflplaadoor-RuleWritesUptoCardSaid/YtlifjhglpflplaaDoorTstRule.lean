/- DERIVED. lang.checkRule. Condition: at most 2^40 - 1 tests. -/
import Derived.Test.YtlifjhglpflplaaDoorTstAny
namespace Go.Proofs.YtlifjhglpflplaaDoor
open Go.RowKit
set_option linter.unusedVariables false
set_option linter.unusedSimpArgs false
theorem box1 {w : World} {b : Nat} {v0 : Value} {t : TypeId} (h : w.heap[b]? = some (.cells #[v0] t (0, 0))) : w.cell? ⟨b, 0, none⟩ = some v0 := cell_of_row w b 0 _ _ _ h
theorem ruleErr_a {d : Tst} (h : 6 < d.len) : ruleErr d = 4 := by unfold ruleErr; rw [if_pos h]
theorem ruleErr_b {d : Tst} (h : ¬ 6 < d.len) : ruleErr d = if anyC d = true then 4 else if anyL d = true then 13 else if d.anyT badF = true then 1 else if d.anyT badR = true then 2 else 0 := by unfold ruleErr; rw [if_neg h]
set_option maxRecDepth 100000 in
set_option maxHeartbeats 1600000 in
theorem checkRule_any (d : Tst) (A : Option Addr) (n c : Nat) (w : World) (hbig : d.nodes ≤ 1099511627775) (ha : d.At w w.heap.size A n) :
    Calls Tryd.prog 43 #[.agg #[.slice A n c]] w fun e w' => e = .returned (.int .i64 (ruleErr d)) ∧ Below w.heap.size w w' := by
  have e1 : ∀ args w, (callFunc 70 args).run Tryd.prog w = .ok (.enter 70 args) w := enters_of Tryd.func70 (by kernel_rfl) rfl
  have e2 : ∀ args w, (callFunc 72 args).run Tryd.prog w = .ok (.enter 72 args) w := enters_of Tryd.func72 (by kernel_rfl) rfl
  have e3 : ∀ args w, (callFunc 75 args).run Tryd.prog w = .ok (.enter 75 args) w := enters_of Tryd.func75 (by kernel_rfl) rfl
  have e4 : ∀ args w, (callFunc 77 args).run Tryd.prog w = .ok (.enter 77 args) w := enters_of Tryd.func77 (by kernel_rfl) rfl
  have hnl := ha.len_eq
  have hn : n ≤ 1099511627776 := Nat.le_trans (by rw [hnl]; exact Tst.len_le d) (by omega)
  have hw0 : Below w.heap.size w (w.alloc (.cells #[.slice A n c] 35)) := (Below.refl _ _).alloc (Nat.le_refl _) _
  have hat : ∀ wX, Below w.heap.size w wX → d.At wX wX.heap.size A n := fun wX hX => (ha.below hX).more hX.size
  have hk1 := fun wX (hX : Below w.heap.size w wX) => containsT_any d (fun _ _ _ _ k => decide (20 < k.nodes + 1)) 70 #[] A n c wX e1 hn (hat wX hX) (fun wY i hY k1 md lo hi A1 n1 c1 kd r he hak _ _ _ _ _ _ => chk1_any k1 md lo hi A1 n1 c1 kd wY (by have h1 := Tst.nodes_drop' i d; rw [he] at h1; simp only [Tst.nodes] at h1; omega) hak)
  have hk2 := fun wX (hX : Below w.heap.size w wX) => containsT_any d (fun _ _ _ _ k => decide (12 < k.depth + 1)) 72 #[] A n c wX e2 hn (hat wX hX) (fun wY i hY k1 md lo hi A1 n1 c1 kd r he hak _ _ _ _ _ _ => chk2_any k1 md lo hi A1 n1 c1 kd wY (by have h1 := Tst.nodes_drop' i d; rw [he] at h1; simp only [Tst.nodes] at h1; omega) hak)
  have hk3 := fun wX (hX : Below w.heap.size w wX) => anyTest_any badF 75 e3 (fun k md lo hi A n c kd w hb hnc hak => chk3_any k md lo hi A n c kd w hb hnc hak) d.nodes d A n c wX (Nat.le_refl _) (by omega) (hat wX hX)
  have hk4 := fun wX (hX : Below w.heap.size w wX) => anyTest_any badR 77 e4 (fun k md lo hi A n c kd w _ _ _ => chk4_any k md lo hi A n c kd w) d.nodes d A n c wX (Nat.le_refl _) (by omega) (hat wX hX)
  simp only [anyE_anyK] at hk1 hk2
  have hk1' : ∀ wX, Below w.heap.size w wX → Calls Tryd.prog 69 #[.slice A n c, .func (.func 70) #[] #[]] wX fun e w' => e = .returned (.bool (anyC d)) ∧ Below wX.heap.size wX w' := hk1
  have hk2' : ∀ wX, Below w.heap.size w wX → Calls Tryd.prog 69 #[.slice A n c, .func (.func 72) #[] #[]] wX fun e w' => e = .returned (.bool (anyL d)) ∧ Below wX.heap.size wX w' := hk2
  have hbx := heap_alloc_new w (.cells #[.slice A n c] 35)
  have K1 := Lib.hid hk1'
  have K2 := Lib.hid hk2'
  have K3 := Lib.hid hk3
  have K4 := Lib.hid hk4
  have H0 := Lib.hid hw0
  have HBX := Lib.hid hbx
  clear hk1 hk2 hk1' hk2' hk3 hk4 hw0 hat ha e1 e2 e3 e4 hbx
  have keep : ∀ wX, Below (w.heap.size + 1) (w.alloc (.cells #[.slice A n c] 35)) wX → wX.cell? ⟨w.heap.size, 0, none⟩ = some (.slice A n c) := fun wX hX => box1 ((hX.block w.heap.size (by omega)).trans HBX.out)
  have KP := Lib.hid keep
  clear keep
  by_cases h6 : 6 < n
  · have h6i : (6 : Int) < (n : Int) := by omega
    have HE := Lib.hid (ruleErr_a (d := d) (by omega))
    clear hnl
    go_enter Tryd.func43, Tryd.ntmps43
    go_wp2_with fail
    go_ret
    exact ⟨by rw [HE.out]; rfl, H0.out⟩
  · have h6i : ¬ (6 : Int) < (n : Int) := by omega
    have HE := Lib.hid (ruleErr_b (d := d) (by omega))
    clear hnl
    go_enter Tryd.func43, Tryd.ntmps43
    go_wp2_with fail
    refine (K1.out _ H0.out).mono ?_
    rintro e w1 ⟨rfl, hb1⟩
    simp only [World.size_alloc] at hb1
    have y1 := KP.out _ hb1
    have HB1 := Lib.hid hb1
    clear hb1
    cases hz1 : anyC d with
    | true =>
      have HE1 := Lib.hid (HE.out.trans (if_pos hz1))
      clear hz1
      go_wp2_with fail
      go_ret
      exact ⟨by rw [HE1.out]; rfl, H0.out.trans (HB1.out.mono (by omega))⟩
    | false =>
      have HE1 := Lib.hid (HE.out.trans (if_neg (by rw [hz1]; decide)))
      clear hz1
      go_wp2_with fail
      refine (K2.out _ (H0.out.trans (HB1.out.mono (by omega)))).mono ?_
      rintro e w2 ⟨rfl, hb2⟩
      have hb2' := HB1.out.trans (hb2.mono (by have := HB1.out.size; simpa using this))
      have y2 := KP.out _ hb2'
      have HB2 := Lib.hid hb2'
      clear hb2 hb2'
      cases hz2 : anyL d with
      | true =>
        have HE2 := Lib.hid (HE1.out.trans (if_pos hz2))
        clear hz2
        go_wp2_with fail
        go_ret
        exact ⟨by rw [HE2.out]; rfl, H0.out.trans (HB2.out.mono (by omega))⟩
      | false =>
        have HE2 := Lib.hid (HE1.out.trans (if_neg (by rw [hz2]; decide)))
        clear hz2
        go_wp2_with fail
        refine (K3.out _ (H0.out.trans (HB2.out.mono (by omega)))).mono ?_
        rintro e w3 ⟨rfl, hb3⟩
        have hb3' := HB2.out.trans (hb3.mono (by have := HB2.out.size; simpa using this))
        have y3 := KP.out _ hb3'
        have HB3 := Lib.hid hb3'
        clear hb3 hb3'
        cases hz3 : d.anyT badF with
        | true =>
          have HE3 := Lib.hid (HE2.out.trans (if_pos hz3))
          clear hz3
          go_wp2_with fail
          go_ret
          exact ⟨by rw [HE3.out]; rfl, H0.out.trans (HB3.out.mono (by omega))⟩
        | false =>
          have HE3 := Lib.hid (HE2.out.trans (if_neg (by rw [hz3]; decide)))
          clear hz3
          go_wp2_with fail
          refine (K4.out _ (H0.out.trans (HB3.out.mono (by omega)))).mono ?_
          rintro e w4 ⟨rfl, hb4⟩
          have hb4' := HB3.out.trans (hb4.mono (by have := HB3.out.size; simpa using this))
          have HB4 := Lib.hid hb4'
          clear hb4 hb4'
          cases hz4 : d.anyT badR with
          | true =>
            have HE4 := Lib.hid (HE3.out.trans (if_pos hz4))
            clear hz4
            go_wp2_with fail
            go_ret
            exact ⟨by rw [HE4.out]; rfl, H0.out.trans (HB4.out.mono (by omega))⟩
          | false =>
            have HE4 := Lib.hid (HE3.out.trans (if_neg (by rw [hz4]; decide)))
            clear hz4
            go_wp2_with fail
            go_ret
            exact ⟨by rw [HE4.out]; rfl, H0.out.trans (HB4.out.mono (by omega))⟩
end Go.Proofs.YtlifjhglpflplaaDoor
