/- DERIVED. What the reference's HiddenOn returns for settings of which the check finds no error. Condition: none but the callees' contracts. -/
import Derived.Test.YtohkdckllmmfhaaDoorHidden
namespace Go.Proofs.YtohkdckllmmfhaaDoor
set_option linter.unusedVariables false
open Go.RowKit
structure HidCallsR (s : Sv) (w : World) (pk : ByteArray → Vals) : Prop where
  chk : ∀ wX, Behind s w wX → Calls Tryd.prog 8 #[s.val] wX fun e w' => e = .returned (.int .i64 0) ∧ Below wX.heap.size wX w'
  has : ∀ key wX, Behind s w wX → Calls Tryd.prog 9 #[s.val, .string key] wX (SetPost (pk key) wX)
def hidEndR (p ex : Vals) (day : Int) : Bool := if p.kind = 4 ∧ day < p.int then true else decide (ex.kind = 4 ∧ ex.int ≤ day)
/-- What HiddenOn returns for a table. -/
def hidR (d p da ex : Vals) (day : Int) : Bool := if d.kind = 1 ∧ d.bool = true then true else hidEndR (if p.kind = 4 then p else da) ex day
set_option maxRecDepth 100000 in
set_option maxHeartbeats 3200000 in
theorem hiddenR_no (s : Sv) (day : Int) (w : World) (hk : ¬ s.k = 6) (hc : ∀ wX, Behind s w wX → Calls Tryd.prog 8 #[s.val] wX fun e w' => e = .returned (.int .i64 0) ∧ Below wX.heap.size wX w') :
    Calls Tryd.prog 5 #[s.val, .int .i64 day] w fun e w' => e = .returned (.bool false) ∧ Below w.heap.size w w' := by
  have hk1 : (s.k == 6) = false := by simpa using hk
  have hk2 : (s.k != 6) = true := by simpa using hk
  clear hk
  have H0 := Lib.hid hc
  clear hc
  have HI := Lib.hid (Behind.start s w)
  obtain ⟨y0, y1, y2, y3, y4, y5⟩ := HI.out.cells
  unfold Sv.box Sv.val at *
  go_enter Tryd.func5, Tryd.ntmps5
  go_wp2_with fail
  refine (H0.out _ HI.out).mono ?_
  rintro e w1 ⟨rfl, hb1⟩
  have hi1 := HI.out.call hb1
  clear y0 y1 y2 y3 y4 y5
  obtain ⟨y0, y1, y2, y3, y4, y5⟩ := hi1.cells
  have HI1 := Lib.hid hi1.old
  clear hi1 hb1
  go_wp2_with fail
  go_ret
  exact ⟨rfl, HI1.out⟩
set_option maxRecDepth 100000 in
set_option maxHeartbeats 3200000 in
theorem hiddenR_bad (s : Sv) (day : Int) (w : World) (x : Int) (hx : ¬ x = 0) (hc : ∀ wX, Behind s w wX → Calls Tryd.prog 8 #[s.val] wX fun e w' => e = .returned (.int .i64 x) ∧ Below wX.heap.size wX w') :
    Calls Tryd.prog 5 #[s.val, .int .i64 day] w fun e w' => e = .returned (.bool false) ∧ Below w.heap.size w w' := by
  have hk1 : (x == 0) = false := by simpa using hx
  have hk2 : (x != 0) = true := by simpa using hx
  clear hx
  have H0 := Lib.hid hc
  clear hc
  have HI := Lib.hid (Behind.start s w)
  obtain ⟨y0, y1, y2, y3, y4, y5⟩ := HI.out.cells
  unfold Sv.box Sv.val at *
  go_enter Tryd.func5, Tryd.ntmps5
  go_wp2_with fail
  refine (H0.out _ HI.out).mono ?_
  rintro e w1 ⟨rfl, hb1⟩
  have HI1 := Lib.hid (HI.out.call hb1).old
  clear hb1 y0 y1 y2 y3 y4 y5
  go_wp2_with fail
  go_ret
  exact ⟨rfl, HI1.out⟩
set_option maxRecDepth 100000 in
set_option maxHeartbeats 3200000 in
theorem hidden_bad (s : Sv) (day : Int) (w : World) (x : Int) (hx : ¬ x = 0) (hc : ∀ wX, Behind s w wX → Calls Tryd.prog 6 #[s.val] wX fun e w' => e = .returned (.int .i64 x) ∧ Below wX.heap.size wX w') :
    Calls Tryd.prog 4 #[s.val, .int .i64 day] w fun e w' => e = .returned (.bool false) ∧ Below w.heap.size w w' := by
  have hk1 : (x == 0) = false := by simpa using hx
  have hk2 : (x != 0) = true := by simpa using hx
  clear hx
  have H0 := Lib.hid hc
  clear hc
  have HI := Lib.hid (Behind.start s w)
  obtain ⟨y0, y1, y2, y3, y4, y5⟩ := HI.out.cells
  unfold Sv.box Sv.val at *
  go_enter Tryd.func4, Tryd.ntmps4
  go_wp2_with fail
  refine (H0.out _ HI.out).mono ?_
  rintro e w1 ⟨rfl, hb1⟩
  have HI1 := Lib.hid (HI.out.call hb1).old
  clear hb1 y0 y1 y2 y3 y4 y5
  go_wp2_with fail
  go_ret
  exact ⟨rfl, HI1.out⟩
set_option maxRecDepth 100000 in
set_option maxHeartbeats 3200000 in
theorem hiddenR_gen (s : Sv) (day : Int) (w : World) (pk : ByteArray → Vals) (hk : s.k = 6) (hc : HidCallsR s w pk) :
    Calls Tryd.prog 5 #[s.val, .int .i64 day] w fun e w' => e = .returned (.bool (hidR (pk kDraft) (pk kPublish) (pk kDate) (pk kExpire) day)) ∧ Below w.heap.size w w' := by
  have hk1 : (s.k == 6) = true := by simpa using hk
  have hk2 : (s.k != 6) = false := by simpa using hk
  have H0 := Lib.hid hc.chk
  have H1 := Lib.hid (hc.has kDraft)
  have H2 := Lib.hid (hc.has kPublish)
  have H3 := Lib.hid (hc.has kDate)
  have H4 := Lib.hid (hc.has kExpire)
  clear hc hk
  generalize pk kDraft = d at H1 ⊢
  generalize pk kPublish = p at H2 ⊢
  generalize pk kDate = da at H3 ⊢
  generalize pk kExpire = ex at H4 ⊢
  obtain ⟨res, hres⟩ : ∃ res, hidR d p da ex day = res := ⟨_, rfl⟩
  rw [hres]
  have HRES := Lib.hid hres
  clear hres
  have HI := Lib.hid (Behind.start s w)
  obtain ⟨y0, y1, y2, y3, y4, y5⟩ := HI.out.cells
  unfold Sv.box Sv.val at *
  go_enter Tryd.func5, Tryd.ntmps5
  go_wp2_with fail
  refine (H0.out _ HI.out).mono ?_
  rintro e w1 ⟨rfl, hb1⟩
  have hi1 := HI.out.call hb1
  clear y0 y1 y2 y3 y4 y5
  obtain ⟨y0, y1, y2, y3, y4, y5⟩ := hi1.cells
  have HI1 := Lib.hid hi1
  clear hi1 hb1
  go_wp2_with fail
  refine (H1.out _ HI1.out).mono ?_
  rintro e w2 ⟨a1, rfl, hrow1, -, hb2⟩
  have hi2 := HI1.out.call hb2
  clear y0 y1 y2 y3 y4 y5
  obtain ⟨y0, y1, y2, y3, y4, y5⟩ := (hi2.alloc a1.box).cells
  have HI2 := Lib.hid (hi2.alloc a1.box)
  obtain ⟨g1, g2, -⟩ := orZero_at hrow1
  have G1 := Lib.hid (And.intro g1 g2)
  obtain ⟨x1, hx1⟩ : ∃ x, d.isSome = x := ⟨_, rfl⟩
  rw [hx1]
  clear hi2 hb2 g1 g2 hrow1 hx1
  obtain ⟨k1, bo1, i1, t1, A1, n1, c1, A2, n2, c2, it1, ks1⟩ := a1
  dsimp only at G1
  unfold Sv.box at HI2 y0 y1 y2 y3 y4 y5
  dsimp only at HI2 y0 y1 y2 y3 y4 y5
  unfold Sv.val
  dsimp only
  by_cases hd : k1 = 1 ∧ bo1 = true
  · obtain ⟨rfl, rfl⟩ := hd
    have HE := Lib.hid HI2.out.old
    go_wp2_with fail
    go_ret
    refine ⟨retB ?_, HE.out⟩
    rw [← HRES.out]
    unfold hidR
    rw [if_pos ⟨G1.out.1.symm, G1.out.2.symm⟩]
  · have HD := Lib.hid hd
    have hdc : (k1 == 1) = false ∨ ((k1 == 1) = true ∧ bo1 = false) := by
      by_cases h : k1 = 1
      · refine .inr ⟨by simpa using h, ?_⟩
        cases bo1 with
        | false => rfl
        | true => exact absurd ⟨h, rfl⟩ hd
      · exact .inl (by simpa using h)
    clear hd
    have HDC := Lib.hid hdc
    clear hdc
    rcases HDC.out with hd1 | ⟨hd1, rfl⟩
    all_goals
      go_wp2_with fail
      refine (H2.out _ HI2.out).mono ?_
      rintro e w3 ⟨a2, rfl, hrow2, -, hb3⟩
      have hi3 := HI2.out.call hb3
      clear y0 y1 y2 y3 y4 y5
      obtain ⟨y0, y1, y2, y3, y4, y5⟩ := (hi3.alloc a2.box).cells
      have HI3 := Lib.hid (hi3.alloc a2.box)
      have hs3 := hi3.size
      have HN2 := Lib.hid (svNew w3 a2)
      obtain ⟨g1, -, g2⟩ := orZero_at hrow2
      have G2 := Lib.hid (And.intro g1 g2)
      obtain ⟨x2, hx2⟩ : ∃ x, p.isSome = x := ⟨_, rfl⟩
      rw [hx2]
      clear hi3 hb3 g1 g2 hrow2 hx2
      obtain ⟨k2, bo2, i2, t2, B1, m1, d1, B2, m2, d2, it2, ks2⟩ := a2
      dsimp only at G2
      unfold Sv.box at HI3 HN2 y0 y1 y2 y3 y4 y5
      dsimp only at HI3 HN2 y0 y1 y2 y3 y4 y5
      unfold Sv.val
      dsimp only
      obtain ⟨c20, -, c22, -, -, -⟩ := svCells (a := ⟨k2, bo2, i2, t2, B1, m1, d1, B2, m2, d2, it2, ks2⟩) HN2.out
      dsimp only at c20 c22
      by_cases h2 : k2 = 4
      · have h21 : (k2 == 4) = true := by simpa using h2
        have h22 : (k2 != 4) = false := by simpa using h2
        have HG := Lib.hid (show (if p.kind = 4 then p else da).kind = k2 ∧ (if p.kind = 4 then p else da).int = i2 by rw [if_pos (G2.out.1.symm.trans h2)]; exact ⟨G2.out.1.symm, G2.out.2.symm⟩)
        have HRES := Lib.hid (show hidEndR (if p.kind = 4 then p else da) ex day = res by rw [← HRES.out]; unfold hidR; rw [if_neg (show ¬ (d.kind = 1 ∧ d.bool = true) from fun h => HD.out ⟨G1.out.1.trans h.1, G1.out.2.trans h.2⟩)])
        clear h2
        obtain ⟨pp, hpp⟩ : ∃ pp, (if p.kind = 4 then p else da) = pp := ⟨_, rfl⟩
        rw [hpp] at HG HRES
        clear hpp HD HDC HN2
        have HI5 := HI3
        by_cases hq : k2 = 4 ∧ day < i2
        · obtain ⟨hq1, hq2⟩ := hq
          have hq3 : (k2 == 4) = true := by simpa using hq1
          have HE := Lib.hid HI5.out.old
          have HRR := Lib.hid (show hidEndR pp ex day = true by unfold hidEndR; rw [if_pos ⟨HG.out.1.trans hq1, by rw [HG.out.2]; exact hq2⟩])
          clear hq1
          go_wp2_with fail
          go_ret
          exact ⟨retB (by rw [← HRES.out]; exact HRR.out), HE.out⟩
        · have HRR := Lib.hid (show hidEndR pp ex day = decide (ex.kind = 4 ∧ ex.int ≤ day) by unfold hidEndR; rw [if_neg (by rw [HG.out.1, HG.out.2]; exact hq)])
          have hq2 : ¬ day < i2 := fun h' => hq ⟨by simpa using h21, h'⟩
          clear hq
          all_goals
            go_wp2_with fail
            refine (H4.out _ HI5.out).mono ?_
            rintro e w6 ⟨a4, rfl, hrow4, -, hb6⟩
            obtain ⟨g1, -, g4⟩ := orZero_at hrow4
            have HBF := Lib.hid (((HI5.out.call hb6).alloc a4.box).old)
            obtain ⟨x4, hx4⟩ : ∃ x, ex.isSome = x := ⟨_, rfl⟩
            rw [hx4]
            obtain ⟨k4, bo4, i4, t4, E1, p1, q1, E2, p2, q2, it4, ks4⟩ := a4
            dsimp only at g1 g4
            have G4 := Lib.hid (And.intro g1 g4)
            unfold Sv.box at HBF
            dsimp only at HBF
            unfold Sv.val
            dsimp only
            clear y0 y1 y2 y3 y4 y5 hrow4 g1 g4 hb6 hx4 c20 c22
            by_cases hr : k4 = 4
            · have hr1 : (k4 == 4) = true := by simpa using hr
              have HR := Lib.hid hr
              clear hr
              go_wp2_with fail
              go_ret
              refine ⟨retB ?_, HBF.out⟩
              rw [← HRES.out, HRR.out, ← G4.out.1, ← G4.out.2]
              simp [HR.out]
            · have hr1 : (k4 == 4) = false := by simpa using hr
              have HR := Lib.hid hr
              clear hr
              go_wp2_with fail
              go_ret
              refine ⟨retB ?_, HBF.out⟩
              rw [← HRES.out, HRR.out, ← G4.out.1]
              simp [HR.out]
      · have h21 : (k2 == 4) = false := by simpa using h2
        have h22 : (k2 != 4) = true := by simpa using h2
        have HR0 := Lib.hid (show hidEndR da ex day = res by rw [← HRES.out]; unfold hidR; rw [if_neg (show ¬ (d.kind = 1 ∧ d.bool = true) from fun h => HD.out ⟨G1.out.1.trans h.1, G1.out.2.trans h.2⟩), if_neg (show ¬ p.kind = 4 from fun h => h2 (G2.out.1.trans h))])
        clear h2 HRES
        have HRES := HR0
        go_wp2_with fail
        refine (H3.out _ HI3.out).mono ?_
        rintro e w4 ⟨a3, rfl, hrow3, -, hb4⟩
        have hi4 := HI3.out.call hb4
        have hn2 := svStay1 HN2.out hb4
        have HT := Lib.hid (svThere (a := ⟨k2, bo2, i2, t2, B1, m1, d1, B2, m2, d2, it2, ks2⟩) hn2)
        obtain ⟨g1, -, g3⟩ := orZero_at hrow3
        obtain ⟨k3, bo3, i3, t3, C1, u1, v1, C2, u2, v2, it3, ks3⟩ := a3
        dsimp only at g1 g3
        obtain ⟨w5, hw5⟩ : ∃ w5, w4.setCells w3.heap.size 0 (#[Value.int .i64 k3, .bool bo3, .int .i64 i3, .string t3, .slice C1 u1 v1, .slice C2 u2 v2] : Array Value).toList = w5 := ⟨_, rfl⟩
        have hr5 : w5.rangeAt w3.heap.size 0 (#[Value.int .i64 k3, .bool bo3, .int .i64 i3, .string t3, .slice C1 u1 v1, .slice C2 u2 v2] : Array Value).toList := by
          rw [← hw5]
          exact World.rangeAt_setCells_same w4 _ _ _ HT.out
        have hb5 : Below w3.heap.size w4 w5 := by
          rw [← hw5]
          exact below_setCells' (Nat.le_refl _) _ _ (Below.refl _ _)
        have hi5 : Behind ⟨s.k, s.bo, s.i, s.t, s.A1, s.n1, s.c1, s.A2, s.n2, s.c2, s.items, s.keys⟩ w w5 := Below.trans hi4 (hb5.mono hs3)
        clear y0 y1 y2 y3 y4 y5 c20 c22
        obtain ⟨y0, y1, y2, y3, y4, y5⟩ := hi5.cells
        have HI5 := Lib.hid hi5
        have c20 := hr5 0 (.int .i64 k3) rfl
        have c22 := hr5 2 (.int .i64 i3) rfl
        simp only [Nat.zero_add] at c20 c22
        have HW5 := Lib.hid hw5
        have HG := Lib.hid (show da.kind = k3 ∧ da.int = i3 from ⟨g1.symm, g3.symm⟩)
        obtain ⟨x3, hx3⟩ : ∃ x3, da.isSome = x3 := ⟨_, rfl⟩
        rw [hx3]
        clear hi4 hn2 g1 g3 hw5 hr5 hb5 hi5 hb4 hrow3 hx3 HN2
        unfold Sv.val
        dsimp only
        by_cases hq : k3 = 4 ∧ day < i3
        · obtain ⟨hq1, hq2⟩ := hq
          have hq3 : (k3 == 4) = true := by simpa using hq1
          have HE := Lib.hid HI5.out.old
          have HRR := Lib.hid (show hidEndR da ex day = true by unfold hidEndR; rw [if_pos ⟨HG.out.1.trans hq1, by rw [HG.out.2]; exact hq2⟩])
          clear hq1
          go_wp2_with (refine wpList_store_mid rfl 25 (.tmp 7) (.tmp 42) rfl w3.heap.size 0 #[Value.int .i64 k3, .bool bo3, .int .i64 i3, .string t3, .slice C1 u1 v1, .slice C2 u2 v2] rfl rfl HT.out sv_size (by simp [Value.oneCell']) ?_; rw [HW5.out])
          go_ret
          exact ⟨retB (by rw [← HRES.out]; exact HRR.out), HE.out⟩
        · have HRR := Lib.hid (show hidEndR da ex day = decide (ex.kind = 4 ∧ ex.int ≤ day) by unfold hidEndR; rw [if_neg (by rw [HG.out.1, HG.out.2]; exact hq)])
          have hqc : (k3 == 4) = false ∨ ((k3 == 4) = true ∧ ¬ day < i3) := by
            by_cases h : k3 = 4
            · exact .inr ⟨by simpa using h, fun h' => hq ⟨h, h'⟩⟩
            · exact .inl (by simpa using h)
          clear hq
          rcases hqc with hq1 | ⟨hq1, hq2⟩
          all_goals
            go_wp2_with (refine wpList_store_mid rfl 25 (.tmp 7) (.tmp 42) rfl w3.heap.size 0 #[Value.int .i64 k3, .bool bo3, .int .i64 i3, .string t3, .slice C1 u1 v1, .slice C2 u2 v2] rfl rfl HT.out sv_size (by simp [Value.oneCell']) ?_; rw [HW5.out])
            refine (H4.out _ HI5.out).mono ?_
            rintro e w6 ⟨a4, rfl, hrow4, -, hb6⟩
            obtain ⟨g1, -, g4⟩ := orZero_at hrow4
            have HBF := Lib.hid (((HI5.out.call hb6).alloc a4.box).old)
            obtain ⟨x4, hx4⟩ : ∃ x, ex.isSome = x := ⟨_, rfl⟩
            rw [hx4]
            obtain ⟨k4, bo4, i4, t4, E1, p1, q1, E2, p2, q2, it4, ks4⟩ := a4
            dsimp only at g1 g4
            have G4 := Lib.hid (And.intro g1 g4)
            unfold Sv.box at HBF
            dsimp only at HBF
            unfold Sv.val
            dsimp only
            clear y0 y1 y2 y3 y4 y5 hrow4 g1 g4 hb6 hx4 c20 c22
            by_cases hr : k4 = 4
            · have hr1 : (k4 == 4) = true := by simpa using hr
              have HR := Lib.hid hr
              clear hr
              go_wp2_with fail
              go_ret
              refine ⟨retB ?_, HBF.out⟩
              rw [← HRES.out, HRR.out, ← G4.out.1, ← G4.out.2]
              simp [HR.out]
            · have hr1 : (k4 == 4) = false := by simpa using hr
              have HR := Lib.hid hr
              clear hr
              go_wp2_with fail
              go_ret
              refine ⟨retB ?_, HBF.out⟩
              rw [← HRES.out, HRR.out, ← G4.out.1]
              simp [HR.out]
end Go.Proofs.YtohkdckllmmfhaaDoor
