/- DERIVED. What tree's Hidden returns for settings of which the check finds no error, and for others. Condition: at most 2^40 values and letters. -/
import Derived.Test.YtohkdckllmmfhaaDoorHas
import Derived.Test.YtohkdckllmmfhaaDoorConfChk
namespace Go.Proofs.YtohkdckllmmfhaaDoor
set_option linter.unusedVariables false
open Go.RowKit
def kDraft : ByteArray := ⟨#[100, 114, 97, 102, 116]⟩
def kPublish : ByteArray := ⟨#[112, 117, 98, 108, 105, 115, 104]⟩
def kDate : ByteArray := ⟨#[100, 97, 116, 101]⟩
def kExpire : ByteArray := ⟨#[101, 120, 112, 105, 114, 101]⟩
theorem orZero_at {a : Sv} {p : Vals} (h : a.row = p.orZero) : a.k = p.kind ∧ a.bo = p.bool ∧ a.i = p.int := by
  cases p with
  | nil =>
    have := Sv.inj (a := a) (b := Sv.zero) h
    exact ⟨this.1, this.2.1, this.2.2.1⟩
  | cons k bo i t it ks r =>
    unfold Sv.row Vals.orZero at h
    injection h with h1 h2 h3
    exact ⟨h1, h2, h3⟩
/-- A value's box, and what came behind it. -/
def Behind (s : Sv) (w wX : World) : Prop := Below (w.heap.size + 1) (w.alloc s.box) wX
theorem Behind.cells {s : Sv} {w wX : World} (h : Behind s w wX) : wX.cell? ⟨w.heap.size, 0, none⟩ = some (.int .i64 s.k) ∧ wX.cell? ⟨w.heap.size, 1, none⟩ = some (.bool s.bo) ∧ wX.cell? ⟨w.heap.size, 2, none⟩ = some (.int .i64 s.i) ∧
    wX.cell? ⟨w.heap.size, 3, none⟩ = some (.string s.t) ∧ wX.cell? ⟨w.heap.size, 4, none⟩ = some (.slice s.A1 s.n1 s.c1) ∧ wX.cell? ⟨w.heap.size, 5, none⟩ = some (.slice s.A2 s.n2 s.c2) := svCells (svNew' h (by omega))
theorem Behind.size {s : Sv} {w wX : World} (h : Behind s w wX) : w.heap.size + 1 ≤ wX.heap.size := by
  have := Below.size h
  simpa using this
theorem Behind.old {s : Sv} {w wX : World} (h : Behind s w wX) : Below w.heap.size w wX := ((Below.refl _ w).alloc (Nat.le_refl _) s.box).trans (Below.mono h (by omega))
theorem Behind.call {s : Sv} {w wX wY : World} (h : Behind s w wX) (hb : Below wX.heap.size wX wY) : Behind s w wY := Below.trans h (hb.mono h.size)
theorem Behind.alloc {s : Sv} {w wX : World} (h : Behind s w wX) (o : Obj) : Behind s w (wX.alloc o) := h.call ((Below.refl _ _).alloc (Nat.le_refl _) o)
theorem Behind.drew {s : Sv} {w wX : World} (h : Behind s w wX) : Behind s w wX.drew := Below.drew h
theorem Behind.start (s : Sv) (w : World) : Behind s w (w.alloc s.box) := Below.refl _ _
/-- What is asked of the callees. -/
structure HidCalls (s : Sv) (w : World) (pk : ByteArray → Int → Vals) : Prop where
  chk : ∀ wX, Behind s w wX → Calls Tryd.prog 6 #[s.val] wX fun e w' => e = .returned (.int .i64 0) ∧ Below wX.heap.size wX w'
  set : ∀ key q wX, Behind s w wX → Calls Tryd.prog 7 #[s.val, .string key, .int .i64 q] wX (SetPost (pk key q) wX)
/-- What Hidden returns, from what the settings have. -/
def hidP (pk : ByteArray → Int → Vals) (day : Int) : Bool :=
  let d := pk kDraft 1
  let p := if (pk kPublish 4).isSome = true then pk kPublish 4 else pk kDate 4
  let e := pk kExpire 4
  d.bool || (p.isSome && decide (day < p.int)) || (e.isSome && decide (e.int ≤ day))
/-- What was known of a block stands. -/
theorem svStay {w1 w2 : World} {N : Nat} {o : Obj} {B : Nat} (h : w1.heap[N]? = some o) (hb : Below B w1 w2) (hN : N < B) : w2.heap[N]? = some o := (hb.block _ hN).trans h
theorem svStay1 {w1 w2 : World} {N : Nat} {o : Obj} (h : w1.heap[N]? = some o) (hb : Below w1.heap.size w1 w2) : w2.heap[N]? = some o := svStay h hb (by
  have := (Array.getElem?_eq_some_iff.1 h).1
  exact this)
theorem svHere {w1 : World} {N : Nat} {o : Obj} (h : w1.heap[N]? = some o) : N < w1.heap.size := (Array.getElem?_eq_some_iff.1 h).1
/-- The end of Hidden. -/
def hidEnd (b : Bool) (p : Vals) (e : Vals) (day : Int) : Bool := b || (p.isSome && decide (day < p.int)) || (e.isSome && decide (e.int ≤ day))
set_option maxRecDepth 100000 in
set_option maxHeartbeats 3200000 in
theorem hidden_gen (s : Sv) (day : Int) (w : World) (pk : ByteArray → Int → Vals) (hc : HidCalls s w pk) :
    Calls Tryd.prog 4 #[s.val, .int .i64 day] w fun e w' => e = .returned (.bool (hidP pk day)) ∧ Below w.heap.size w w' := by
  have hP : hidP pk day = hidEnd (pk kDraft 1).bool (if (pk kPublish 4).isSome = true then pk kPublish 4 else pk kDate 4) (pk kExpire 4) day := rfl
  rw [hP]
  clear hP
  have H0 := Lib.hid hc.chk
  have H1 := Lib.hid (hc.set kDraft 1)
  have H2 := Lib.hid (hc.set kPublish 4)
  have H3 := Lib.hid (hc.set kDate 4)
  have H4 := Lib.hid (hc.set kExpire 4)
  clear hc
  generalize pk kDraft 1 = d at H1 ⊢
  generalize pk kPublish 4 = p at H2 ⊢
  generalize pk kDate 4 = da at H3 ⊢
  generalize pk kExpire 4 = ex at H4 ⊢
  obtain ⟨pp, hpp⟩ : ∃ pp, (if p.isSome = true then p else da) = pp := ⟨_, rfl⟩
  rw [hpp]
  have HPP := Lib.hid hpp
  clear hpp
  have HI := Lib.hid (Behind.start s w)
  obtain ⟨y0, y1, y2, y3, y4, y5⟩ := HI.out.cells
  unfold Sv.box Sv.val at *
  go_enter Tryd.func4, Tryd.ntmps4
  go_wp2_with fail
  refine (H0.out _ HI.out).mono ?_
  rintro e w1 ⟨rfl, hb1⟩
  have hi1 := HI.out.call hb1
  clear y0 y1 y2 y3 y4 y5
  obtain ⟨y0, y1, y2, y3, y4, y5⟩ := hi1.cells
  have HI1 := Lib.hid hi1
  clear hi1 hb1
  go_wp2_with fail
  refine (H1.out _ HI1.out).mono ?_
  rintro e w2 ⟨a1, rfl, hrow1, -, hb2⟩
  have hi2 := HI1.out.call hb2
  clear y0 y1 y2 y3 y4 y5
  obtain ⟨y0, y1, y2, y3, y4, y5⟩ := (hi2.alloc a1.box).cells
  have HI2 := Lib.hid (hi2.alloc a1.box)
  have HN1 := Lib.hid (svNew w2 a1)
  obtain ⟨-, g1, -⟩ := orZero_at hrow1
  have G1 := Lib.hid g1
  clear hi2 hb2 g1 hrow1
  obtain ⟨k1, bo1, i1, t1, A1, n1, c1, A2, n2, c2, it1, ks1⟩ := a1
  dsimp only at G1
  obtain ⟨x1, hx1⟩ : ∃ x, d.isSome = x := ⟨_, rfl⟩
  rw [hx1]
  clear hx1
  unfold Sv.box at HI2 HN1 y0 y1 y2 y3 y4 y5
  unfold Sv.val
  go_wp2_with fail
  refine (H2.out _ HI2.out).mono ?_
  rintro e w3 ⟨a2, rfl, hrow2, -, hb3⟩
  have hn1 := svStay1 HN1.out hb3
  have hi3 := HI2.out.call hb3
  clear y0 y1 y2 y3 y4 y5
  obtain ⟨y0, y1, y2, y3, y4, y5⟩ := (hi3.alloc a2.box).cells
  have HI3 := Lib.hid (hi3.alloc a2.box)
  have hs3 := hi3.size
  have HN2 := Lib.hid (svNew w3 a2)
  have HN1' := Lib.hid (svStay1 hn1 ((Below.refl _ _).alloc (Nat.le_refl _) a2.box))
  have HL := Lib.hid (svHere hn1)
  obtain ⟨-, -, g2⟩ := orZero_at hrow2
  have G2 := Lib.hid g2
  clear hi3 hb3 g2 hrow2 hn1
  obtain ⟨k2, bo2, i2, t2, B1, m1, d1, B2, m2, d2, it2, ks2⟩ := a2
  dsimp only at G2
  unfold Sv.box at HI3 HN2 HN1' y0 y1 y2 y3 y4 y5
  dsimp only at HI3 HN2 HN1' y0 y1 y2 y3 y4 y5
  unfold Sv.val
  dsimp only
  cases hx2 : p.isSome
  · have HX2 := Lib.hid hx2
    clear hx2
    go_wp2_with fail
    refine (H3.out _ HI3.out).mono ?_
    rintro e w4 ⟨a3, rfl, hrow3, -, hb4⟩
    have hi4 := HI3.out.call hb4
    have hn1 := svStay1 HN1'.out hb4
    have hn2 := svStay1 HN2.out hb4
    have HT := Lib.hid (svThere (a := ⟨k2, bo2, i2, t2, B1, m1, d1, B2, m2, d2, it2, ks2⟩) hn2)
    obtain ⟨-, -, g3⟩ := orZero_at hrow3
    have hh1 := svHere hn1
    have hh2 := svHere hn2
    obtain ⟨k3, bo3, i3, t3, C1, u1, v1, C2, u2, v2, it3, ks3⟩ := a3
    dsimp only at g3
    obtain ⟨w5, hw5⟩ : ∃ w5, w4.setCells w3.heap.size 0 (#[Value.int .i64 k3, .bool bo3, .int .i64 i3, .string t3, .slice C1 u1 v1, .slice C2 u2 v2] : Array Value).toList = w5 := ⟨_, rfl⟩
    have hr5 : w5.rangeAt w3.heap.size 0 (#[Value.int .i64 k3, .bool bo3, .int .i64 i3, .string t3, .slice C1 u1 v1, .slice C2 u2 v2] : Array Value).toList := by
      rw [← hw5]
      exact World.rangeAt_setCells_same w4 _ _ _ HT.out
    have hb5 : Below w3.heap.size w4 w5 := by
      rw [← hw5]
      exact below_setCells' (Nat.le_refl _) _ _ (Below.refl _ _)
    have hi5 : Behind ⟨s.k, s.bo, s.i, s.t, s.A1, s.n1, s.c1, s.A2, s.n2, s.c2, s.items, s.keys⟩ w w5 := Below.trans hi4 (hb5.mono hs3)
    have hn15 := svStay hn1 hb5 HL.out
    clear y0 y1 y2 y3 y4 y5
    obtain ⟨y0, y1, y2, y3, y4, y5⟩ := hi5.cells
    have HI5 := Lib.hid hi5
    have HC1 := Lib.hid (svCells (a := ⟨k1, bo1, i1, t1, A1, n1, c1, A2, n2, c2, it1, ks1⟩) hn15).2.1
    have HC2 := Lib.hid (hr5 2 (.int .i64 i3) rfl)
    have hs5 := hb5.size
    have HS1 := Lib.hid (show w2.heap.size < w5.heap.size by omega)
    have HS2 := Lib.hid (show w3.heap.size < w5.heap.size by omega)
    have HW5 := Lib.hid hw5
    have HG := Lib.hid (show pp.isSome = da.isSome ∧ pp.int = i3 by rw [← HPP.out, HX2.out]; exact ⟨rfl, g3.symm⟩)
    obtain ⟨x3, hx3⟩ : ∃ x3, da.isSome = x3 := ⟨_, rfl⟩
    rw [hx3] at HG ⊢
    clear hi4 hn1 hn2 g3 hh1 hh2 hw5 hr5 hs3 hb5 hi5 hn15 hs5 hb4 hrow3 hx3
    unfold Sv.val
    dsimp only
    go_wp2_with (refine wpList_store_mid rfl 25 (.tmp 7) (.tmp 29) rfl w3.heap.size 0 #[Value.int .i64 k3, .bool bo3, .int .i64 i3, .string t3, .slice C1 u1 v1, .slice C2 u2 v2] rfl rfl HT.out sv_size (by simp [Value.oneCell']) ?_; rw [HW5.out])
    cases x3
    · refine (H4.out _ HI5.out).mono ?_
      rintro e w6 ⟨a4, rfl, hrow4, -, hb6⟩
      have hc1 := (hb6.cell (p := ⟨w2.heap.size, 1, none⟩) HS1.out).trans HC1.out
      have hc2 := (hb6.cell (p := ⟨w3.heap.size, 2, none⟩) HS2.out).trans HC2.out
      have hl1 := Nat.lt_of_lt_of_le HS1.out hb6.size
      have hl2 := Nat.lt_of_lt_of_le HS2.out hb6.size
      obtain ⟨-, -, g4⟩ := orZero_at hrow4
      have HBF := Lib.hid (((HI5.out.call hb6).alloc a4.box).old)
      obtain ⟨k4, bo4, i4, t4, E1, p1, q1, E2, p2, q2, it4, ks4⟩ := a4
      dsimp only at g4
      have G4 := Lib.hid g4
      unfold Sv.box at HBF
      dsimp only at HBF
      unfold Sv.val
      dsimp only
      clear y0 y1 y2 y3 y4 y5 hrow4 g4 hb6
      cases hx4 : ex.isSome <;> cases bo1 <;>
        (have HX4 := Lib.hid hx4; clear hx4; go_wp2_with fail; all_goals (go_ret; exact ⟨retB (by unfold hidEnd; rw [← G1.out, HG.out.1, HG.out.2, HX4.out, ← G4.out]; first | (simp; done) | (simp; omega)), HBF.out⟩))
    · refine (H4.out _ HI5.out).mono ?_
      rintro e w6 ⟨a4, rfl, hrow4, -, hb6⟩
      have hc1 := (hb6.cell (p := ⟨w2.heap.size, 1, none⟩) HS1.out).trans HC1.out
      have hc2 := (hb6.cell (p := ⟨w3.heap.size, 2, none⟩) HS2.out).trans HC2.out
      have hl1 := Nat.lt_of_lt_of_le HS1.out hb6.size
      have hl2 := Nat.lt_of_lt_of_le HS2.out hb6.size
      obtain ⟨-, -, g4⟩ := orZero_at hrow4
      have HBF := Lib.hid (((HI5.out.call hb6).alloc a4.box).old)
      obtain ⟨k4, bo4, i4, t4, E1, p1, q1, E2, p2, q2, it4, ks4⟩ := a4
      dsimp only at g4
      have G4 := Lib.hid g4
      unfold Sv.box at HBF
      dsimp only at HBF
      unfold Sv.val
      dsimp only
      clear y0 y1 y2 y3 y4 y5 hrow4 g4 hb6
      cases hx4 : ex.isSome <;> cases bo1 <;>
        (have HX4 := Lib.hid hx4; clear hx4; go_wp2_with fail; all_goals (go_ret; exact ⟨retB (by unfold hidEnd; rw [← G1.out, HG.out.1, HG.out.2, HX4.out, ← G4.out]; first | (simp; done) | (simp; omega)), HBF.out⟩))
  · have HL2 := Lib.hid (svHere HN2.out)
    have HC1 := Lib.hid (svCells (a := ⟨k1, bo1, i1, t1, A1, n1, c1, A2, n2, c2, it1, ks1⟩) HN1'.out).2.1
    have HC2 := Lib.hid (svCells (a := ⟨k2, bo2, i2, t2, B1, m1, d1, B2, m2, d2, it2, ks2⟩) HN2.out).2.2.1
    have HS1 := Lib.hid (svHere HN1'.out)
    have HS2 := HL2
    have HG := Lib.hid (show pp.isSome = true ∧ pp.int = i2 by rw [← HPP.out, hx2]; exact ⟨hx2, G2.out.symm⟩)
    clear hx2
    have HI5 := HI3
    go_wp2_with fail
    clear HN1 HN1' HN2 HL HL2
    generalize w3.alloc (Obj.cells #[.int .i64 k2, .bool bo2, .int .i64 i2, .string t2, .slice B1 m1 d1, .slice B2 m2 d2] 25) = w5 at HI3 HI5 HC1 HC2 HS1 HS2 y0 y1 y2 y3 y4 y5 ⊢
    refine (H4.out _ HI5.out).mono ?_
    rintro e w6 ⟨a4, rfl, hrow4, -, hb6⟩
    have hc1 := (hb6.cell (p := ⟨w2.heap.size, 1, none⟩) HS1.out).trans HC1.out
    have hc2 := (hb6.cell (p := ⟨w3.heap.size, 2, none⟩) HS2.out).trans HC2.out
    have hl1 := Nat.lt_of_lt_of_le HS1.out hb6.size
    have hl2 := Nat.lt_of_lt_of_le HS2.out hb6.size
    obtain ⟨-, -, g4⟩ := orZero_at hrow4
    have HBF := Lib.hid (((HI5.out.call hb6).alloc a4.box).old)
    obtain ⟨k4, bo4, i4, t4, E1, p1, q1, E2, p2, q2, it4, ks4⟩ := a4
    dsimp only at g4
    have G4 := Lib.hid g4
    unfold Sv.box at HBF
    dsimp only at HBF
    unfold Sv.val
    dsimp only
    clear y0 y1 y2 y3 y4 y5 hrow4 g4 hb6
    cases hx4 : ex.isSome <;> cases bo1 <;>
      (have HX4 := Lib.hid hx4; clear hx4; go_wp2_with fail; all_goals (go_ret; exact ⟨retB (by unfold hidEnd; rw [← G1.out, HG.out.1, HG.out.2, HX4.out, ← G4.out]; first | (simp; done) | (simp; omega)), HBF.out⟩))
end Go.Proofs.YtohkdckllmmfhaaDoor
