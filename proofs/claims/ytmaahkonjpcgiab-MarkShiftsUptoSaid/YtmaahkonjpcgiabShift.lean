/- DERIVED. What Shift returns for every document and number. Condition: at most 2^40 nodes. -/
import Derived.Test.YtmaahkonjpcgiabShiftWalk
import Derived.Test.YtmaahkonjpcgiabChkG
import Derived.BigGuardPart
set_option linter.unusedSimpArgs false
set_option linter.unusedVariables false
namespace Go.Proofs.Ytmaahkonjpcgiab
open Go.RowKit

theorem docErr_zero {a : Doc} (h : a.docErr = 0) : a.err 0 = 0 := by
  unfold Doc.docErr at h
  by_cases h1 : 4000 < a.nodes
  · rw [if_pos h1] at h; simp at h
  · rw [if_neg h1] at h
    cases h2 : a.deep 0 0 with
    | true => rw [h2, if_pos rfl] at h; simp at h
    | false => rw [h2, if_neg (by simp)] at h; exact h

def shErr (d b : Int) : Int := if d ≠ 0 then d else if b < -5 ∨ 5 < b then 2 else 0
def ShiftPost (a : Doc) (n : Nat) (d b : Int) (w : World) (e : Ending) (w' : World) : Prop :=
  (shErr d b ≠ 0 ∧ e = .returned (.tuple #[.slice none 0 0, .int .i64 (shErr d b)]) ∧ Below w.heap.size w w') ∨
  (shErr d b = 0 ∧ ∃ (A' : Option Addr) (c' : Nat), e = .returned (.tuple #[.slice A' n c', .int .i64 0]) ∧ n ≤ c' ∧ c' ≤ maxLen ∧ (a.shift b).At w' w'.heap.size A' n ∧ Below w.heap.size w w')

theorem lies_walk (b : Int) (hb0 : -5 ≤ b) (hb1 : b ≤ 5) (a : Doc) (n c lo : Nat) (A : Option Addr) (p : Addr) (w : World) (hbig : a.nodes ≤ 1099511627776) (hlv : a.lvOk) (hl : Lies a n lo A w) (hlo : lo ≤ w.heap.size) (hp : w.cell? p = some (.int .i64 b)) (hpl : p.block < lo) :
    Calls Try.prog 22 #[.slice A n c, .func (.func 28) #[] #[.pointer (some p)]] w fun e w' => e = .returned (.tuple #[]) ∧ (a.shift b).At w' w'.heap.size A n ∧ Below lo w w' := by
  rcases hl with ⟨g1, rfl⟩ | ⟨R, rfl, g2, g3, g4⟩
  · have h0 : a = .nil := by
      cases a with
      | nil => rfl
      | cons => simp [Doc.len] at g1
    subst h0
    refine (walk_nil A (some p) c w).mono ?_
    rintro e w' ⟨he, rfl⟩
    exact ⟨he, rfl, Below.refl _ _⟩
  · have hle := Doc.own_le g4
    refine (walkS_any b hb0 hb1 a.nodes a R 0 (R + 1) w.heap.size n c p w (Nat.le_refl _) hbig hlv g4 (by omega) g2 (Nat.le_refl _) hp (by omega) (by omega)).mono ?_
    rintro e w' ⟨he, ho, ht⟩
    have hat := Doc.own_at (B := w'.heap.size) (by have := ht.size; omega) (by have := ht.size; omega) ho
    rw [Doc.shift_len, ← g2] at hat
    exact ⟨he, hat, ht.os, ht.tape, ht.output, by rw [ht.size]; exact Nat.le_refl _, fun q hq => ht.block q (by omega) (by omega)⟩

set_option maxRecDepth 100000 in
set_option maxHeartbeats 1600000 in
theorem shift_any (a : Doc) (A : Option Addr) (n c : Nat) (d b : Int) (w : World) (hd : a.docErr = d) (hbig : a.nodes ≤ 1099511627776) (ha : a.At w w.heap.size A n) :
    Calls Try.prog 13 #[.slice A n c, .int .i64 b] w (ShiftPost a n d b w) := by
  have hmf : ∀ (fn : Fn) (first cap : Array Value) (w : World), (Instr.makeFunc fn first cap).run Try.prog w = .ok (.func fn first cap) w := fun _ _ _ _ => rfl
  obtain ⟨W, hW⟩ : ∃ W, W = w.alloc (.cells #[.int .i64 b] 3) := ⟨_, rfl⟩
  have hbW : Below w.heap.size w W := by rw [hW]; exact (Below.refl _ w).alloc (Nat.le_refl _) _
  have hsW : W.heap.size = w.heap.size + 1 := by rw [hW]; simp
  have hpW : W.cell? ⟨w.heap.size, 0, none⟩ = some (.int .i64 b) := by rw [hW]; simp
  have hka : ∀ wX, Below w.heap.size w wX → a.At wX wX.heap.size A n := fun wX hX => (ha.below hX).more hX.size
  have h1 := Check_any a A n c W hbig (hka W hbW)
  rw [hd] at h1
  have hlv : d = 0 → a.lvOk := fun h => Doc.lvOk_of_err a 0 (docErr_zero (hd.trans h))
  have h2 := fun wX hX => cloneO_any a.nodes a A n c wX (Nat.le_refl _) hbig (hka wX hX)
  have HKA := Lib.hid hka
  have H2 := Lib.hid h2
  have HLV := Lib.hid hlv
  have HB := Lib.hid hbW
  have HS := Lib.hid hsW
  have HP := Lib.hid hpW
  rw [hW] at h1 HB HS HP
  have H1 := Lib.hid h1
  clear h1 h2 hka hlv hbW hsW hpW hW ha hd W
  unfold ShiftPost
  by_cases h0 : d = 0
  · subst h0
    by_cases hb0 : b < -5
    · have he : shErr 0 b = 2 := by unfold shErr; rw [if_neg (by simp), if_pos (.inl hb0)]
      have HE := Lib.hid he; clear he
      go_enter Try.func13, Try.ntmps13
      go_wp2_with fail
      refine H1.out.mono ?_
      rintro e w1 ⟨rfl, hb1⟩
      have y := (hb1.cell (p := ⟨w.heap.size, 0, none⟩) (by rw [HS.out]; exact Nat.lt_succ_self _)).trans HP.out
      have hbw := HB.out.trans (hb1.mono (by rw [HS.out]; exact Nat.le_succ _))
      clear hb1
      go_wp2_with fail
      all_goals (first | (exfalso; omega) | skip)
      go_ret2
      exact .inl ⟨by rw [HE.out]; decide, by rw [HE.out]; rfl, hbw⟩
    by_cases hb1 : 5 < b
    · have he : shErr 0 b = 2 := by unfold shErr; rw [if_neg (by simp), if_pos (.inr hb1)]
      have HE := Lib.hid he; clear he
      go_enter Try.func13, Try.ntmps13
      go_wp2_with fail
      refine H1.out.mono ?_
      rintro e w1 ⟨rfl, hb1⟩
      have y := (hb1.cell (p := ⟨w.heap.size, 0, none⟩) (by rw [HS.out]; exact Nat.lt_succ_self _)).trans HP.out
      have hbw := HB.out.trans (hb1.mono (by rw [HS.out]; exact Nat.le_succ _))
      clear hb1
      go_wp2_with fail
      all_goals (first | (exfalso; omega) | skip)
      go_ret2
      exact .inl ⟨by rw [HE.out]; decide, by rw [HE.out]; rfl, hbw⟩
    have he : shErr 0 b = 0 := by unfold shErr; rw [if_neg (by simp), if_neg (by omega)]
    have HE := Lib.hid he; clear he
    have hb0' : -5 ≤ b := by omega
    have hb1' : b ≤ 5 := by omega
    go_enter Try.func13, Try.ntmps13
    go_wp2_with fail
    refine H1.out.mono ?_
    rintro e w1 ⟨rfl, hbc⟩
    have y := (hbc.cell (p := ⟨w.heap.size, 0, none⟩) (by rw [HS.out]; exact Nat.lt_succ_self _)).trans HP.out
    have hbw := HB.out.trans (hbc.mono (by rw [HS.out]; exact Nat.le_succ _))
    have hpl : w.heap.size < w1.heap.size := by have := hbc.size; rw [HS.out] at this; exact this
    clear hbc
    go_wp2_with fail
    all_goals (first | (exfalso; omega) | skip)
    refine (H2.out w1 hbw).mono ?_
    rintro e w2 ⟨A2, c2, rfl, hc2, hm2, hl2, hb2⟩
    have y2 := (hb2.cell (p := ⟨w.heap.size, 0, none⟩) hpl).trans y
    have hv := lies_walk b hb0' hb1' a n c2 w1.heap.size A2 ⟨w.heap.size, 0, none⟩ w2 hbig (HLV.out trivial) hl2 hb2.size y2 hpl
    have HV := Lib.hid hv; clear hv hl2
    have hbw2 := hbw.trans (hb2.mono hbw.size)
    have HC2 := Lib.hid (And.intro hc2 hm2); clear hc2 hm2 hb2 y
    go_wp2_with fail
    refine HV.out.mono ?_
    rintro e w3 ⟨rfl, hat, hb3⟩
    have HAT := Lib.hid hat; clear hat
    have hb4 := hbw2.trans (hb3.mono (Nat.le_of_lt hpl))
    go_wp2_with fail
    go_ret2
    exact .inr ⟨HE.out, A2, c2, rfl, HC2.out.1, HC2.out.2, HAT.out, hb4⟩
  · have he : shErr d b = d := by unfold shErr; rw [if_pos h0]
    have HE := Lib.hid he; clear he
    go_enter Try.func13, Try.ntmps13
    go_wp2_with fail
    refine H1.out.mono ?_
    rintro e w1 ⟨rfl, hb1⟩
    have hbw := HB.out.trans (hb1.mono (by rw [HS.out]; exact Nat.le_succ _))
    clear hb1
    go_wp2_with fail
    go_ret2
    exact .inl ⟨by rw [HE.out]; exact h0, by rw [HE.out]; rfl, hbw⟩
end Go.Proofs.Ytmaahkonjpcgiab
