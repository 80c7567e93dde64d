/- DERIVED. Whether a document is nested too deep: what deep, isDeep return, by induction over the document; and with the rest of the check, what DocError and Check return. Condition: at most 2^40 nodes. -/
import Derived.Test.YtmaahkonjpcgiabChkF
set_option linter.unusedSimpArgs false
set_option linter.unusedVariables false
namespace Go.Proofs.Ytmaahkonjpcgiab
open Go.RowKit

def headDeep (k : Int) (c : Doc) (b i : Int) : Bool :=
  if 11 ≤ k ∧ k ≤ 18 then decide (12 < b) || decide (12 < i + 1) || c.deep b (i + 1) else decide (12 < b + 1) || decide (12 < i) || c.deep (b + 1) i
theorem deep_cons (k lv : Int) (t d ti : ByteArray) (c r : Doc) (b i : Int) : (Doc.cons k lv t d ti c r).deep b i = (headDeep k c b i || r.deep b i) := rfl

set_option maxRecDepth 100000 in
set_option maxHeartbeats 800000 in
theorem deepR_any (N : Nat) : ∀ (a : Doc) (A : Option Addr) (n c : Nat) (bl il : Int) (w : World), a.nodes ≤ N → a.nodes ≤ 1099511627776 → 0 ≤ bl → bl ≤ 12 → 0 ≤ il → il ≤ 12 → a.At w w.heap.size A n →
    Calls Try.prog 26 #[.slice A n c, .int .i64 bl, .int .i64 il] w fun e w' => e = .returned (.bool (a.deep bl il)) ∧ Below w.heap.size w w' := by
  induction N with
  | zero =>
    intro a A n c bl il w hN _ _ _ _ _ ha
    have h0 : a = .nil := by
      cases a with
      | nil => rfl
      | cons => simp [Doc.nodes] at hN
    subst h0
    obtain rfl : n = 0 := ha.len_eq
    clear ha hN
    go_enter Try.func26, Try.ntmps26
    go_wp2_with fail
    refine wp_loop_rounds 1 ?_
    rw [rounds_succ]
    go_wp2_with fail
    go_ret
    exact ⟨rfl, Below.refl _ _⟩
  | succ N ih =>
    intro a A n c bl il w hN hbig hb0 hb1 hi0 hi1 ha
    have IH := Lib.hid ih; clear ih
    have hnl := ha.len_eq
    have hn : n ≤ 1099511627776 := Nat.le_trans (by rw [hnl]; exact Doc.len_le a) hbig
    have HNL := Lib.hid hnl; clear hnl
    have HA := Lib.hid ha; clear ha
    go_enter Try.func26, Try.ntmps26
    go_wp2_with fail
    go_loopw [13] (fun i wr => ∃ k : Nat, k ≤ n ∧ i = .int .i64 k ∧ a.deep bl il = (a.drop k).deep bl il ∧ Below w.heap.size w wr) (fun i _ => n - (intOf i).toNat)
    case atStart => exact ⟨0, Nat.zero_le _, rfl, by rw [Doc.drop_zero'], Below.refl _ _⟩
    case round =>
      obtain ⟨k, hk, rfl, hx, hbw⟩ := hrel
      have HX := Lib.hid hx; clear hx
      by_cases hlt : k < n
      · obtain ⟨b, off, k1, l1, t1, d1, i1, A1, n1, c1, kd, r, rfl, e1, e2, E⟩ := HA.out.el k hlt
        have E' := E.below hbw
        obtain ⟨hlb, x0, x1, x2, x3, x4, x5, hnc, hcm, _, _, hts, hds, htis, hat⟩ := E'
        clear E
        have hsb : b < wr.heap.size := Nat.lt_of_lt_of_le hlb hbw.size
        have hkn : kd.nodes ≤ N ∧ kd.nodes ≤ 1099511627776 := by
          have h1 := Doc.nodes_drop' k a
          rw [e1] at h1
          simp only [Doc.nodes] at h1
          omega
        have hin := fun wX => isInlineR_any k1 wX
        have hcall : ∀ b2 i2 wX, 0 ≤ b2 → b2 ≤ 12 → 0 ≤ i2 → i2 ≤ 12 → Below w.heap.size wr wX → Calls Try.prog 26 #[.slice A1 n1 c1, .int .i64 b2, .int .i64 i2] wX fun e w' => e = .returned (.bool (kd.deep b2 i2)) ∧ Below wX.heap.size wX w' := fun b2 i2 wX g1 g2 g3 g4 hX =>
          IH.out kd A1 n1 c1 b2 i2 wX hkn.1 hkn.2 g1 g2 g3 g4 ((hat.below hX).more (Nat.le_trans hbw.size hX.size))
        have hcons : a.deep bl il = (headDeep k1 kd bl il || r.deep bl il) := by
          rw [HX.out, e1]; rfl
        have HC := Lib.hid hcall; clear hcall
        have HI := Lib.hid hin; clear hin
        have HCO := Lib.hid hcons; clear hcons
        have HE2 := Lib.hid e2; clear e1 e2 hat hkn hnc hcm hts hds htis
        have hw0 : Below w.heap.size wr (wr.alloc (.cells #[.int .i64 k1, .int .i64 l1, .string t1, .string d1, .string i1, .slice A1 n1 c1] 47)) := (Below.refl _ _).alloc hbw.size _
        have H0 := Lib.hid hw0; clear hw0
        go_wp2_with fail
        refine (HI.out _).mono ?_
        rintro e w1 ⟨rfl, rfl⟩
        by_cases hq : 11 ≤ k1 ∧ k1 ≤ 18
        · have hh : headDeep k1 kd bl il = (decide (12 < bl) || decide (12 < il + 1) || kd.deep bl (il + 1)) := by unfold headDeep; rw [if_pos hq]
          have HH := Lib.hid hh; clear hh
          simp only [hq, decide_true, and_self]
          by_cases hi2 : il = 12
          · subst hi2
            go_wp2_with fail
            go_ret
            exact ⟨retB (by rw [HCO.out, HH.out]; simp), hbw.trans H0.out⟩
          · have hi3 : il + 1 ≤ 12 := by omega
            go_wp2_with fail
            refine (HC.out bl (il + 1) _ hb0 hb1 (by omega) hi3 H0.out).mono ?_
            rintro e w2 ⟨rfl, hb3⟩
            have hb4 := hbw.trans (H0.out.trans (hb3.mono (Nat.le_trans hbw.size H0.out.size)))
            clear hb3
            cases hz : kd.deep bl (il + 1) with
            | true =>
              have HZ := Lib.hid hz; clear hz
              go_wp2_with fail
              go_ret
              exact ⟨retB (by rw [HCO.out, HH.out, HZ.out]; simp), hb4⟩
            | false =>
              have HZ := Lib.hid hz; clear hz
              go_wp2_with fail
              go_roundw
              case rel => exact ⟨k + 1, by omega, by go_num, by rw [HCO.out, HH.out, HZ.out, HE2.out]; simp; omega, hb4⟩
              case measure => simp [intOf]; omega
        · have hh : headDeep k1 kd bl il = (decide (12 < bl + 1) || decide (12 < il) || kd.deep (bl + 1) il) := by unfold headDeep; rw [if_neg hq]
          have HH := Lib.hid hh; clear hh
          simp only [hq, decide_false]
          by_cases hi2 : bl = 12
          · subst hi2
            go_wp2_with fail
            go_ret
            exact ⟨retB (by rw [HCO.out, HH.out]; simp), hbw.trans H0.out⟩
          · have hi3 : bl + 1 ≤ 12 := by omega
            have hi4 : ¬ 12 < bl + 1 := by omega
            have hi5 : ¬ 12 < il := by omega
            go_wp2_with fail
            refine (HC.out (bl + 1) il _ (by omega) hi3 hi0 hi1 H0.out).mono ?_
            rintro e w2 ⟨rfl, hb3⟩
            have hb4 := hbw.trans (H0.out.trans (hb3.mono (Nat.le_trans hbw.size H0.out.size)))
            clear hb3
            cases hz : kd.deep (bl + 1) il with
            | true =>
              have HZ := Lib.hid hz; clear hz
              go_wp2_with fail
              go_ret
              exact ⟨retB (by rw [HCO.out, HH.out, HZ.out]; simp), hb4⟩
            | false =>
              have HZ := Lib.hid hz; clear hz
              go_wp2_with fail
              go_roundw
              case rel => exact ⟨k + 1, by omega, by go_num, by rw [HCO.out, HH.out, HZ.out, HE2.out]; simp; omega, hb4⟩
              case measure => simp [intOf]; omega
      · obtain rfl : k = n := by omega
        have hd : a.drop k = .nil := by rw [HNL.out, Doc.drop_len']
        have HD := Lib.hid hd; clear hd
        go_wp2_with fail
        go_ret
        exact ⟨retB (by rw [HX.out, HD.out]; rfl), hbw⟩

/-- What is asked of the function value at the elements. -/
def Tells (a : Doc) (n : Nat) (lb : Array Value) (bl il : Int) (w : World) : Prop :=
  ∀ (wX : World) (k : Nat), Below w.heap.size w wX → k < n → ∀ (k1 l1 : Int) (t1 d1 i1 : ByteArray) (A1 : Option Addr) (n1 c1 : Nat) (kd r : Doc), a.drop k = .cons k1 l1 t1 d1 i1 kd r → kd.At wX wX.heap.size A1 n1 →
    Calls Try.prog 39 (#[.agg #[.int .i64 k1, .int .i64 l1, .string t1, .string d1, .string i1, .slice A1 n1 c1]] ++ lb) wX fun e w' => e = .returned (.bool (headDeep k1 kd bl il)) ∧ Below wX.heap.size wX w'

set_option maxRecDepth 100000 in
set_option maxHeartbeats 800000 in
theorem IndexFunc_any (a : Doc) (A : Option Addr) (n c : Nat) (bl il : Int) (p1 p2 : Option Addr) (w : World) (hn : n ≤ 1099511627776) (ha : a.At w w.heap.size A n) (hf : Tells a n #[.pointer p1, .pointer p2] bl il w) :
    Calls Try.prog 45 #[.slice A n c, .func (.func 39) #[] #[.pointer p1, .pointer p2]] w fun e w' => ∃ r : Int, e = .returned (.int .i64 r) ∧ decide (0 ≤ r) = a.deep bl il ∧ Below w.heap.size w w' := by
  have hnl := ha.len_eq
  have HNL := Lib.hid hnl; clear hnl
  have HA := Lib.hid ha; clear ha
  have HF := Lib.hid hf; clear hf
  have eg : ∀ args w, (callFunc 39 args).run Try.prog w = .ok (.enter 39 args) w := enters_of Try.func39 (by kernel_rfl) rfl
  go_enter Try.func45, Try.ntmps45
  go_wp2_with fail
  go_loopw [8] (fun i wr => ∃ k : Nat, k ≤ n ∧ i = .int .i64 k ∧ a.deep bl il = (a.drop k).deep bl il ∧ Below w.heap.size w wr) (fun i _ => n - (intOf i).toNat)
  case atStart => exact ⟨0, Nat.zero_le _, rfl, by rw [Doc.drop_zero'], Below.refl _ _⟩
  case round =>
    obtain ⟨k, hk, rfl, hx, hbw⟩ := hrel
    have HX := Lib.hid hx; clear hx
    by_cases hlt : k < n
    · obtain ⟨b, off, k1, l1, t1, d1, i1, A1, n1, c1, kd, r, rfl, e1, e2, E⟩ := HA.out.el k hlt
      have E' := E.below hbw
      obtain ⟨hlb, x0, x1, x2, x3, x4, x5, _, _, _, _, _, _, _, hat⟩ := E'
      clear E
      have hsb : b < wr.heap.size := Nat.lt_of_lt_of_le hlb hbw.size
      have hcall := HF.out wr k hbw hlt k1 l1 t1 d1 i1 A1 n1 c1 kd r e1 (hat.more hbw.size)
      have hcons : a.deep bl il = (headDeep k1 kd bl il || r.deep bl il) := by
        rw [HX.out, e1]; rfl
      have HC := Lib.hid hcall; clear hcall
      have HCO := Lib.hid hcons; clear hcons
      have HE2 := Lib.hid e2; clear e1 e2 hat
      go_wp2_with fail
      refine HC.out.mono ?_
      rintro e w2 ⟨rfl, hb3⟩
      have hb4 := hbw.trans (hb3.mono hbw.size)
      clear hb3
      cases hz : headDeep k1 kd bl il with
      | true =>
        have HZ := Lib.hid hz; clear hz
        go_wp2_with fail
        go_ret
        exact ⟨k, rfl, by rw [HCO.out, HZ.out]; simp, hb4⟩
      | false =>
        have HZ := Lib.hid hz; clear hz
        go_wp2_with fail
        go_roundw
        case rel => exact ⟨k + 1, by omega, by go_num, by rw [HCO.out, HZ.out, HE2.out]; rfl, hb4⟩
        case measure => simp [intOf]; omega
    · obtain rfl : k = n := by omega
      have hd : a.drop k = .nil := by rw [HNL.out, Doc.drop_len']
      have HD := Lib.hid hd; clear hd
      go_wp2_with fail
      go_ret
      exact ⟨-1, rfl, by rw [HX.out, HD.out]; rfl, hbw⟩

set_option maxRecDepth 100000 in
set_option maxHeartbeats 800000 in
theorem ContainsFunc_any (a : Doc) (A : Option Addr) (n c : Nat) (bl il : Int) (p1 p2 : Option Addr) (w : World) (hn : n ≤ 1099511627776) (ha : a.At w w.heap.size A n) (hf : Tells a n #[.pointer p1, .pointer p2] bl il w) :
    Calls Try.prog 38 #[.slice A n c, .func (.func 39) #[] #[.pointer p1, .pointer p2]] w fun e w' => e = .returned (.bool (a.deep bl il)) ∧ Below w.heap.size w w' := by
  have HC := Lib.hid (IndexFunc_any a A n c bl il p1 p2 w hn ha hf); clear ha hf
  go_enter Try.func38, Try.ntmps38
  go_wp2_with fail
  refine HC.out.mono ?_
  rintro e w2 ⟨r, rfl, hr, hb3⟩
  have HR := Lib.hid hr; clear hr
  go_wp2_with fail
  go_ret
  exact ⟨retB (by rw [← HR.out]), hb3⟩

set_option maxRecDepth 100000 in
set_option maxHeartbeats 800000 in
theorem isDeep1_any (k1 l1 : Int) (t1 d1 i1 : ByteArray) (A1 : Option Addr) (n1 c1 : Nat) (kd : Doc) (bl il : Int) (p1 p2 : Addr) (w : World)
    (hb0 : 0 ≤ bl) (hb1 : bl ≤ 12) (hi0 : 0 ≤ il) (hi1 : il ≤ 12)
    (c1' : w.cell? p1 = some (.int .i64 bl)) (c2' : w.cell? p2 = some (.int .i64 il)) (hp1 : p1.block < w.heap.size) (hp2 : p2.block < w.heap.size)
    (hc : ∀ b2 i2 wX, 0 ≤ b2 → b2 ≤ 13 → 0 ≤ i2 → i2 ≤ 13 → Below w.heap.size w wX → Calls Try.prog 31 #[.slice A1 n1 c1, .int .i64 b2, .int .i64 i2] wX fun e w' => e = .returned (.bool (decide (12 < b2) || decide (12 < i2) || kd.deep b2 i2)) ∧ Below wX.heap.size wX w') :
    Calls Try.prog 39 #[.agg #[.int .i64 k1, .int .i64 l1, .string t1, .string d1, .string i1, .slice A1 n1 c1], .pointer (some p1), .pointer (some p2)] w fun e w' => e = .returned (.bool (headDeep k1 kd bl il)) ∧ Below w.heap.size w w' := by
  have HC := Lib.hid hc; clear hc
  have HI := Lib.hid (fun wX => isInline_any k1 wX)
  obtain ⟨o, ho⟩ : ∃ o, o = Obj.cells #[.int .i64 k1, .int .i64 l1, .string t1, .string d1, .string i1, .slice A1 n1 c1] 47 := ⟨_, rfl⟩
  have x1 : (w.alloc o).cell? p1 = some (.int .i64 bl) := ((Below.refl _ w).alloc (Nat.le_refl _) o).cell hp1 |>.trans c1'
  have x2 : (w.alloc o).cell? p2 = some (.int .i64 il) := ((Below.refl _ w).alloc (Nat.le_refl _) o).cell hp2 |>.trans c2'
  have hw0 : Below w.heap.size w (w.alloc o) := (Below.refl _ _).alloc (Nat.le_refl _) _
  rw [ho] at x1 x2 hw0
  have H0 := Lib.hid hw0; clear hw0 ho o
  go_enter Try.func39, Try.ntmps39
  go_wp2_with fail
  refine (HI.out _).mono ?_
  rintro e w1 ⟨rfl, rfl⟩
  by_cases hq : 11 ≤ k1 ∧ k1 ≤ 18
  · simp only [hq, decide_true, and_self]
    go_wp2_with fail
    refine (HC.out bl (il + 1) _ hb0 (by omega) (by omega) (by omega) H0.out).mono ?_
    rintro e w2 ⟨rfl, hb3⟩
    go_wp2_with fail
    go_ret
    exact ⟨retB (by unfold headDeep; rw [if_pos hq]), H0.out.trans (hb3.mono (by simp))⟩
  · simp only [hq, decide_false]
    go_wp2_with fail
    refine (HC.out (bl + 1) il _ (by omega) (by omega) (by omega) (by omega) H0.out).mono ?_
    rintro e w2 ⟨rfl, hb3⟩
    go_wp2_with fail
    go_ret
    exact ⟨retB (by unfold headDeep; rw [if_neg hq]), H0.out.trans (hb3.mono (by simp))⟩

set_option maxRecDepth 100000 in
set_option maxHeartbeats 800000 in
theorem isDeep_gen (a : Doc) (A : Option Addr) (n c : Nat) (bl il : Int) (w : World) (hbig : a.nodes ≤ 1099511627776) (hb0 : 0 ≤ bl) (hb1 : bl ≤ 13) (hi0 : 0 ≤ il) (hi1 : il ≤ 13) (ha : a.At w w.heap.size A n)
    (hc : ∀ (k : Nat) (k1 l1 : Int) (t1 d1 i1 : ByteArray) (kd r : Doc), k < n → a.drop k = .cons k1 l1 t1 d1 i1 kd r → ∀ (A1 : Option Addr) (n1 c1 : Nat) (b2 i2 : Int) (wX : World), 0 ≤ b2 → b2 ≤ 13 → 0 ≤ i2 → i2 ≤ 13 → kd.At wX wX.heap.size A1 n1 →
      Calls Try.prog 31 #[.slice A1 n1 c1, .int .i64 b2, .int .i64 i2] wX fun e w' => e = .returned (.bool (decide (12 < b2) || decide (12 < i2) || kd.deep b2 i2)) ∧ Below wX.heap.size wX w') :
    Calls Try.prog 31 #[.slice A n c, .int .i64 bl, .int .i64 il] w fun e w' => e = .returned (.bool (decide (12 < bl) || decide (12 < il) || a.deep bl il)) ∧ Below w.heap.size w w' := by
  have hmf : ∀ (fn : Fn) (first cap : Array Value) (w : World), (Instr.makeFunc fn first cap).run Try.prog w = .ok (.func fn first cap) w := fun _ _ _ _ => rfl
  have hn : n ≤ 1099511627776 := Nat.le_trans (by rw [ha.len_eq]; exact Doc.len_le a) hbig
  have HC := Lib.hid hc; clear hc
  obtain ⟨W, hW⟩ : ∃ W, W = (w.alloc (.cells #[.int .i64 bl] 3)).alloc (.cells #[.int .i64 il] 3) := ⟨_, rfl⟩
  have hbW : Below w.heap.size w W := by rw [hW]; exact ((Below.refl _ w).alloc (Nat.le_refl _) _).alloc (by simp) _
  have hs : W.heap.size = w.heap.size + 2 := by rw [hW]; simp
  have y1 : W.cell? ⟨w.heap.size, 0, none⟩ = some (.int .i64 bl) := by rw [hW]; simp
  have y2 : W.cell? ⟨w.heap.size + 1, 0, none⟩ = some (.int .i64 il) := by rw [hW]; simp
  have hcf : bl ≤ 12 → il ≤ 12 → Calls Try.prog 38 #[.slice A n c, .func (.func 39) #[] #[.pointer (some ⟨w.heap.size, 0, none⟩), .pointer (some ⟨w.heap.size + 1, 0, none⟩)]] W fun e w' => e = .returned (.bool (a.deep bl il)) ∧ Below w.heap.size w w' := fun g1 g2 =>
    (ContainsFunc_any a A n c bl il _ _ W hn ((ha.below hbW).more hbW.size) (fun wX k hX hk k1 l1 t1 d1 i1 A1 n1 c1 kd r he hat => by
      have h := isDeep1_any k1 l1 t1 d1 i1 A1 n1 c1 kd bl il ⟨w.heap.size, 0, none⟩ ⟨w.heap.size + 1, 0, none⟩ wX hb0 g1 hi0 g2
        ((hX.cell (by simp [hs])).trans y1) ((hX.cell (by simp [hs])).trans y2) (Nat.lt_of_lt_of_le (by simp [hs]) hX.size) (Nat.lt_of_lt_of_le (by simp [hs]) hX.size)
        (fun b2 i2 wY q1 q2 q3 q4 hY => HC.out k k1 l1 t1 d1 i1 kd r hk he A1 n1 c1 b2 i2 wY q1 q2 q3 q4 ((hat.below hY).more hY.size))
      exact h)).mono fun e w' ⟨he, hb⟩ => ⟨he, hbW.trans (hb.mono hbW.size)⟩
  rw [hW] at hcf hbW
  have HCF := Lib.hid hcf
  have HBW := Lib.hid hbW
  clear hcf y1 y2 hs hbW hW W HC ha
  go_enter Try.func31, Try.ntmps31
  by_cases h1 : bl = 13
  · subst h1
    go_wp2_with fail
    go_ret
    exact ⟨rfl, HBW.out⟩
  · have h2 : bl ≤ 12 := by omega
    have h2' : ¬ 12 < bl := by omega
    by_cases h3 : il = 13
    · subst h3
      go_wp2_with fail
      go_ret
      exact ⟨retB (by simp), HBW.out⟩
    · have h4 : il ≤ 12 := by omega
      have h4' : ¬ 12 < il := by omega
      go_wp2_with fail
      refine (HCF.out h2 h4).mono ?_
      rintro e w2 ⟨rfl, hb3⟩
      go_wp2_with fail
      go_ret
      exact ⟨retB (by rw [decide_eq_false (show ¬ 12 < bl by omega), decide_eq_false (show ¬ 12 < il by omega)]; rfl), hb3⟩

theorem isDeep_any (N : Nat) : ∀ (a : Doc) (A : Option Addr) (n c : Nat) (bl il : Int) (w : World), a.nodes ≤ N → a.nodes ≤ 1099511627776 → 0 ≤ bl → bl ≤ 13 → 0 ≤ il → il ≤ 13 → a.At w w.heap.size A n →
    Calls Try.prog 31 #[.slice A n c, .int .i64 bl, .int .i64 il] w fun e w' => e = .returned (.bool (decide (12 < bl) || decide (12 < il) || a.deep bl il)) ∧ Below w.heap.size w w' := by
  induction N with
  | zero =>
    intro a A n c bl il w hN hbig hb0 hb1 hi0 hi1 ha
    have h0 : n = 0 := by
      have h1 := Doc.len_le a
      have h2 := ha.len_eq
      omega
    exact isDeep_gen _ A n c bl il w hbig hb0 hb1 hi0 hi1 ha fun _ _ _ _ _ _ _ _ h => absurd h (by omega)
  | succ N ih =>
    intro a A n c bl il w hN hbig hb0 hb1 hi0 hi1 ha
    refine isDeep_gen _ A n c bl il w hbig hb0 hb1 hi0 hi1 ha fun k k1 l1 t1 d1 i1 kd r hk he A1 n1 c1 b2 i2 wX q1 q2 q3 q4 hat => ?_
    have h1 := Doc.nodes_drop' k a
    rw [he] at h1
    simp only [Doc.nodes] at h1
    exact ih kd A1 n1 c1 b2 i2 wX (by omega) (by omega) q1 q2 q3 q4 hat

set_option maxRecDepth 100000 in
set_option maxHeartbeats 800000 in
theorem DocError_any (a : Doc) (A : Option Addr) (n c : Nat) (w : World) (hbig : a.nodes ≤ 1099511627776) (ha : a.At w w.heap.size A n) :
    Calls Try.prog 8 #[.slice A n c] w fun e w' => e = .returned (.int .i64 a.docErr) ∧ Below w.heap.size w w' := by
  have H1 := Lib.hid (nodesR_any a.nodes a A n c w (Nat.le_refl _) hbig ha)
  have H2 := Lib.hid (fun wX (hX : Below w.heap.size w wX) => deepR_any a.nodes a A n c 0 0 wX (Nat.le_refl _) hbig (by omega) (by omega) (by omega) (by omega) ((ha.below hX).more hX.size))
  have H3 := Lib.hid (fun wX (hX : Below w.heap.size w wX) => nodesErrorR_any a.nodes a A n c 0 wX (Nat.le_refl _) hbig ((ha.below hX).more hX.size))
  have hbi : (a.nodes : Int) ≤ 1099511627776 := by omega
  clear ha
  go_enter Try.func8, Try.ntmps8
  go_wp2_with fail
  refine H1.out.mono ?_
  rintro e w1 ⟨rfl, hb1⟩
  by_cases h1 : 4000 < a.nodes
  · go_wp2_with fail
    go_ret
    exact ⟨retI (by unfold Doc.docErr; rw [if_pos h1]), hb1⟩
  · go_wp2_with fail
    refine (H2.out w1 hb1).mono ?_
    rintro e w2 ⟨rfl, hb2⟩
    have hb3 := hb1.trans (hb2.mono hb1.size)
    cases hz : a.deep 0 0 with
    | true =>
      have HZ := Lib.hid hz; clear hz
      go_wp2_with fail
      go_ret
      exact ⟨retI (by unfold Doc.docErr; rw [if_neg h1, if_pos HZ.out]), hb3⟩
    | false =>
      have HZ := Lib.hid hz; clear hz
      go_wp2_with fail
      refine (H3.out w2 hb3).mono ?_
      rintro e w3 ⟨rfl, hb4⟩
      go_wp2_with fail
      go_ret
      exact ⟨retI (by unfold Doc.docErr; rw [if_neg h1, HZ.out, if_neg (by simp)]), hb3.trans (hb4.mono hb3.size)⟩

set_option maxRecDepth 100000 in
set_option maxHeartbeats 800000 in
theorem Check_any (a : Doc) (A : Option Addr) (n c : Nat) (w : World) (hbig : a.nodes ≤ 1099511627776) (ha : a.At w w.heap.size A n) :
    Calls Try.prog 16 #[.slice A n c] w fun e w' => e = .returned (.int .i64 a.docErr) ∧ Below w.heap.size w w' := by
  have H1 := Lib.hid (count_any a.nodes a A n c 4000 w (Nat.le_refl _) hbig (by omega) (by omega) ha)
  have H2 := Lib.hid (fun wX (hX : Below w.heap.size w wX) => isDeep_any a.nodes a A n c 0 0 wX (Nat.le_refl _) hbig (by omega) (by omega) (by omega) (by omega) ((ha.below hX).more hX.size))
  have H3 := Lib.hid (fun wX (hX : Below w.heap.size w wX) => checkNodes_any a.nodes a A n c 0 wX (Nat.le_refl _) hbig ((ha.below hX).more hX.size))
  clear ha
  go_enter Try.func16, Try.ntmps16
  go_wp2_with fail
  refine H1.out.mono ?_
  rintro e w1 ⟨r, rfl, g1, g2, g3, hb1⟩
  have hcase : 4000 < (r : Int) ↔ 4000 < a.nodes := by
    refine ⟨fun h => by have := g2 h; omega, fun h => ?_⟩
    rcases Int.lt_or_le 4000 (r : Int) with h2 | h2
    · exact h2
    · have := g1 h2
      omega
  have HCA := Lib.hid hcase; clear hcase g1 g2
  by_cases h1 : 4000 < r
  · go_wp2_with fail
    go_ret
    exact ⟨retI (by unfold Doc.docErr; rw [if_pos (HCA.out.1 (by omega))]), hb1⟩
  · go_wp2_with fail
    refine (H2.out w1 hb1).mono ?_
    rintro e w2 ⟨rfl, hb2⟩
    have hb3 := hb1.trans (hb2.mono hb1.size)
    have hno : ¬ 4000 < a.nodes := fun h => h1 (by have := HCA.out.2 h; omega)
    have HNO := Lib.hid hno; clear hno
    simp only [Int.reduceLT, decide_false, Bool.false_or]
    cases hz : a.deep 0 0 with
    | true =>
      have HZ := Lib.hid hz; clear hz
      go_wp2_with fail
      go_ret
      exact ⟨retI (by unfold Doc.docErr; rw [if_neg HNO.out, if_pos HZ.out]), hb3⟩
    | false =>
      have HZ := Lib.hid hz; clear hz
      go_wp2_with fail
      refine (H3.out w2 hb3).mono ?_
      rintro e w3 ⟨rfl, hb4⟩
      go_wp2_with fail
      go_ret
      exact ⟨retI (by unfold Doc.docErr; rw [if_neg HNO.out, HZ.out, if_neg (by simp)]), hb3.trans (hb4.mono hb3.size)⟩
end Go.Proofs.Ytmaahkonjpcgiab
