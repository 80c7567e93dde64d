/- DERIVED. What mastref1.SameDoc returns for every two documents in memory: by induction over the first and a walk of its text. Condition: lists of fewer than 2^63 nodes. -/
import Derived.Test.YtmaahkonjpcgiabRows
import Derived.Test.YtmaahkonjpcgiabDoc
import Derived.WalkKit
import Derived.WalkSpells
import Derived.WalkLawsBesides
import Derived.WalkSmall
import Derived.Lib.Hide
import Derived.RegionTactic
import Derived.ChangeAlike
import Derived.BigRegion
import Derived.Handy
namespace Go.Proofs.Ytmaahkonjpcgiab
open Go.RowKit

namespace Doc
theorem drop_len : ∀ d : Doc, d.drop d.len = .nil
  | .nil => rfl
  | .cons _ _ _ _ _ _ r => drop_len r
theorem nodes_drop : ∀ (i : Nat) (d : Doc), (d.drop i).nodes ≤ d.nodes
  | 0, d => by cases d <;> exact Nat.le_refl _
  | i + 1, .nil => Nat.le_refl _
  | i + 1, .cons _ _ _ _ _ c r => by
    have := nodes_drop i r
    show (r.drop i).nodes ≤ c.nodes + r.nodes + 1
    omega
theorem drop_zero (d : Doc) : d.drop 0 = d := by cases d <;> rfl
end Doc

/-- What the walk reads of element i. -/
structure Elem (w : World) (B b o : Nat) (k lv : Int) (t d ti : ByteArray) (A : Option Addr) (n c : Nat) (kids : Doc) : Prop where
  lt : b < B
  c0 : w.cell? ⟨b, o, none⟩ = some (.int .i64 k)
  c1 : w.cell? ⟨b, o + 1, none⟩ = some (.int .i64 lv)
  c2 : w.cell? ⟨b, o + 2, none⟩ = some (.string t)
  c3 : w.cell? ⟨b, o + 3, none⟩ = some (.string d)
  c4 : w.cell? ⟨b, o + 4, none⟩ = some (.string ti)
  c5 : w.cell? ⟨b, o + 5, none⟩ = some (.slice A n c)
  nc : n ≤ c
  cm : c ≤ maxLen
  at_ : kids.At w B A n
theorem Doc.At.elem {w : World} {B : Nat} {d : Doc} {b off n : Nat} (i : Nat) (h : d.At w B (some ⟨b, off, none⟩) n) (hi : i < n) :
    ∃ k lv t dd ti A n' c' kids rest, d.drop i = .cons k lv t dd ti kids rest ∧ d.drop (i + 1) = rest ∧ Elem w B b (off + i * 6) k lv t dd ti A n' c' kids := by
  obtain ⟨k, lv, t, dd, ti, kids, rest, e1, e2, h2⟩ := Doc.At.get i h hi
  obtain ⟨b', off', m, A', n', c', h1, _, hb, c0, c1, c2, c3, c4, c5, h3, h4, _, _, _, _, _, hk, _⟩ := h2
  cases h1
  exact ⟨k, lv, t, dd, ti, A', n', c', kids, rest, e1, e2, hb, c0, c1, c2, c3, c4, c5, h3, h4, hk⟩

theorem below2d {B : Nat} {a w : World} (h : Below B a w) (hB : B ≤ w.heap.size) (o1 o2 : Obj) : Below B a ((w.alloc o1).alloc o2).drew := ((h.alloc hB o1).alloc (by simp; omega) o2).drew
theorem ret_bool {a b : Bool} (h : a = b) : Ending.returned (.bool b) = .returned (.bool a) := by rw [h]

set_option maxRecDepth 100000 in
set_option maxHeartbeats 2000000 in
theorem sameDoc_any (N : Nat) : ∀ (a b : Doc) (A A' : Option Addr) (n m c c' : Nat) (w : World), a.nodes ≤ N → n ≤ maxLen → m ≤ maxLen → a.At w w.heap.size A n → b.At w w.heap.size A' m →
    Calls Try.prog 12 #[.slice A n c, .slice A' m c'] w fun e w' => e = .returned (.bool (a.same b)) ∧ Below w.heap.size w w' := by
  induction N with
  | zero =>
    intro a b A A' n m c c' w hN hn hm ha hb
    unfold maxLen at hn hm
    have hla := ha.len_eq
    have hlb := hb.len_eq
    have h0 : a = .nil := by
      cases a with
      | nil => rfl
      | cons k lv t d ti kids rest => simp [Doc.nodes] at hN
    subst h0
    obtain rfl : n = 0 := hla
    clear ha hb
    by_cases hm0 : m = 0
    · subst hm0
      have hb0 : (Doc.nil).same b = true := by
        cases b with
        | nil => rfl
        | cons k lv t d ti kids rest => simp [Doc.len] at hlb
      have HF := Lib.hid hb0; clear hb0 hlb hN
      go_enter Try.func12, Try.ntmps12
      go_wp2_with fail
      refine wp_loop_rounds 1 ?_
      rw [rounds_succ]
      go_wp2_with fail
      go_ret
      exact ⟨ret_bool HF.out, Below.refl _ _⟩
    · have hb0 : (Doc.nil).same b = false := by
        cases b with
        | nil => exact absurd hlb hm0
        | cons k lv t d ti kids rest => rfl
      have HF := Lib.hid hb0; clear hb0 hlb hN
      have hpos : (0 : Int) < m := by omega
      have hne : ((0 : Int) == (m : Int)) = false := by simp; omega
      go_enter Try.func12, Try.ntmps12
      go_wp2_with fail
      go_ret
      exact ⟨ret_bool HF.out, Below.refl _ _⟩
  | succ N ih =>
    intro a b A A' n m c c' w hN hn hm ha hb
    unfold maxLen at hn hm
    have IH := Lib.hid ih; clear ih
    have hla := ha.len_eq
    have hlb := hb.len_eq
    by_cases hnm : n = m
    · subst hnm
      have HLA := Lib.hid hla; clear hla
      have HLB := Lib.hid hlb; clear hlb
      have HA := Lib.hid ha; clear ha
      have HB := Lib.hid hb; clear hb
      have hne : (!((n : Int) == (n : Int))) = false := by simp
      go_enter Try.func12, Try.ntmps12
      go_wp2_with fail
      go_loopw [15] (fun i wr => ∃ k : Nat, k ≤ n ∧ i = .int .i64 k ∧ a.same b = (a.drop k).same (b.drop k) ∧ Below w.heap.size w wr) (fun i _ => n - (intOf i).toNat)
      case atStart => exact ⟨0, Nat.zero_le _, rfl, by rw [Doc.drop_zero, Doc.drop_zero], Below.refl _ _⟩
      case round =>
        obtain ⟨k, hk, rfl, hs, hbw⟩ := hrel
        by_cases hlt : k < n
        · obtain ⟨ba, oa, rfl, hba⟩ := HA.out.base (by omega)
          obtain ⟨bb, ob, rfl, hbb⟩ := HB.out.base (by omega)
          obtain ⟨k1, l1, t1, d1, i1, A1, n1, c1, kd1, r1, e1, e1', E1⟩ := HA.out.elem k hlt
          obtain ⟨k2, l2, t2, d2, i2, A2, n2, c2, kd2, r2, e2, e2', E2⟩ := HB.out.elem k hlt
          have x0 := (hbw.cell (p := ⟨ba, oa + k * 6, none⟩) E1.lt).trans E1.c0
          have x1 := (hbw.cell (p := ⟨ba, oa + k * 6 + 1, none⟩) E1.lt).trans E1.c1
          have x2 := (hbw.cell (p := ⟨ba, oa + k * 6 + 2, none⟩) E1.lt).trans E1.c2
          have x3 := (hbw.cell (p := ⟨ba, oa + k * 6 + 3, none⟩) E1.lt).trans E1.c3
          have x4 := (hbw.cell (p := ⟨ba, oa + k * 6 + 4, none⟩) E1.lt).trans E1.c4
          have x5 := (hbw.cell (p := ⟨ba, oa + k * 6 + 5, none⟩) E1.lt).trans E1.c5
          have y0 := (hbw.cell (p := ⟨bb, ob + k * 6, none⟩) E2.lt).trans E2.c0
          have y1 := (hbw.cell (p := ⟨bb, ob + k * 6 + 1, none⟩) E2.lt).trans E2.c1
          have y2 := (hbw.cell (p := ⟨bb, ob + k * 6 + 2, none⟩) E2.lt).trans E2.c2
          have y3 := (hbw.cell (p := ⟨bb, ob + k * 6 + 3, none⟩) E2.lt).trans E2.c3
          have y4 := (hbw.cell (p := ⟨bb, ob + k * 6 + 4, none⟩) E2.lt).trans E2.c4
          have y5 := (hbw.cell (p := ⟨bb, ob + k * 6 + 5, none⟩) E2.lt).trans E2.c5
          have hsa : ba < wr.heap.size := Nat.lt_of_lt_of_le hba hbw.size
          have hsb : bb < wr.heap.size := Nat.lt_of_lt_of_le hbb hbw.size
          have HS := Lib.hid hs; clear hs
          have HE1 := Lib.hid e1; clear e1
          have HE2 := Lib.hid e2; clear e2
          have HR1 := Lib.hid e1'; clear e1'
          have HR2 := Lib.hid e2'; clear e2'
          obtain ⟨bk, hbk⟩ : ∃ bk, kd1.same kd2 = bk := ⟨_, rfl⟩
          have hkn : kd1.nodes ≤ N := by
            have h1 := Doc.nodes_drop k a
            rw [HE1.out] at h1
            simp only [Doc.nodes] at h1
            omega
          have hcall : ∀ wX, Below w.heap.size wr wX → Calls Try.prog 12 #[.slice A1 n1 c1, .slice A2 n2 c2] wX fun e w' => e = .returned (.bool bk) ∧ Below wX.heap.size wX w' := fun wX hX => by
            have h := IH.out kd1 kd2 A1 A2 n1 n2 c1 c2 wX hkn (Nat.le_trans E1.nc E1.cm) (Nat.le_trans E2.nc E2.cm)
              ((E1.at_.below (hbw.trans hX)).more (Nat.le_trans hbw.size hX.size)) ((E2.at_.below (hbw.trans hX)).more (Nat.le_trans hbw.size hX.size))
            rw [hbk] at h
            exact h
          have HC := Lib.hid hcall; clear hcall
          have HBK := Lib.hid hbk; clear hbk
          clear E1 E2 hkn
          go_wp2_with fail
          go_region
          all_goals clear x0 x1 x2 x3 x4 x5 y0 y1 y2 y3 y4 y5
          all_goals (
            by_cases f0 : k1 = k2
            · subst f0
              by_cases f1 : l1 = l2
              · subst f1
                by_cases f2 : (t1.toList == t2.toList) = false
                · go_wp2_with fail
                  go_ret
                  exact ⟨ret_bool (by rw [HS.out, HE1.out, HE2.out]; simp [Doc.same, f2]), below2d hbw hbw.size _ _⟩
                · have h2 : (t1.toList == t2.toList) = true := by simpa using f2
                  clear f2
                  by_cases f3 : (d1.toList == d2.toList) = false
                  · go_wp2_with fail
                    go_ret
                    exact ⟨ret_bool (by rw [HS.out, HE1.out, HE2.out]; simp [Doc.same, f3]), below2d hbw hbw.size _ _⟩
                  · have h3 : (d1.toList == d2.toList) = true := by simpa using f3
                    clear f3
                    by_cases f4 : (i1.toList == i2.toList) = false
                    · go_wp2_with fail
                      go_ret
                      exact ⟨ret_bool (by rw [HS.out, HE1.out, HE2.out]; simp [Doc.same, f4]), below2d hbw hbw.size _ _⟩
                    · have h4 : (i1.toList == i2.toList) = true := by simpa using f4
                      clear f4
                      go_wp2_with fail
                      refine (HC.out _ (below2d (Below.refl _ wr) hbw.size _ _)).mono ?_
                      rintro e w1 ⟨rfl, hb1⟩
                      have hb2 := (below2d hbw hbw.size _ _).trans (hb1.mono (Nat.le_trans hbw.size (below2d (Below.refl 0 wr) (Nat.zero_le _) _ _).size))
                      clear hb1
                      cases bk
                      · go_wp2_with fail
                        go_ret
                        exact ⟨ret_bool (by rw [HS.out, HE1.out, HE2.out]; simp [Doc.same, h2, h3, h4, HBK.out]), hb2⟩
                      · go_wp2_with fail
                        go_roundw
                        case rel => exact ⟨k + 1, by omega, by go_num, by rw [HS.out, HE1.out, HE2.out, HR1.out, HR2.out]; simp [Doc.same, h2, h3, h4, HBK.out], hb2⟩
                        case measure => simp [intOf]; omega
              · go_wp2_with fail
                go_ret
                exact ⟨ret_bool (by rw [HS.out, HE1.out, HE2.out]; simp [Doc.same, f1]), below2d hbw hbw.size _ _⟩
            · go_wp2_with fail
              go_ret
              exact ⟨ret_bool (by rw [HS.out, HE1.out, HE2.out]; simp [Doc.same, f0]), below2d hbw hbw.size _ _⟩)
        · obtain rfl : k = n := by omega
          have HS := Lib.hid hs; clear hs
          go_wp2_with fail
          go_ret
          exact ⟨ret_bool (by rw [HS.out]; rw [show a.drop k = .nil by rw [HLA.out]; exact Doc.drop_len a, show b.drop k = .nil by rw [HLB.out]; exact Doc.drop_len b]; rfl), hbw⟩
    · have hsf : a.same b = false := by
        cases hh : a.same b with
        | false => rfl
        | true => exact absurd (by rw [hla, hlb, Doc.same_len a b hh]) hnm
      have HF := Lib.hid hsf; clear hsf
      clear hla hlb ha hb
      have hne : ((n : Int) == (m : Int)) = false := by simp; omega
      go_enter Try.func12, Try.ntmps12
      go_wp2_with fail
      go_ret
      exact ⟨ret_bool HF.out, Below.refl _ _⟩
end Go.Proofs.Ytmaahkonjpcgiab
