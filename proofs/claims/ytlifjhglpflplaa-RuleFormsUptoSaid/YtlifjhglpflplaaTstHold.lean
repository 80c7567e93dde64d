/- DERIVED. lang.withoutSign, holds. Condition: at most 2^40 tests, all of them right. -/
import Derived.Test.YtlifjhglpflplaaTstRule
import Derived.StillTailTactics
import Derived.Laws.EntriesVeiled
namespace Go.Proofs.Ytlifjhglpflplaa
open Go.RowKit
set_option linter.unusedVariables false
set_option linter.unusedSimpArgs false
theorem wrapU (n : Int) : IntKind.u64.wrap n = n % 18446744073709551616 := by simp [IntKind.wrap, IntKind.bits, IntKind.signed]
theorem wrapU_id {n : Int} (h0 : 0 ≤ n) (h1 : n < 18446744073709551616) : IntKind.u64.wrap n = n := by rw [wrapU]; omega
theorem anyE_some (x : Nat) : ∀ d : Tst, anyE (hd x) d = d.q x false
  | .nil => rfl
  | .cons k md lo hi c r => by
    rw [q_some]
    show (hd x k md lo hi c || anyE (hd x) r) = _
    rw [anyE_some x r]
theorem anyE_all (x : Nat) : ∀ d : Tst, anyE (fun k md lo hi c => !hd x k md lo hi c) d = !d.q x true
  | .nil => rfl
  | .cons k md lo hi c r => by
    rw [q_all]
    show ((!hd x k md lo hi c) || anyE (fun k md lo hi c => !hd x k md lo hi c) r) = _
    rw [anyE_all x r, Bool.not_and]
set_option maxRecDepth 100000 in
theorem withoutSign_any (n : Int) (w : World) (h0 : -9223372036854775808 ≤ n) (h1 : n ≤ 9223372036854775807) : Calls Try.prog 89 #[.int .i64 n] w fun e w' => e = .returned (.int .u64 (n.natAbs : Int)) ∧ w = w' := by
  by_cases hn : n < 0
  · have e1 : IntKind.u64.wrap n = n + 18446744073709551616 := by rw [wrapU]; omega
    have e2 : IntKind.u64.wrap (-(n + 18446744073709551616)) = -n := by rw [wrapU]; omega
    have e3 : (n.natAbs : Int) = -n := by omega
    rw [e3]
    clear e3
    go_enter Try.func89, Try.ntmps89
    go_wp2_with fail
    go_ret
    exact ⟨rfl, rfl⟩
  · have e1 : IntKind.u64.wrap n = n := wrapU_id (by omega) (by omega)
    have e3 : (n.natAbs : Int) = n := by omega
    rw [e3]
    clear e3
    go_enter Try.func89, Try.ntmps89
    go_wp2_with fail
    go_ret
    exact ⟨rfl, rfl⟩
abbrev Holds (f : FuncId) (k md lo hi : Int) (A : Option Addr) (n c x : Nat) (w : World) (b : Bool) : Prop := Calls Try.prog f #[eV k md lo hi A n c, .int .u64 (x : Int)] w fun e w' => e = .returned (.bool b) ∧ Below w.heap.size w w'
set_option maxRecDepth 100000 in
theorem held_any (k md lo hi : Int) (A : Option Addr) (n c x p : Nat) (b : Bool) (w : World) (hp : w.cell? ⟨p, 0, none⟩ = some (.int .u64 (x : Int)))
    (hc : ∀ wX, Below w.heap.size w wX → Holds 88 k md lo hi A n c x wX b) :
    Calls Try.prog 100 #[eV k md lo hi A n c, .pointer (some ⟨p, 0, none⟩)] w fun e w' => e = .returned (.bool b) ∧ Below w.heap.size w w' := by
  have hpl := World.block_lt_of_cell? w _ hp
  have hw0 : Below w.heap.size w (w.alloc (.cells #[.int .i64 k, .int .i64 md, .int .i64 lo, .int .i64 hi, .slice A n c] 127)) := (Below.refl _ _).alloc (Nat.le_refl _) _
  have h2 := (hw0.cell (p := ⟨p, 0, none⟩) hpl).trans hp
  have HC := Lib.hid (hc _ hw0)
  have H0 := Lib.hid hw0
  clear hw0 hc hp
  unfold Holds at HC
  unfold eV at HC ⊢
  go_enter Try.func100, Try.ntmps100
  go_wp2_with fail
  refine HC.out.mono ?_
  rintro e w1 ⟨rfl, hb⟩
  have HB := Lib.hid (H0.out.trans (hb.mono H0.out.size))
  clear hb
  go_wp2_with fail
  go_ret
  exact ⟨rfl, HB.out⟩
set_option maxRecDepth 100000 in
theorem notHeld_any (k md lo hi : Int) (A : Option Addr) (n c x p r : Nat) (b : Bool) (w : World) (hp : w.cell? ⟨p, 0, none⟩ = some (.int .u64 (x : Int))) (hr : w.cell? ⟨r, 0, none⟩ = some (.func (.func 100) #[] #[.pointer (some ⟨p, 0, none⟩)]))
    (hc : ∀ wX, Below w.heap.size w wX → Holds 88 k md lo hi A n c x wX b) :
    Calls Try.prog 101 #[eV k md lo hi A n c, .pointer (some ⟨r, 0, none⟩)] w fun e w' => e = .returned (.bool (!b)) ∧ Below w.heap.size w w' := by
  have eg : ∀ args w, (callFunc 100 args).run Try.prog w = .ok (.enter 100 args) w := enters_of Try.func100 (by kernel_rfl) rfl
  have hpl := World.block_lt_of_cell? w _ hp
  have hrl := World.block_lt_of_cell? w _ hr
  have hw0 : Below w.heap.size w (w.alloc (.cells #[.int .i64 k, .int .i64 md, .int .i64 lo, .int .i64 hi, .slice A n c] 127)) := (Below.refl _ _).alloc (Nat.le_refl _) _
  have h2 := (hw0.cell (p := ⟨p, 0, none⟩) hpl).trans hp
  have h3 := (hw0.cell (p := ⟨r, 0, none⟩) hrl).trans hr
  have HC := Lib.hid (held_any k md lo hi A n c x p b _ h2 (fun wX hX => hc wX (hw0.trans (hX.mono hw0.size))))
  have H0 := Lib.hid hw0
  clear hw0 hc hp hr
  unfold eV at HC ⊢
  go_enter Try.func101, Try.ntmps101
  go_wp2_with fail
  refine HC.out.mono ?_
  rintro e w1 ⟨rfl, hb⟩
  have HB := Lib.hid (H0.out.trans (hb.mono H0.out.size))
  clear hb
  go_wp2_with fail
  go_ret
  exact ⟨by cases b <;> rfl, HB.out⟩
theorem three_objs (w : World) (a b c : Obj) : (((w.alloc a).alloc b).alloc c).heap[w.heap.size + 1]? = some b ∧ (((w.alloc a).alloc b).alloc c).heap[w.heap.size + 2]? = some c := by
  have h1 : (w.alloc a).heap.size = w.heap.size + 1 := by simp
  have h2 : ((w.alloc a).alloc b).heap.size = w.heap.size + 2 := by simp
  constructor
  · have h3 := Below.heap_alloc ((w.alloc a).alloc b) c (w.heap.size + 1) (by omega)
    have h4 := heap_alloc_new (w.alloc a) b
    rw [h1] at h4
    exact h3.trans h4
  · have h4 := heap_alloc_new ((w.alloc a).alloc b) c
    rw [h2] at h4
    exact h4
/-- A test that is right, with its kids. -/
def Right (k md lo hi : Int) (kd : Tst) : Prop := badF k md lo hi kd = false ∧ rangeB md lo hi = true ∧ kd.anyT badF = false ∧ kd.anyT badR = false
theorem right_kid {k md lo hi : Int} {kd : Tst} (h : Right k md lo hi kd) {i : Nat} {k1 md1 lo1 hi1 : Int} {c r : Tst} (he : kd.drop i = .cons k1 md1 lo1 hi1 c r) : Right k1 md1 lo1 hi1 c := by
  have h1 := anyT_drop i h.2.2.1
  have h2 := anyT_drop i h.2.2.2
  rw [he] at h1 h2
  obtain ⟨a1, a2, _⟩ := anyT_cons h1
  obtain ⟨b1, b2, _⟩ := anyT_cons h2
  refine ⟨a1, ?_, a2, b2⟩
  unfold badR at b1
  cases hr : rangeB md1 lo1 hi1 with
  | true => rfl
  | false => rw [hr] at b1; cases b1
theorem hd_2 (x : Nat) (md lo hi : Int) (c : Tst) : hd x 2 md lo hi c = c.q x true := rfl
theorem hd_3 (x : Nat) (md lo hi : Int) (c : Tst) : hd x 3 md lo hi c = c.q x false := rfl
theorem hd_4 (x : Nat) (md lo hi : Int) (c : Tst) : hd x 4 md lo hi c = !c.q x false := rfl
theorem hd_1 (x : Nat) (md lo hi : Int) (c : Tst) : hd x 1 md lo hi c = withinB md lo hi x := rfl
set_option maxRecDepth 100000 in
set_option maxHeartbeats 3200000 in
theorem holds_gen (k md lo hi : Int) (A : Option Addr) (n c x : Nat) (kd : Tst) (w : World) (hx : x ≤ 9223372036854775808) (hbig : kd.nodes ≤ 1099511627776) (hok : Right k md lo hi kd) (ha : kd.At w w.heap.size A n)
    (hc : ∀ (i : Nat) (k1 md1 lo1 hi1 : Int) (kd1 r : Tst), kd.drop i = .cons k1 md1 lo1 hi1 kd1 r → ∀ (A1 : Option Addr) (n1 c1 : Nat) (wX : World), kd1.At wX wX.heap.size A1 n1 → Holds 88 k1 md1 lo1 hi1 A1 n1 c1 x wX (hd x k1 md1 lo1 hi1 kd1)) :
    Holds 88 k md lo hi A n c x w (hd x k md lo hi kd) := by
  have ea : ∀ args w, (callFunc 100 args).run Try.prog w = .ok (.enter 100 args) w := enters_of Try.func100 (by kernel_rfl) rfl
  have eb : ∀ args w, (callFunc 101 args).run Try.prog w = .ok (.enter 101 args) w := enters_of Try.func101 (by kernel_rfl) rfl
  have hn : n ≤ 1099511627776 := Nat.le_trans (by rw [ha.len_eq]; exact Tst.len_le kd) hbig
  obtain ⟨hF, hR, _, _⟩ := hok
  unfold Holds eV
  rcases badF_ops hF with ⟨rfl, h0⟩ | hk
  · obtain ⟨hm, hl0, hlh, hh⟩ := rangeB_inv hR
    rw [hd_1]
    have u1 : IntKind.u64.wrap md = md := wrapU_id (by omega) (by omega)
    have u2 : IntKind.u64.wrap lo = lo := wrapU_id (by omega) (by omega)
    have u3 : IntKind.u64.wrap hi = hi := wrapU_id (by omega) (by omega)
    have hW : withinB md lo hi x = (decide (lo ≤ (if md = 0 then (x : Int) else (x : Int) % md)) && decide ((if md = 0 then (x : Int) else (x : Int) % md) ≤ hi)) := rfl
    clear hc ha hF ea eb
    rcases Int.lt_or_le 0 md with hmd | hmd
    · have hmn : ¬ md = 0 := by omega
      have hmb : (md == 0) = false := by simpa using hmn
      rw [hW, if_neg hmn]
      obtain ⟨m, hmm⟩ : ∃ m : Int, (x : Int) % md = m := ⟨_, rfl⟩
      have hm0 : 0 ≤ m := by rw [← hmm]; exact Int.emod_nonneg _ hmn
      have hm1 : m < md := by rw [← hmm]; exact Int.emod_lt_of_pos _ hmd
      rw [hmm]
      clear hW u2 u3
      have u2 : IntKind.u64.wrap lo = lo := wrapU_id (by omega) (by omega)
      have u3 : IntKind.u64.wrap hi = hi := wrapU_id (by omega) (by omega)
      go_enter Try.func88, Try.ntmps88
      go_wp2_with fail
      all_goals (go_ret; exact ⟨by first | rfl | (simp_all; done) | (simp_all; omega), ((((Below.refl _ _).alloc (Nat.le_refl _) _).alloc (by simp) _).alloc (by simp; omega) _)⟩)
    · have hmz : md = 0 := by omega
      subst hmz
      rw [hW, if_pos rfl]
      clear hW
      go_enter Try.func88, Try.ntmps88
      go_wp2_with fail
      all_goals (go_ret; exact ⟨by first | rfl | (simp_all; done) | (simp_all; omega), ((((Below.refl _ _).alloc (Nat.le_refl _) _).alloc (by simp) _).alloc (by simp; omega) _)⟩)
  · obtain ⟨W, hW⟩ : ∃ W, ((w.alloc (.cells #[.int .i64 k, .int .i64 md, .int .i64 lo, .int .i64 hi, .slice A n c] 127)).alloc (.cells #[.int .u64 (x : Int)] 132)).alloc (.cells #[.func (.func 100) #[] #[.pointer (some ⟨w.heap.size + 1, 0, none⟩)]] 130) = W := ⟨_, rfl⟩
    have hbW : Below w.heap.size w W := by rw [← hW]; exact ((((Below.refl _ _).alloc (Nat.le_refl _) _).alloc (by simp) _).alloc (by simp; omega) _)
    have hsW : W.heap.size = w.heap.size + 3 := by rw [← hW]; simp
    have y1 : W.cell? ⟨w.heap.size + 1, 0, none⟩ = some (.int .u64 (x : Int)) := by rw [← hW]; exact box1 (three_objs w _ _ _).1
    have y2 : W.cell? ⟨w.heap.size + 2, 0, none⟩ = some (.func (.func 100) #[] #[.pointer (some ⟨w.heap.size + 1, 0, none⟩)]) := by rw [← hW]; exact box1 (three_objs w _ _ _).2
    have hatW : kd.At W W.heap.size A n := (ha.below hbW).more hbW.size
    have hnot := containsT_any kd (fun k1 m1 l1 h1 c1 => !hd x k1 m1 l1 h1 c1) 101 #[.pointer (some ⟨w.heap.size + 2, 0, none⟩)] A n c W eb hn hatW (fun wX i hX k1 m1 l1 h1 A1 n1 c1 kd1 r he hat _ _ _ _ _ _ =>
      notHeld_any k1 m1 l1 h1 A1 n1 c1 x (w.heap.size + 1) (w.heap.size + 2) _ wX ((hX.cell (p := ⟨w.heap.size + 1, 0, none⟩) (by show w.heap.size + 1 < W.heap.size; omega)).trans y1) ((hX.cell (p := ⟨w.heap.size + 2, 0, none⟩) (by show w.heap.size + 2 < W.heap.size; omega)).trans y2)
        (fun wY hY => hc i k1 m1 l1 h1 kd1 r he A1 n1 c1 wY ((hat.below hY).more hY.size)))
    have hyes := containsT_any kd (hd x) 100 #[.pointer (some ⟨w.heap.size + 1, 0, none⟩)] A n c W ea hn hatW (fun wX i hX k1 m1 l1 h1 A1 n1 c1 kd1 r he hat _ _ _ _ _ _ =>
      held_any k1 m1 l1 h1 A1 n1 c1 x (w.heap.size + 1) _ wX ((hX.cell (p := ⟨w.heap.size + 1, 0, none⟩) (by show w.heap.size + 1 < W.heap.size; omega)).trans y1)
        (fun wY hY => hc i k1 m1 l1 h1 kd1 r he A1 n1 c1 wY ((hat.below hY).more hY.size)))
    rw [anyE_all] at hnot
    rw [anyE_some] at hyes
    rw [← hW] at hnot hyes hbW
    have HN := Lib.hid hnot
    have HY := Lib.hid hyes
    have HB := Lib.hid hbW
    clear hnot hyes hbW hatW hsW y1 y2 hW W hc ha hF hR ea eb
    rcases hk with rfl | rfl | rfl
    · rw [hd_2]
      go_enter Try.func88, Try.ntmps88
      go_wp2_with fail
      refine HN.out.mono ?_
      rintro e w2 ⟨rfl, hb2⟩
      have HB2 := Lib.hid (HB.out.trans (hb2.mono HB.out.size))
      clear hb2
      go_wp2_with fail
      go_ret
      exact ⟨by cases kd.q x true <;> rfl, HB2.out⟩
    · rw [hd_3]
      go_enter Try.func88, Try.ntmps88
      go_wp2_with fail
      refine HY.out.mono ?_
      rintro e w2 ⟨rfl, hb2⟩
      have HB2 := Lib.hid (HB.out.trans (hb2.mono HB.out.size))
      clear hb2
      go_wp2_with fail
      go_ret
      exact ⟨by cases kd.q x false <;> rfl, HB2.out⟩
    · rw [hd_4]
      go_enter Try.func88, Try.ntmps88
      go_wp2_with fail
      refine HY.out.mono ?_
      rintro e w2 ⟨rfl, hb2⟩
      have HB2 := Lib.hid (HB.out.trans (hb2.mono HB.out.size))
      clear hb2
      go_wp2_with fail
      go_ret
      exact ⟨by cases kd.q x false <;> rfl, HB2.out⟩
theorem holds_any (x : Nat) (hx : x ≤ 9223372036854775808) (N : Nat) : ∀ (k md lo hi : Int) (A : Option Addr) (n c : Nat) (kd : Tst) (w : World), kd.nodes ≤ N → kd.nodes ≤ 1099511627776 → Right k md lo hi kd → kd.At w w.heap.size A n → Holds 88 k md lo hi A n c x w (hd x k md lo hi kd) := by
  induction N with
  | zero =>
    intro k md lo hi A n c kd w hN hbig hok ha
    refine holds_gen k md lo hi A n c x kd w hx hbig hok ha fun i k1 m1 l1 h1 kd1 r he => ?_
    have h2 := Tst.nodes_drop' i kd
    rw [he] at h2
    simp only [Tst.nodes] at h2
    omega
  | succ N ih =>
    intro k md lo hi A n c kd w hN hbig hok ha
    refine holds_gen k md lo hi A n c x kd w hx hbig hok ha fun i k1 m1 l1 h1 kd1 r he A1 n1 c1 wX hat => ?_
    have h2 := Tst.nodes_drop' i kd
    rw [he] at h2
    simp only [Tst.nodes] at h2
    exact ih k1 m1 l1 h1 A1 n1 c1 kd1 wX (by omega) (by omega) (right_kid hok he) hat
end Go.Proofs.Ytlifjhglpflplaa
