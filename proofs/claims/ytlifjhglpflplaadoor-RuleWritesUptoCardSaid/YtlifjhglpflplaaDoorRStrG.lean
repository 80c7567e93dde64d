/- DERIVED. The reference's testString of any test, ruleString, RuleStringOf. Condition: at most 2^40 - 1 tests; the library's variables are as the program's text lays them. -/
import Derived.Test.YtlifjhglpflplaaDoorRStrF
namespace Go.Proofs.YtlifjhglpflplaaDoor
open Go.RowKit
set_option linter.unusedVariables false
set_option linter.unusedSimpArgs false
set_option maxRecDepth 100000 in
set_option maxHeartbeats 1600000 in
theorem testString_kids (k md lo hi : Int) (A : Option Addr) (n c : Nat) (kd : Tst) (w : World) (hbig : kd.nodes ≤ 1099511627776) (hfit : kd.fits) (hk : k = 2 ∨ k = 3 ∨ k = 4)
    (hJ : ∀ (br : Bool) (sep : ByteArray), sep.size ≤ 3 → ∀ (q : Nat) (wX : World), Below w.heap.size w wX → q < wX.heap.size → wX.cell? ⟨q, 4, none⟩ = some (.slice A n c) →
      Calls Tryd.prog 111 #[.string sep, .bool br, .pointer (some ⟨q, 0, none⟩)] wX fun e w' => e = .returned (.string (joinS (kd.kL br) sep)) ∧ Below wX.heap.size wX w') :
    TxtC 83 k md lo hi A n c w (tS k md lo hi kd) := by
  have eg : ∀ args w, (callFunc 111 args).run Tryd.prog w = .ok (.enter 111 args) w := enters_of Tryd.func111 (by kernel_rfl) rfl
  have hbx := heap_alloc_new w (.cells #[.int .i64 k, .int .i64 md, .int .i64 lo, .int .i64 hi, .slice A n c] 88)
  have hw0 : Below w.heap.size w (w.alloc (.cells #[.int .i64 k, .int .i64 md, .int .i64 lo, .int .i64 hi, .slice A n c] 88)) := (Below.refl _ _).alloc (Nat.le_refl _) _
  have hA := hJ true ⟨#[32, 38, 32]⟩ sep1 w.heap.size _ hw0 (by simp) (box5 hbx).2.2.2.2
  have hB := hJ false ⟨#[32, 124, 32]⟩ sep2 w.heap.size _ hw0 (by simp) (box5 hbx).2.2.2.2
  have hC := hJ true ⟨#[32, 124, 32]⟩ sep2 w.heap.size _ hw0 (by simp) (box5 hbx).2.2.2.2
  have H0 := Lib.hid hw0
  have z3 := kids_size kd true ⟨#[32, 124, 32]⟩ sep2 hfit
  clear hw0 hfit hJ hbx
  unfold TxtC eV
  rcases hk with rfl | rfl | rfl
  · rw [tS_2]
    have HC := Lib.hid hA
    clear hA hB hC z3
    go_enter Tryd.func83, Tryd.ntmps83
    go_wp2_with fail
    refine HC.out.mono ?_
    rintro e w1 ⟨rfl, hb1⟩
    have HB := Lib.hid (H0.out.trans (hb1.mono H0.out.size))
    clear hb1
    go_wp2_with fail
    go_ret
    exact ⟨by rfl, HB.out⟩
  · rw [tS_3]
    have HC := Lib.hid hB
    clear hA hB hC z3
    go_enter Tryd.func83, Tryd.ntmps83
    go_wp2_with fail
    refine HC.out.mono ?_
    rintro e w1 ⟨rfl, hb1⟩
    have HB := Lib.hid (H0.out.trans (hb1.mono H0.out.size))
    clear hb1
    go_wp2_with fail
    go_ret
    exact ⟨by rfl, HB.out⟩
  · rw [tS_4]
    clear hA hB
    generalize joinS (kd.kL true) ⟨#[32, 124, 32]⟩ = j at hC z3
    have z4 : j.size ≤ 140000000000000 := by omega
    have HC := Lib.hid hC
    clear hC z3
    go_enter Tryd.func83, Tryd.ntmps83
    go_wp2_with fail
    refine HC.out.mono ?_
    rintro e w1 ⟨rfl, hb1⟩
    have HB := Lib.hid (H0.out.trans (hb1.mono H0.out.size))
    clear hb1
    go_wp2_with fail
    go_ret
    exact ⟨by rfl, HB.out⟩
theorem testString_step (k md lo hi : Int) (A : Option Addr) (n c : Nat) (kd : Tst) (w : World) (hv : Vars w) (hbig : kd.nodes ≤ 1099511627776) (hok : Right k md lo hi kd) (f1 : I64 md) (f2 : I64 lo) (f3 : I64 hi) (ha : kd.At w w.heap.size A n)
    (hc : ∀ (i : Nat) (k1 m1 l1 h1 : Int) (kd1 r : Tst), kd.drop i = .cons k1 m1 l1 h1 kd1 r → ∀ (A1 : Option Addr) (n1 c1 : Nat) (wX : World), Vars wX → I64 m1 → I64 l1 → I64 h1 → kd1.At wX wX.heap.size A1 n1 → TxtC 83 k1 m1 l1 h1 A1 n1 c1 wX (tS k1 m1 l1 h1 kd1)) :
    TxtC 83 k md lo hi A n c w (tS k md lo hi kd) := by
  rcases badF_ops hok.1 with ⟨rfl, _⟩ | hk
  · rw [tS_else md lo hi kd (by omega) (by omega) (by omega)]
    have := rangeB_inv hok.2.1
    exact testString_in md lo hi A n c w hv f1 f2 f3 (by omega)
  · exact testString_kids k md lo hi A n c kd w hbig ha.fits hk fun br sep hs q wX hX hq hcq =>
      joinR_any kd br sep hs q k md lo hi A n c wX hbig hq hcq ((ha.below hX).more hX.size) fun wY i hY k1 m1 l1 h1 A1 n1 c1 kd1 r he hat g1 g2 g3 =>
        hc i k1 m1 l1 h1 kd1 r he A1 n1 c1 wY (hv.below (hX.trans (hY.mono hX.size))) (i64_of g1) (i64_of g2) (i64_of g3) hat
theorem testString_any (N : Nat) : ∀ (k md lo hi : Int) (A : Option Addr) (n c : Nat) (kd : Tst) (w : World), kd.nodes ≤ N → kd.nodes ≤ 1099511627776 → Right k md lo hi kd → Vars w → I64 md → I64 lo → I64 hi → kd.At w w.heap.size A n → TxtC 83 k md lo hi A n c w (tS k md lo hi kd) := by
  induction N with
  | zero =>
    intro k md lo hi A n c kd w hN hbig hok hv f1 f2 f3 ha
    refine testString_step k md lo hi A n c kd w hv hbig hok f1 f2 f3 ha fun i k1 m1 l1 h1 kd1 r he => ?_
    have h2 := Tst.nodes_drop' i kd
    rw [he] at h2
    simp only [Tst.nodes] at h2
    omega
  | succ N ih =>
    intro k md lo hi A n c kd w hN hbig hok hv f1 f2 f3 ha
    refine testString_step k md lo hi A n c kd w hv hbig hok f1 f2 f3 ha fun i k1 m1 l1 h1 kd1 r he A1 n1 c1 wX hvX g1 g2 g3 hat => ?_
    have h2 := Tst.nodes_drop' i kd
    rw [he] at h2
    simp only [Tst.nodes] at h2
    exact ih k1 m1 l1 h1 A1 n1 c1 kd1 wX (by omega) (by omega) (right_kid hok he) hvX g1 g2 g3 hat
set_option maxRecDepth 100000 in
set_option maxHeartbeats 2000000 in
theorem ruleStringR_any (d : Tst) (A : Option Addr) (n c : Nat) (w : World) (hv : Vars w) (hbig : d.nodes ≤ 1099511627775) (hF : d.anyT badF = false) (hR : d.anyT badR = false) (ha : d.At w w.heap.size A n) :
    Calls Tryd.prog 47 #[.agg #[.slice A n c]] w fun e w' => e = .returned (.string (ruleS d)) ∧ Below w.heap.size w w' := by
  obtain ⟨i0, hi, hz0, hz1, hz2⟩ := info_parts strInfo
  have hnl := ha.len_eq
  have hn : n ≤ 1099511627776 := Nat.le_trans (by rw [hnl]; exact Tst.len_le d) (by omega)
  have hw0 : Below w.heap.size w (w.alloc (.cells #[.slice A n c] 35)) := (Below.refl _ _).alloc (Nat.le_refl _) _
  have HJL := Lib.hid (Nat.le_trans (kids_join d false ⟨#[59, 32]⟩ sep3 ha.fits) (show 100 * d.nodes ≤ 140737488355328 by omega))
  have hcall0 : ∀ (wX : World) (k : Nat), Below w.heap.size w wX → ∀ (k1 md lo hi : Int) (A1 : Option Addr) (n1 c1 : Nat) (kd r : Tst), d.drop k = .cons k1 md lo hi kd r → kd.At wX wX.heap.size A1 n1 → (Lit.int .i64 md).wf = true → (Lit.int .i64 lo).wf = true → (Lit.int .i64 hi).wf = true → TxtC 83 k1 md lo hi A1 n1 c1 wX (tS k1 md lo hi kd) :=
    fun wX k hX k1 md lo hi A1 n1 c1 kd r he hat g1 g2 g3 => by
      have h1 := anyT_drop k hF
      have h2 := anyT_drop k hR
      have h3 := Tst.nodes_drop' k d
      rw [he] at h1 h2 h3
      simp only [Tst.nodes] at h3
      obtain ⟨a1, a2, _⟩ := anyT_cons h1
      obtain ⟨b1, b2, _⟩ := anyT_cons h2
      have hr : rangeB md lo hi = true := by
        unfold badR at b1
        cases hr : rangeB md lo hi with
        | true => rfl
        | false => rw [hr] at b1; cases b1
      exact testString_any kd.nodes k1 md lo hi A1 n1 c1 kd wX (Nat.le_refl _) (by omega) ⟨a1, hr, a2, b2⟩ (hv.below hX) (i64_of g1) (i64_of g2) (i64_of g3) hat
  have HNL := Lib.hid hnl; clear hnl
  have HA := Lib.hid ha; clear ha
  have HF := Lib.hid hcall0; clear hcall0
  have H0 := Lib.hid hw0; clear hw0
  clear hbig hF hR hv
  go_enter Tryd.func47, Tryd.ntmps47
  go_wp2_with fail
  go_loopw [3, 9] (fun v i wr => ∃ (k : Nat) (L : List ByteArray), k ≤ n ∧ i = .int .i64 k ∧ L.length = k ∧ d.kL false = L ++ (d.drop k).kL false ∧ wr.ownsRow w.heap.size 9 1 v k (strs L) ∧ Below w.heap.size w wr) (fun _ i _ => n - (intOf i).toNat)
  case atStart => exact ⟨0, [], Nat.zero_le _, rfl, rfl, by rw [Tst.drop_zero']; rfl, World.ownsRow_nil _ _ _ _, H0.out⟩
  case round =>
    obtain ⟨k, L, hk, rfl, hL, hcat, hown, hbw⟩ := hrel
    have hw := hbw.size
    obtain ⟨Av, cv, rfl⟩ := slice_of_own hown
    have HOW := Lib.hid hown; clear hown
    have HL := Lib.hid hL; clear hL
    have HCAT := Lib.hid hcat; clear hcat
    by_cases hlt : k < n
    · obtain ⟨b, off, k1, md, lo, hi', A1, n1, c1, kd, r, rfl, e1, e2, E⟩ := HA.out.el k hlt
      have E' := E.below hbw
      obtain ⟨hlb, x0, x1, x2, x3, x4, hnc, hcm, g0, g1, g2, g3, hat⟩ := E'
      clear E
      have hsb : b < wr.heap.size := Nat.lt_of_lt_of_le hlb hbw.size
      have hcall := fun wX (hX : Below w.heap.size wr wX) => HF.out wX k (hbw.trans hX) k1 md lo hi' A1 n1 c1 kd r e1 ((hat.below hX).more (Nat.le_trans hbw.size hX.size)) g1 g2 g3
      have hnext := HCAT.out
      rw [e1, kL_cons, brS_no] at hnext
      obtain ⟨s, hs⟩ : ∃ s, tS k1 md lo hi' kd = s := ⟨_, rfl⟩
      rw [hs] at hcall hnext
      unfold TxtC eV at hcall
      have HC := Lib.hid hcall; clear hcall
      have HN := Lib.hid (show d.kL false = (L ++ [s]) ++ (d.drop (k + 1)).kL false by rw [hnext, e2]; simp); clear hnext
      have HBW := Lib.hid hbw; clear hbw
      clear e1 e2 hat hnc hcm g0 g1 g2 g3 hs
      go_wp2_with fail
      refine (HC.out _ ((Below.refl _ _).alloc HBW.out.size _)).mono ?_
      rintro e w2 ⟨rfl, hb2⟩
      have hw2 := hb2.size
      simp only [World.size_alloc] at hw2
      have HB2 := Lib.hid ((HBW.out.alloc HBW.out.size _).trans (hb2.mono (by have := HBW.out.size; simp; omega)))
      have HO2 := Lib.hid (row_below HOW.out (((Below.refl _ _).alloc (Nat.le_refl _) _).trans (hb2.mono (by simp))))
      have HNW := Lib.hid (World.news_of_block (heap_alloc_new w2 (.cells #[.string s] 9)))
      clear hb2
      go_wp2_with (at_builtin; go_loud (refine wpList_append_lies _ rfl _ _ 42 rfl w.heap.size 9 i0 _ 1 16 Tryd.underlying42 hi hz0 hz1 hz2 rfl (by decide) (.slice Av k cv) k (strs L) rfl (HO2.out.alloc _) ⟨w2.heap.size, 0, none⟩ 1 1 [.string s] rfl rfl HNW.out (by simp [Value.oneCell']) (by omega) (by unfold maxLen; omega) (by omega) (by simp; omega) (w2.heap.size + 1) (by simp) ?_; intro gg cap2 w7 hown' hgrow hat3 hlt2))
      go_roundw
      case rel =>
        have hbG : Below w.heap.size w w7 := (HB2.out.alloc (by omega) _).grown hgrow (by simp; omega) (fun q hq => (HO2.out.lt q hq).1)
        refine ⟨k + 1, L ++ [s], by omega, by go_num, by rw [List.length_append, HL.out]; rfl, HN.out, ?_, hbG⟩
        rw [show strs (L ++ [s]) = strs L ++ [.string s] by unfold strs; rw [List.map_append]; rfl]
        exact hown'
      case measure => simp [intOf]; omega
    · obtain rfl : k = n := by omega
      have hall : d.kL false = L := by rw [HCAT.out, HNL.out, Tst.drop_len']; simp [Tst.kL]
      have HALL := Lib.hid hall; clear hall
      have HJ := Lib.hid (joinOwn_any (L := L) (v := .slice Av k cv) (wX := wr) ⟨#[59, 32]⟩ (by rw [HL.out]; exact HOW.out) (by rw [HL.out]; omega) (by rw [← HALL.out]; exact HJL.out))
      go_wp2_with fail
      refine HJ.out.mono ?_
      rintro e w8 ⟨rfl, hb8⟩
      have HB8 := Lib.hid (hbw.trans (hb8.mono hbw.size))
      clear hb8
      go_wp2_with fail
      go_ret
      exact ⟨by unfold ruleS; rw [HALL.out]; rfl, HB8.out⟩
set_option maxRecDepth 100000 in
set_option maxHeartbeats 800000 in
theorem ruleStringOf_any (d : Tst) (A : Option Addr) (n c : Nat) (w : World) (hv : Vars w) (hbig : d.nodes ≤ 1099511627775) (ha : d.At w w.heap.size A n) :
    Calls Tryd.prog 17 #[.agg #[.slice A n c]] w fun e w' => e = .returned (ruleV d) ∧ Below w.heap.size w w' := by
  have hw0 : Below w.heap.size w (w.alloc (.cells #[.slice A n c] 35)) := (Below.refl _ _).alloc (Nat.le_refl _) _
  have hbx := heap_alloc_new w (.cells #[.slice A n c] 35)
  have H1 := Lib.hid (ruleFault_any d A n c _ hbig ((ha.below hw0).more hw0.size))
  have H0 := Lib.hid hw0
  have HBX := Lib.hid hbx
  clear hw0 hbx
  by_cases hE : ruleErr d = 0
  · have hO : ruleV d = (if 2000 < (ruleS d).size then .tuple #[.string ⟨#[]⟩, .int .i64 4] else .tuple #[.string (ruleS d), .int .i64 0]) := by unfold ruleV; rw [if_pos hE]
    obtain ⟨hF, hR, _⟩ := ruleErr_ok hE
    have h3 := fun wX (hX : Below w.heap.size w wX) => ruleStringR_any d A n c wX (hv.below hX) hbig hF hR ((ha.below hX).more hX.size)
    rw [hE] at H1
    clear ha hF hR
    generalize ruleS d = s at hO h3
    have H2 := Lib.hid h3
    clear hE h3 hv
    by_cases hs : 2000 < s.size
    · have HO := Lib.hid (hO.trans (if_pos hs))
      have hsi : (2000 : Int) < (s.size : Int) := by omega
      clear hO
      go_enter Tryd.func17, Tryd.ntmps17
      go_wp2_with fail
      refine H1.out.mono ?_
      rintro e w1 ⟨rfl, hb1⟩
      simp only [World.size_alloc] at hb1
      have y1 := box1 ((hb1.block w.heap.size (by omega)).trans HBX.out)
      have HB1 := Lib.hid (H0.out.trans (hb1.mono (by omega)))
      clear hb1
      go_wp2_with fail
      refine (H2.out _ HB1.out).mono ?_
      rintro e w2 ⟨rfl, hb2⟩
      have HB2 := Lib.hid (HB1.out.trans (hb2.mono HB1.out.size))
      clear hb2
      go_wp2_with fail
      go_ret2
      exact ⟨by rw [HO.out]; rfl, HB2.out⟩
    · have HO := Lib.hid (hO.trans (if_neg hs))
      have hsi : ¬ (2000 : Int) < (s.size : Int) := by omega
      clear hO
      go_enter Tryd.func17, Tryd.ntmps17
      go_wp2_with fail
      refine H1.out.mono ?_
      rintro e w1 ⟨rfl, hb1⟩
      simp only [World.size_alloc] at hb1
      have y1 := box1 ((hb1.block w.heap.size (by omega)).trans HBX.out)
      have HB1 := Lib.hid (H0.out.trans (hb1.mono (by omega)))
      clear hb1
      go_wp2_with fail
      refine (H2.out _ HB1.out).mono ?_
      rintro e w2 ⟨rfl, hb2⟩
      have HB2 := Lib.hid (HB1.out.trans (hb2.mono HB1.out.size))
      clear hb2
      go_wp2_with fail
      go_ret2
      exact ⟨by rw [HO.out]; rfl, HB2.out⟩
  · have HO := Lib.hid (show ruleV d = .tuple #[.string ⟨#[]⟩, .int .i64 (ruleErr d)] by unfold ruleV; rw [if_neg hE])
    obtain ⟨er, her⟩ : ∃ er, ruleErr d = er := ⟨_, rfl⟩
    rw [her] at H1 HO hE
    have hne : (er != 0) = true := by simpa using hE
    clear her ha hv
    go_enter Tryd.func17, Tryd.ntmps17
    go_wp2_with fail
    refine H1.out.mono ?_
    rintro e w1 ⟨rfl, hb1⟩
    have HB1 := Lib.hid (H0.out.trans (hb1.mono H0.out.size))
    clear hb1
    go_wp2_with fail
    go_ret2
    exact ⟨by rw [HO.out]; rfl, HB1.out⟩
end Go.Proofs.YtlifjhglpflplaaDoor
