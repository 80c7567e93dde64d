/- DERIVED. What conf's Compare returns: the order of two values; what is still to be compared is a row of its own. Condition: at most 2^36 values and letters. -/
import Derived.Test.YtfgekmfkaepgjaaConfStack
import Derived.BigRegion
namespace Go.Proofs.Ytfgekmfkaepgjaa
set_option linter.unusedVariables false
open Go.RowKit
set_option maxRecDepth 100000 in
set_option maxHeartbeats 2000000 in
theorem compare_any (k : Int) (bo : Bool) (i : Int) (t : ByteArray) (A1 : Option Addr) (n1 c1 : Nat) (A2 : Option Addr) (n2 c2 : Nat) (items : Vals) (keys : List ByteArray)
    (k' : Int) (bo' : Bool) (i' : Int) (t' : ByteArray) (A1' : Option Addr) (n1' c1' : Nat) (A2' : Option Addr) (n2' c2' : Nat) (items' : Vals) (keys' : List ByteArray) (w : World)
    (hv : VOk w w.heap.size k i t A1 n1 c1 A2 n2 c2 items keys) (hv' : VOk w w.heap.size k' i' t' A1' n1' c1' A2' n2' c2' items' keys')
    (hm : items.nodes + 1 ≤ 68719476736) (hl : t.size + kz keys + items.letters ≤ 68719476736) (hm' : items'.nodes + 1 ≤ 68719476736) (hl' : t'.size + kz keys' + items'.letters ≤ 68719476736) :
    Calls Try.prog 29 #[.agg #[.int .i64 k, .bool bo, .int .i64 i, .string t, .slice A1 n1 c1, .slice A2 n2 c2], .agg #[.int .i64 k', .bool bo', .int .i64 i', .string t', .slice A1' n1' c1', .slice A2' n2' c2']] w
      fun e w' => e = .returned (.int .i64 (cOne k bo i t items keys k' bo' i' t' items' keys')) ∧ Below w.heap.size w w' := by
  obtain ⟨i0, hi, hz0, hz1, hz2⟩ := info_parts vpair_info
  have CI := Lib.hid (fun (a b : Int) (wX : World) => Try.cmp_Compare_int a b wX)
  obtain ⟨T, hT⟩ : ∃ T, cOne k bo i t items keys k' bo' i' t' items' keys' = T := ⟨_, rfl⟩
  have hbx : Below w.heap.size w ((w.alloc (boxV k bo i t A1 n1 c1 A2 n2 c2)).alloc (boxV k' bo' i' t' A1' n1' c1' A2' n2' c2')) := ((Below.refl _ _).alloc (Nat.le_refl _) _).alloc (by simp) _
  have hs2 : ((w.alloc (boxV k bo i t A1 n1 c1 A2 n2 c2)).alloc (boxV k' bo' i' t' A1' n1' c1' A2' n2' c2')).heap.size = w.heap.size + 2 := by simp
  have hx12 := boxV12 (Below.refl _ ((w.alloc (boxV k bo i t A1 n1 c1 A2 n2 c2)).alloc (boxV k' bo' i' t' A1' n1' c1' A2' n2' c2')))
  generalize hW2 : (w.alloc (boxV k bo i t A1 n1 c1 A2 n2 c2)).alloc (boxV k' bo' i' t' A1' n1' c1' A2' n2' c2') = W2 at hbx hs2 hx12
  unfold boxV at hW2
  have hby : Below w.heap.size w ((W2.alloc (boxV k bo i t A1 n1 c1 A2 n2 c2)).alloc (boxV k' bo' i' t' A1' n1' c1' A2' n2' c2')) := (hbx.alloc (by omega) _).alloc (by simp; omega) _
  have hs4 : ((W2.alloc (boxV k bo i t A1 n1 c1 A2 n2 c2)).alloc (boxV k' bo' i' t' A1' n1' c1' A2' n2' c2')).heap.size = w.heap.size + 4 := by simp; omega
  have hy12 := boxV12 (Below.refl _ ((W2.alloc (boxV k bo i t A1 n1 c1 A2 n2 c2)).alloc (boxV k' bo' i' t' A1' n1' c1' A2' n2' c2')))
  generalize hW4 : (W2.alloc (boxV k bo i t A1 n1 c1 A2 n2 c2)).alloc (boxV k' bo' i' t' A1' n1' c1' A2' n2' c2') = W4 at hby hs4 hy12
  unfold boxV at hW4
  have hok : (VPr.mk (.cons k bo i t items keys .nil) (.cons k' bo' i' t' items' keys' .nil) (some ⟨w.heap.size + 2, 0, none⟩) 1 1 (some ⟨w.heap.size + 3, 0, none⟩) 1 1).ok W4 W4.heap.size := by
    obtain ⟨⟨a0, a1, a2, a3, a4, a5⟩, b0, b1, b2, b3, b4, b5⟩ := hy12
    rw [hs2] at a0 a1 a2 a3 a4 a5 b0 b1 b2 b3 b4 b5
    have g := (hv.below hby).more (by omega : w.heap.size ≤ W4.heap.size)
    have g' := (hv'.below hby).more (by omega : w.heap.size ≤ W4.heap.size)
    exact ⟨⟨w.heap.size + 2, 0, 0, A1, n1, c1, A2, n2, c2, rfl, rfl, by omega, a0, a1, a2, a3, a4, a5, g.nc1, g.cm1, g.nc2, g.cm2, g.kwf, g.iwf, g.ts, g.at_, g.ks, rfl⟩,
      ⟨w.heap.size + 3, 0, 0, A1', n1', c1', A2', n2', c2', rfl, rfl, by omega, b0, b1, b2, b3, b4, b5, g'.nc1, g'.cm1, g'.nc2, g'.cm2, g'.kwf, g'.iwf, g'.ts, g'.at_, g'.ks, rfl⟩,
      Nat.le_refl _, (by show 1 ≤ maxLen; decide), Nat.le_refl _, (by show 1 ≤ maxLen; decide), (by show _ + 0 ≤ _; omega), (by show _ + 0 ≤ _; omega), (by show _ + 0 + 1 ≤ _; omega), (by show _ + 0 + 1 ≤ _; omega)⟩
  have hwt0 : vwt [VPr.mk (.cons k bo i t items keys .nil) (.cons k' bo' i' t' items' keys' .nil) (some ⟨w.heap.size + 2, 0, none⟩) 1 1 (some ⟨w.heap.size + 3, 0, none⟩) 1 1] = 2 * (items.nodes + 1) + 1 := by simp [vwt, Vals.nodes]
  have hst0 : T = stackC [VPr.mk (.cons k bo i t items keys .nil) (.cons k' bo' i' t' items' keys' .nil) (some ⟨w.heap.size + 2, 0, none⟩) 1 1 (some ⟨w.heap.size + 3, 0, none⟩) 1 1] := by rw [← hT]; exact cOne_stack ..
  obtain ⟨⟨x0, x1, x2, x3, x4, x5⟩, y0, y1, y2, y3, y4, y5⟩ := hx12
  clear hv hv' hl hl' hy12
  have HOK := Lib.hid hok; clear hok
  have HT := Lib.hid hT; clear hT
  have HWT := Lib.hid hwt0; clear hwt0
  have HST := Lib.hid hst0; clear hst0
  have HBX := Lib.hid hbx; clear hbx
  have HBY := Lib.hid hby; clear hby
  simp only [Nat.zero_add] at x0 x1 x2 x3 x4 x5 y0 y1 y2 y3 y4 y5
  go_enter Try.func29, Try.ntmps29
  go_wp2_with fail
  clear x0 x1 x2 x3 x4 x5 y0 y1 y2 y3 y4 y5 hW2
  have HW4 := Lib.hid hW4; clear hW4
  go_loopg [5] (2 * (items.nodes + 1) + 1) (fun g v wr => ∃ L : List VPr, g = vwt L ∧ wr.ownsRow W4.heap.size 62 2 v L.length (vcells L) ∧ (∀ p, p ∈ L → p.ok W4 W4.heap.size) ∧ T = stackC L ∧ vwt L ≤ 274877906944 ∧ Below W4.heap.size W4 wr)
  case atStart =>
    refine ⟨[VPr.mk (.cons k bo i t items keys .nil) (.cons k' bo' i' t' items' keys' .nil) (some ⟨w.heap.size + 2, 0, none⟩) 1 1 (some ⟨w.heap.size + 3, 0, none⟩) 1 1], HWT.out.symm, ?_, fun p hp => ?_, HST.out, by rw [HWT.out]; omega, (Below.refl _ _).alloc (Nat.le_refl _) _⟩
    · rw [← hs4]; exact vown_one W4 _ (Nat.le_refl _) _ _
    · simp at hp; subst hp; exact HOK.out
  case round =>
    clear HOK HWT HST
    obtain ⟨wo, rfl⟩ : ∃ wo : World, wo = wr := ⟨_, rfl⟩
    obtain ⟨L, hg, hown, hL, hs, hwt, hbw⟩ := hrel
    have hbw0 : Below w.heap.size w wo := HBY.out.trans (hbw.mono (by omega))
    have HBW := Lib.hid hbw; clear hbw
    by_cases h0 : L.length = 0
    · have hnil : L = [] := List.eq_nil_of_length_eq_zero h0
      subst hnil
      obtain ⟨Av, cv, rfl⟩ := vown_val hown
      have HS := Lib.hid hs; clear hs hg hown hL
      go_wp2_with fail
      go_ret
      exact ⟨retC (by rw [HT.out, HS.out]; rfl), hbw0⟩
    · obtain ⟨R, p, rfl⟩ := snoc_last (by omega : 0 < L.length)
      have hlen : (R ++ [p]).length = R.length + 1 := by simp
      obtain ⟨gb, cap, rfl, hgb, hgs, hcap, hcapm, hcells⟩ := vown_pos hown (by omega)
      have q0 := hcells _ _ (vcells_last R p).1
      have q1 := hcells _ _ (vcells_last R p).2
      have hpk := hL p (by simp)
      have hR : ∀ x, x ∈ R → x.ok W4 W4.heap.size := fun x hx => hL x (by simp [hx])
      have hwR := vwt_len R
      rw [vwt_app] at hg hwt
      have hpw : vwt [p] = 2 * p.a.nodes + 1 := by simp [vwt]
      rw [hpw] at hg hwt
      rw [hlen] at hcap hown ⊢
      have hRl : R.length + 1 ≤ 274877906944 := by omega
      have hri : ((R.length : Int) + 1 - 1) = R.length := by omega
      have HRI := Lib.hid hri; clear hri
      have HG := Lib.hid hg; clear hg
      have HS := Lib.hid hs; clear hs
      have HR := Lib.hid hR; clear hR
      have HPK := Lib.hid hpk; clear hpk
      have hpop := ownsRow_pop (xs := vcells R) (last := p.cells) (vcells_len R) (by rw [vcells_app] at hown; simpa [vcells] using hown)
      have HP := Lib.hid hpop; clear hpop
      have HOW := Lib.hid hown; clear hown hL hlen h0 hwR hpw hcells
      obtain ⟨pa, pb, PA, pn, pc, PA', pn', pc'⟩ := p
      simp only at q0 q1
      have hp1 := HPK.out.nc
      have hp2 := HPK.out.cm
      have hp3 := HPK.out.nc'
      have hp4 := HPK.out.cm'
      simp only at hp1 hp2 hp3 hp4
      unfold maxLen at hp2 hp4 hcapm
      have hpn : pn ≤ 9223372036854775807 := by omega
      have hpn' : pn' ≤ 9223372036854775807 := by omega
      by_cases hz : pn = 0 ∨ pn' = 0
      · have hcmp : pa.cmp pb = Lib.compareInt pn pn' := by
          have e1 := HPK.out.at1.len_eq
          have e2 := HPK.out.at2.len_eq
          simp only at e1 e2
          rw [cmp_end (by omega), ← e1, ← e2]
        obtain ⟨x, hx⟩ : ∃ x, Lib.compareInt pn pn' = x := ⟨_, rfl⟩
        have CI2 := Lib.hid (fun wX => CI.out pn pn' wX)
        rw [hx] at hcmp CI2
        have HX := Lib.hid hx
        have HCM := Lib.hid hcmp; clear hcmp hx
        by_cases hz0 : pn = 0
        · subst hz0
          go_wp2_with fail
          go_quiet ((go_at_call 31; exact Calls.quiet_of_same (CI2.out _)))
          have hbn := below_drewN (Below.refl wo.heap.size wo) nq
          have hown1 := vown_kept HP.out hbn
          have hbn4 := HBW.out.trans (hbn.mono HBW.out.size)
          have hbn0 := hbw0.trans (hbn.mono hbw0.size)
          generalize wo.drewN nq = w1 at hbn hown1 hbn4 hbn0 ⊢
          have HO1 := Lib.hid hown1; clear hown1 hbn
          have HB4 := Lib.hid hbn4; clear hbn4
          by_cases hx0 : x = 0
          · subst hx0
            go_wp2_with fail
            go_roundg (vwt R)
            case measure => have := HG.out; omega
            case rel => exact ⟨R, rfl, HO1.out, HR.out, stack_pop HS.out HCM.out, by omega, HB4.out⟩
          · go_wp2_with fail
            go_ret
            exact ⟨retC (by rw [HT.out]; exact stack_out HS.out HCM.out hx0), hbn0⟩
        · have z0 : ((pn : Int) == 0) = false := by simpa using hz0
          obtain rfl : pn' = 0 := by omega
          go_wp2_with fail
          go_quiet ((go_at_call 31; exact Calls.quiet_of_same (CI2.out _)))
          have hbn := below_drewN (Below.refl wo.heap.size wo) nq
          have hown1 := vown_kept HP.out hbn
          have hbn4 := HBW.out.trans (hbn.mono HBW.out.size)
          have hbn0 := hbw0.trans (hbn.mono hbw0.size)
          generalize wo.drewN nq = w1 at hbn hown1 hbn4 hbn0 ⊢
          have HO1 := Lib.hid hown1; clear hown1 hbn
          have HB4 := Lib.hid hbn4; clear hbn4
          by_cases hx0 : x = 0
          · subst hx0
            go_wp2_with fail
            go_roundg (vwt R)
            case measure => have := HG.out; omega
            case rel => exact ⟨R, rfl, HO1.out, HR.out, stack_pop HS.out HCM.out, by omega, HB4.out⟩
          · go_wp2_with fail
            go_ret
            exact ⟨retC (by rw [HT.out]; exact stack_out HS.out HCM.out hx0), hbn0⟩
      · have z0 : ((pn : Int) == 0) = false := by simp; omega
        have z0' : ((pn' : Int) == 0) = false := by simp; omega
        have hpos : 0 < pn := by omega
        have hpos' : 0 < pn' := by omega
        clear hz
        obtain ⟨ka, ba, ia, ta, ita, ksa, ra, hpa⟩ := At_cons HPK.out.at1 hpos
        obtain ⟨kb, bb, ib, tb, itb, ksb, rb, hpb⟩ := At_cons HPK.out.at2 hpos'
        simp only at hpa hpb
        subst hpa hpb
        obtain ⟨b, off, A1a, n1a, c1a, A2a, n2a, c2a, hPA, _, Ea, hra⟩ := At_rest HPK.out.at1
        obtain ⟨b', off', A1b, n1b, c1b, A2b, n2b, c2b, hPB, _, Eb, hrb⟩ := At_rest HPK.out.at2
        simp only at hPA hPB hra hrb
        subst hPA hPB
        have hla := HPK.out.la
        have hlb := HPK.out.lb
        have hna := HPK.out.na
        have hnb := HPK.out.nb
        simp only [Vals.letters, Vals.nodes] at hla hlb hna hnb hwt
        have hka := kz_len ksa
        have hkb := kz_len ksb
        have hn2a := Ea.ok.ks.1
        have hn2b := Eb.ok.ks.1
        have hcf : ∀ wX, Below W4.heap.size W4 wX → Calls Try.prog 45 #[.pointer (some ⟨b, off, none⟩), .pointer (some ⟨b', off', none⟩)] wX
            fun e w' => e = .returned (.int .i64 (cF ka ba ia ta ksa kb bb ib tb ksb)) ∧ Below wX.heap.size wX w' := fun wX hX =>
          compareFields_any ka ba ia ta A1a n1a c1a A2a n2a c2a ita ksa b off kb bb ib tb A1b n1b c1b A2b n2b c2b itb ksb b' off' wX ((Ea.below hX).more hX.size) ((Eb.below hX).more hX.size) (by omega) (by omega)
        obtain ⟨f, hf⟩ : ∃ f, cF ka ba ia ta ksa kb bb ib tb ksb = f := ⟨_, rfl⟩
        rw [hf] at hcf
        have HF := Lib.hid hf; clear hf
        have HCF := Lib.hid hcf; clear hcf
        have HEA := Lib.hid Ea; clear Ea
        have HEB := Lib.hid Eb; clear Eb
        have hNA : ra.At W4 W4.heap.size (if pc = 1 then some ⟨b, off, none⟩ else some ⟨b, off + 6, none⟩) (pn - 1) := by
          split
          · have e : pn - 1 = 0 := by omega
            rw [e] at hra ⊢
            exact At_none hra
          · exact hra
        have hNB : rb.At W4 W4.heap.size (if pc' = 1 then some ⟨b', off', none⟩ else some ⟨b', off' + 6, none⟩) (pn' - 1) := by
          split
          · have e : pn' - 1 = 0 := by omega
            rw [e] at hrb ⊢
            exact At_none hrb
          · exact hrb
        clear hra hrb
        have HNA := Lib.hid hNA; clear hNA
        have HNB := Lib.hid hNB; clear hNB
        clear hka hkb hn2a hn2b
        go_wp2_with fail
        go_quiet (fail)
        go_wp2_with fail
        have hbn := below_drewN (Below.refl wo.heap.size wo) nq
        have q0 := (hbn.cell (p := ⟨gb, R.length * 2, none⟩) hgs).trans q0
        have q1 := (hbn.cell (p := ⟨gb, R.length * 2 + 1, none⟩) hgs).trans q1
        have hgs1 : gb < (wo.drewN nq).heap.size := Nat.lt_of_lt_of_le hgs hbn.size
        have hown1 := vown_kept HOW.out hbn
        have hbn4 := HBW.out.trans (hbn.mono HBW.out.size)
        have fr0 := hown1.frozenAt (R.length * 2)
        have fr1 := hown1.frozenAt (R.length * 2 + 1)
        generalize wo.drewN nq = w1 at hbn hown1 hbn4 q0 q1 hgs1 fr0 fr1 ⊢
        have HO1 := Lib.hid hown1; clear hown1 hbn
        have HB4 := Lib.hid hbn4; clear hbn4
        have i1 : (1 : Int) ≤ (pn : Int) := by omega
        have i1' : (1 : Int) ≤ (pn' : Int) := by omega
        have ic1 : (1 : Int) ≤ (pc : Int) := by omega
        have ic1' : (1 : Int) ≤ (pc' : Int) := by omega
        go_region
        clear q0 q1 fr0 fr1 i1 i1' ic1 ic1' z0 z0'
        generalize (if pc = 1 then some (Addr.mk b off none) else some ⟨b, off + 6, none⟩) = NA at HNA ⊢
        generalize (if pc' = 1 then some (Addr.mk b' off' none) else some ⟨b', off' + 6, none⟩) = NB at HNB ⊢
        have own2 := ((HO1.out.stored (R.length * 2) (.slice NA (pn - 1) (pc - 1))).1.stored (R.length * 2 + 1) (.slice NB (pn' - 1) (pc' - 1))).1.drew
        rw [vcells_set R _ NA NB (pn - 1) (pc - 1) (pn' - 1) (pc' - 1) ra rb] at own2
        have hb2 := ((HB4.out.setCell (p := ⟨gb, R.length * 2, none⟩) hgb (.slice NA (pn - 1) (pc - 1))).setCell (p := ⟨gb, R.length * 2 + 1, none⟩) hgb (.slice NB (pn' - 1) (pc' - 1))).drew
        generalize ((w1.setCell ⟨gb, R.length * 2, none⟩ (.slice NA (pn - 1) (pc - 1))).setCell ⟨gb, R.length * 2 + 1, none⟩ (.slice NB (pn' - 1) (pc' - 1))).drew = w2 at own2 hb2 ⊢
        have HO2 := Lib.hid own2; clear own2 HO1
        go_wp2_with fail
        refine (HCF.out _ hb2).mono ?_
        rintro e w3 ⟨rfl, hb3⟩
        have hbw3 := hb2.trans (hb3.mono hb2.size)
        have own3 := vown_kept HO2.out hb3
        have hbw30 : Below w.heap.size w w3 := HBY.out.trans (hbw3.mono (by omega))
        by_cases hf0 : f = 0
        · subst hf0
          have HO3 := Lib.hid own3; clear own3 HO2 HB4 hb2 hb3
          have x4 := (hbw3.cell (p := ⟨b, off + 4, none⟩) HEA.out.lt).trans HEA.out.x4
          have y4 := (hbw3.cell (p := ⟨b', off' + 4, none⟩) HEB.out.lt).trans HEB.out.x4
          have hsa : b < w3.heap.size := Nat.lt_of_lt_of_le HEA.out.lt hbw3.size
          have hsb : b' < w3.heap.size := Nat.lt_of_lt_of_le HEB.out.lt hbw3.size
          have hlB : b < W4.heap.size := HEA.out.lt
          have hlB' : b' < W4.heap.size := HEB.out.lt
          have hlen2 : (R ++ [VPr.mk ra rb NA (pn - 1) (pc - 1) NB (pn' - 1) (pc' - 1)]).length = R.length + 1 := by simp
          have ag : (Value.slice (some ⟨gb, 0, none⟩) (R.length + 1) cap).ownBlock ≠ some b := fun h => by have := (HO3.out.lt _ h).1; omega
          have ah : (Value.slice (some ⟨gb, 0, none⟩) (R.length + 1) cap).ownBlock ≠ some b' := fun h => by have := (HO3.out.lt _ h).1; omega
          have hsw : W4.heap.size ≤ w3.heap.size := hbw3.size
          have HLE := Lib.hid hlen2; clear hlen2
          go_wp2_with fail
          go_region_held3 (fun w' => w'.cell? ⟨b, off + 4, none⟩ = some (.slice A1a n1a c1a) ∧ w'.cell? ⟨b', off' + 4, none⟩ = some (.slice A1b n1b c1b))
            (first
              | go_keep
              | (go_split_ands
                 refine ⟨?_, ?_⟩
                 · (rw [hgrow.cell_far _ (by simp; omega) (Ne.symm ag)]; assumption)
                 · (rw [hgrow.cell_far _ (by simp; omega) (Ne.symm ah)]; assumption)))
            ((refine step_append_lies _ (by rfl) _ _ _ (by rfl) W4.heap.size 62 i0 _ 2 48 Try.underlying63 hi hz0 hz1 hz2 rfl (by omega) (.slice (some ⟨gb, 0, none⟩) (R.length + 1) cap) (R.length + 1) (vcells (R ++ [VPr.mk ra rb NA (pn - 1) (pc - 1) NB (pn' - 1) (pc' - 1)])) (by rfl) ((HO3.out.alloc _).drew)
                ⟨w3.heap.size, 0, none⟩ 1 1 [.slice A1a n1a c1a, .slice A1b n1b c1b] (by rfl) (by rfl) (vnew_two w3 _ _) (by simp [Value.oneCell'])
                (by omega) (by unfold maxLen; omega) (by omega) (by simp; omega) (w3.heap.size + 1) (by simp) ?_; intro gg cap2 w4 hown' hgrow hat hlt2))
          have hbw5 : Below W4.heap.size W4 w4 := ((hbw3.alloc hsw _).drew).grown hgrow (by simp; omega) (fun k hk => (HO3.out.lt k hk).1)
          have HO5 := Lib.hid hown'; clear hown' hgrow hat ag ah x4 y4
          go_wp2_with fail
          go_roundg (vwt (R ++ [VPr.mk ra rb NA (pn - 1) (pc - 1) NB (pn' - 1) (pc' - 1)] ++ [VPr.mk ita itb A1a n1a c1a A1b n1b c1b]))
          case measure =>
            have := HG.out
            simp only [Vals.nodes] at this
            rw [vwt_app, vwt_app]
            simp only [vwt]
            omega
          case rel =>
            refine ⟨R ++ [VPr.mk ra rb NA (pn - 1) (pc - 1) NB (pn' - 1) (pc' - 1)] ++ [VPr.mk ita itb A1a n1a c1a A1b n1b c1b], rfl, ?_, fun x hx => ?_, stack_push HS.out rfl rfl HF.out rfl rfl rfl rfl, ?_, hbw5⟩
            · have h := HO5.out
              rw [vcells_app, List.length_append, HLE.out]
              exact h
            · rcases List.mem_append.1 hx with hx | hx
              · rcases List.mem_append.1 hx with hx | hx
                · exact HR.out x hx
                · simp at hx
                  subst hx
                  exact ⟨HNA.out, HNB.out, by simp only; omega, by simp only; unfold maxLen; omega, by simp only; omega, by simp only; unfold maxLen; omega, by simp only; omega, by simp only; omega, by simp only; omega, by simp only; omega⟩
              · simp at hx
                subst hx
                exact ⟨HEA.out.ok.at_, HEB.out.ok.at_, HEA.out.ok.nc1, HEA.out.ok.cm1, HEB.out.ok.nc1, HEB.out.ok.cm1, by simp only; omega, by simp only; omega, by simp only; omega, by simp only; omega⟩
            · rw [vwt_app, vwt_app]
              simp only [vwt]
              omega
        · go_wp2_with fail
          go_ret
          exact ⟨retC (by rw [HT.out]; exact stack_head HS.out rfl rfl HF.out hf0), hbw30⟩
end Go.Proofs.Ytfgekmfkaepgjaa
