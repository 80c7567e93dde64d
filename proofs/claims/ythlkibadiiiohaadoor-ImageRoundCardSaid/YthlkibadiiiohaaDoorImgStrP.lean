/- DERIVED. asset.ImageString. No condition. -/
import Derived.Test.YthlkibadiiiohaaDoorImgStrR
import Derived.Test.YthlkibadiiiohaaDoorRowB
import Derived.StillTailTactics
namespace Go.Proofs.YthlkibadiiiohaaDoor
open Go.RowKit
set_option linter.unusedVariables false
theorem dig16_im : ∀ q (h : q < 16), (ByteArray.mk #[48, 49, 50, 51, 52, 53, 54, 55, 56, 57, 97, 98, 99, 100, 101, 102])[q]'h = hexU q := by decide
theorem conv_head (s : ByteArray) (w : World) : ∃ (cap : Nat) (C : Array Value) (lo hi : Nat), s.size ≤ cap ∧ C.size = cap ∧ (∀ j (hj : j < s.data.toList.length), C[j]? = some (.int .u8 (s.data.toList[j].toNat : Int))) ∧ cap ≤ lo ∧
    (convert 9 50 (.string s)).run Tryd.prog w = .ok (.slice (some ⟨w.heap.size, 0, none⟩) s.size cap) (w.drew.alloc (.cells C 5 (lo, hi))) := by
  have hge := grownCap_ge w s.size 0 5
  have hz : (bytesRow s (grownCap w s.size 0 5)).size = grownCap w s.size 0 5 := by
    unfold bytesRow
    have : s.size = s.data.size := rfl
    simp
    omega
  refine ⟨_, _, _, _, hge, hz, fun j hj => ?_, Nat.le_of_eq hz.symm, run_bytes_of_string (P := Tryd.prog) w 9 50 5 s Tryd.underlying9 Tryd.underlying50 Tryd.underlying5⟩
  rw [bytesRow_at s _ j (by simpa using hj)]
  simp
set_option maxRecDepth 100000 in
set_option maxHeartbeats 1600000 in
theorem imgStrP_any (W H : Int) (A : Option Addr) (n c : Nat) (zs : List Int) (w : World) (hz : zs.length = n) (hn : n ≤ maxLen) (hI : IntsAt w w.heap.size A zs) :
    Calls Tryd.prog 11 #[.agg #[.int .i64 W, .int .i64 H, .slice A n c]] w fun e w' => e = .returned (.tuple #[.string (outB W H zs), .int .i64 (imgE W H zs)]) ∧ Below w.heap.size w w' := by
  have H1 := Lib.hid (fun wX (hX : Below w.heap.size w wX) => chkImg_any W H A n c zs wX hz hn ((hI.below hX (Nat.le_refl _)).morei hX.size))
  by_cases hE : imgE W H zs = 0
  · obtain ⟨⟨d1, d2⟩, ⟨d3, d4⟩, hlen, hlv⟩ := imgE_in hE
    have HO := Lib.hid (show outB W H zs = headB W H ++ bS (bl W.toNat zs zs.length) by unfold outB; rw [if_pos hE])
    rw [hE] at H1 ⊢
    have H2 := Lib.hid (fun wX => dgs_any W d1 d2 wX)
    have H3 := Lib.hid (fun wX => dgs_any H d3 d4 wX)
    have hq1 := dgs_size W d2
    have hq2 := dgs_size H d4
    have HHB := Lib.hid (show headB W H = (⟨#[105, 109, 97, 103, 101, 32]⟩ : ByteArray) ++ dgs W ++ ⟨#[32]⟩ ++ dgs H ++ ⟨#[10]⟩ from rfl)
    have HI := Lib.hid hI
    have HZ := Lib.hid hz
    have HLV := Lib.hid hlv
    obtain ⟨g1, hg1⟩ : ∃ g1, dgs W = g1 := ⟨_, rfl⟩
    obtain ⟨g2, hg2⟩ : ∃ g2, dgs H = g2 := ⟨_, rfl⟩
    rw [hg1] at H2 hq1 HHB
    rw [hg2] at H3 hq2 HHB
    have hnn : n ≤ 4096 := by
      obtain ⟨p1, p2⟩ := prod_le (a := W) (b := H) (by omega) (by omega) d2 d4
      rw [hz] at hlen
      omega
    have HHZ := Lib.hid (headB_size W H d2 d4)
    clear hE hI hz hlv hlen hg1 hg2 hn
    go_enter Tryd.func11, Tryd.ntmps11
    go_wp2_with fail
    refine (H1.out _ ((Below.refl _ w).alloc (Nat.le_refl _) _)).mono ?_
    rintro e w1 ⟨rfl, hb1⟩
    have HB := Lib.hid (((Below.refl _ w).alloc (Nat.le_refl _) _).trans (hb1.mono (by simp)))
    have o0 : w1.heap[w.heap.size]? = some (.cells #[.int .i64 W, .int .i64 H, .slice A n c] 33 (0, 0)) := (hb1.block w.heap.size (by simp)).trans (heap_alloc_new _ _)
    obtain ⟨e0, e1, e2⟩ := box3i o0
    have HO0 := Lib.hid o0
    clear o0 hb1
    go_wp2_with fail
    obtain ⟨cap, C, lo, hi, k1, k2, k3, k4, hcv⟩ := conv_head ((⟨#[105, 109, 97, 103, 101, 32]⟩ : ByteArray) ++ g1 ++ ⟨#[32]⟩ ++ g2 ++ ⟨#[10]⟩) w1.drew
    have HK := Lib.hid (And.intro k1 (And.intro k2 (And.intro k3 k4)))
    clear k1 k2 k3 k4
    have hcv2 : (convert 9 50 (.string ((⟨#[105, 109, 97, 103, 101, 32]⟩ : ByteArray) ++ g1 ++ ⟨#[32]⟩ ++ g2 ++ ⟨#[10]⟩))).run Tryd.prog w1.drew = .ok (.slice (some ⟨w1.heap.size, 0, none⟩) ((⟨#[105, 109, 97, 103, 101, 32]⟩ : ByteArray) ++ g1 ++ ⟨#[32]⟩ ++ g2 ++ ⟨#[10]⟩).size cap) (w1.drew.drew.alloc (.cells C 5 (lo, hi))) := hcv
    clear hcv
    have HI1 := Lib.hid (HI.out.below HB.out (Nat.le_refl _))
    have HW1 := Lib.hid (show w.heap.size < w1.heap.size from (Array.getElem?_eq_some_iff.1 HO0.out).1)
    have s1 : ¬ 9223372036854775807 < 6 + g1.size := by omega
    have s2 : ¬ 9223372036854775807 < 6 + g1.size + 1 := by omega
    have s3 : ¬ 9223372036854775807 < 6 + g1.size + 1 + g2.size := by omega
    have s4 : ¬ 9223372036854775807 < 6 + g1.size + 1 + g2.size + 1 := by omega
    have hw1lt := HW1.out
    refine wp_region_still_tail 10 (by kernel_rfl) (by kernel_rfl) ?_
    simp only [List.take_succ_cons, List.take_zero, List.drop_succ_cons, List.drop_zero]
    change wpStill _ _ w1.drew _ _ _
    repeat still_step
    still_call ((H2.out _).mono fun _ _ h => ⟨h.1, h.2.symm⟩)
    repeat still_step
    still_call ((H3.out _).mono fun _ _ h => ⟨h.1, h.2.symm⟩)
    repeat still_step
    refine wpStill_nil ?_
    change wpList _ _ _ _ _ w1.drew
    go_wp2_with fail
    obtain ⟨hl, hhl⟩ : ∃ hl, (headB W H).data.toList = hl := ⟨_, rfl⟩
    have hlen0 : hl.length = 6 + g1.size + 1 + g2.size + 1 := by
      rw [← hhl, HHB.out]
      have : ((⟨#[105, 109, 97, 103, 101, 32]⟩ : ByteArray) ++ g1 ++ ⟨#[32]⟩ ++ g2 ++ ⟨#[10]⟩).size = 6 + g1.size + 1 + g2.size + 1 := by
        simp only [ByteArray.size_append]
        rfl
      rw [← this]
      exact Array.length_toList
    have hrow0 : RowB (w1.alloc (.cells C 5 (lo, hi))) w1.heap.size w1.heap.size cap hl := by
      obtain ⟨k1, k2, k3, k4⟩ := HK.out
      refine RowB.conv w1 hl cap lo hi ?_ C k2 ?_ k4
      · rw [hlen0]
        have : ((⟨#[105, 109, 97, 103, 101, 32]⟩ : ByteArray) ++ g1 ++ ⟨#[32]⟩ ++ g2 ++ ⟨#[10]⟩).size = 6 + g1.size + 1 + g2.size + 1 := by
          simp only [ByteArray.size_append]
          rfl
        omega
      · rw [← HHB.out, hhl] at k3
        exact k3
    have HHL := Lib.hid hhl
    have HL0 := Lib.hid hlen0
    have HR0 := Lib.hid hrow0
    clear hhl hlen0 hrow0 s1 s2 s3 s4 e0 e1 e2 hcv2 hw1lt
    go_loopw [5, 27] (fun v i wr => ∃ (k b cp m : Nat), k ≤ n ∧ i = .int .i64 k ∧ v = .slice (some ⟨b, 0, none⟩) m cp ∧ (hl ++ bl W.toNat zs k).length = m ∧ RowB wr w1.heap.size b cp (hl ++ bl W.toNat zs k) ∧ Below w1.heap.size w1 wr) (fun _ i _ => n - (intOf i).toNat)
    case atStart => exact ⟨0, _, _, _, Nat.zero_le _, rfl, rfl, by rw [← HL0.out]; simp [bl], by rw [show hl ++ bl W.toNat zs 0 = hl by simp [bl]]; exact HR0.out.heap rfl HR0.out.2.1, (((Below.refl _ w1).alloc (Nat.le_refl _) _).drew).drew⟩
    case round =>
      obtain ⟨k, b, cp, m, hk, rfl, rfl, hm, hrow, hbw⟩ := hrel
      have or0 : wr.heap[w.heap.size]? = some (.cells #[.int .i64 W, .int .i64 H, .slice A n c] 33 (0, 0)) := (hbw.block _ HW1.out).trans HO0.out
      have HBR := Lib.hid hbw
      have HBW := Lib.hid (HB.out.trans (hbw.mono HB.out.size))
      have HROW := Lib.hid hrow
      have hm2 : m ≤ 9000 := by
        rw [← hm, List.length_append, HL0.out]
        have := bl_len W.toNat zs k
        omega
      have HM := Lib.hid hm
      clear hm hrow
      by_cases hlt : k < n
      · obtain ⟨z, hzz⟩ : ∃ z, zs[k]? = some z := ⟨_, List.getElem?_eq_getElem (by rw [HZ.out]; exact hlt)⟩
        obtain ⟨a, rfl, hab, hac0⟩ := HI1.out k z hzz
        have hac : wr.cell? (a.add k) = some (.int .i64 z) := (hbw.cell (by rw [addr_block]; have := HW1.out; omega)).trans hac0
        clear hac0
        obtain ⟨z0, z1⟩ := level_in HLV.out hzz
        obtain ⟨q, rfl⟩ : ∃ q : Nat, z = q := ⟨z.toNat, by omega⟩
        have HNX := Lib.hid (bl_next (W := W.toNat) hzz)
        have hq : q < 16 := by omega
        have hdk := dig16_im q hq
        obtain ⟨d, hdd⟩ : ∃ d, hexU q = d := ⟨_, rfl⟩
        rw [hdd] at hdk
        have HD := Lib.hid hdd
        have HOR := Lib.hid or0
        clear hbw hzz or0 hab hdd
        go_wp2_with (at_builtin; refine wpList_append_rowB rfl _ _ rfl HM.out rfl (HROW.out.alloc _) ⟨wr.heap.size, 0, none⟩ 1 d rfl ?c1 (by omega) ?_)
        case c1 => simp [Addr.add]
        intro b1 cp1 w3 hR1 hb3
        have o3 : w3.heap[w.heap.size]? = some (.cells #[.int .i64 W, .int .i64 H, .slice (some a) n c] 33 (0, 0)) := (hb3.block _ HW1.out).trans ((Below.heap_alloc _ _ _ (Array.getElem?_eq_some_iff.1 HOR.out).1).trans HOR.out)
        obtain ⟨e0, e1, e2⟩ := box3i o3
        have HB3 := Lib.hid ((HBR.out.alloc HBR.out.size _).trans hb3)
        obtain ⟨L1, hL1⟩ : ∃ L1, hl ++ (bl W.toNat zs k ++ [d]) = L1 := ⟨_, rfl⟩
        have hL1m : L1.length = m + 1 := by rw [← hL1, ← List.append_assoc, List.length_append, HM.out]; rfl
        rw [hL1] at hR1
        have HR1 := Lib.hid hR1
        have HL1 := Lib.hid hL1
        clear hL1
        have HO3 := Lib.hid o3
        clear o3 hb3 hR1 hac
        by_cases hmod : (k + 1) % W.toNat = 0
        · have hr1 : (((k : Int) + 1) % W == 0) = true := by
            have : (((k + 1) % W.toNat : Nat) : Int) = ((k : Int) + 1) % W := by rw [Int.natCast_emod]; congr 1; omega
            rw [← this, hmod]
            rfl
          have HN := Lib.hid hmod
          clear hmod
          go_wp2_with (at_builtin; refine wpList_append_rowB rfl _ _ rfl hL1m rfl (HR1.out.alloc _) ⟨w3.heap.size, 0, none⟩ 1 10 rfl ?c2 (by omega) ?_)
          case c2 => simp [Addr.add]
          intro b2 cp2 w4 hR2 hb4
          have HB4 := Lib.hid ((HB3.out.alloc HB3.out.size _).trans hb4)
          have HR2 := Lib.hid hR2
          clear hb4 hR2
          go_wp2_with fail
          go_roundw
          case rel =>
            have hbl : hl ++ bl W.toNat zs (k + 1) = L1 ++ [10] := by rw [HNX.out, if_pos HN.out, Int.toNat_natCast, HD.out, ← HL1.out]; simp
            exact ⟨k + 1, b2, cp2, m + 1 + 1, by omega, by go_num, rfl, by rw [hbl, List.length_append, hL1m]; rfl, by rw [hbl]; exact HR2.out, HB4.out⟩
          case measure => simp [intOf]; omega
        · have hr1 : (((k : Int) + 1) % W == 0) = false := by
            have : (((k + 1) % W.toNat : Nat) : Int) = ((k : Int) + 1) % W := by rw [Int.natCast_emod]; congr 1; omega
            rw [← this]
            clear this
            generalize (k + 1) % W.toNat = r at hmod
            apply beq_eq_false_iff_ne.2
            intro h
            omega
          have HN := Lib.hid hmod
          clear hmod
          go_wp2_with fail
          go_roundw
          case rel =>
            have hbl : hl ++ bl W.toNat zs (k + 1) = L1 := by rw [HNX.out, if_neg HN.out, Int.toNat_natCast, HD.out, ← HL1.out]
            exact ⟨k + 1, b1, cp1, m + 1, by omega, by go_num, rfl, by rw [hbl, hL1m], by rw [hbl]; exact HR1.out, HB3.out⟩
          case measure => simp [intOf]; omega
      · have hkn : k = n := by omega
        have hcells : ∀ j (hj : j < (hl ++ bl W.toNat zs k).length), wr.cell? ((⟨b, 0, none⟩ : Addr).add j) = some (.int .u8 (((hl ++ bl W.toNat zs k)[j]).toNat : Int)) := fun j hj => by
          have e : (⟨b, 0, none⟩ : Addr).add j = ⟨b, j, none⟩ := by unfold Addr.add; split <;> simp_all
          rw [e]
          exact HROW.out.2.2.2.1 j hj
        have hback := run_convert_bytes_back (P := Tryd.prog) wr 50 9 5 ⟨b, 0, none⟩ cp (hl ++ bl W.toNat zs k) Tryd.underlying50 Tryd.underlying5 Tryd.underlying9 hcells
        rw [HM.out] at hback
        have hfin : (⟨(hl ++ bl W.toNat zs k).toArray⟩ : ByteArray) = outB W H zs := by
          rw [HO.out, HZ.out, ← HHL.out, hkn]
          apply ByteArray.ext
          apply Array.toList_inj.1
          simp [bS]
        rw [hfin] at hback
        clear hcells hfin hbw or0
        go_wp2_with fail
        go_ret2
        exact ⟨rfl, HBW.out⟩
  · have HO := Lib.hid (show outB W H zs = ⟨#[]⟩ by unfold outB; rw [if_neg hE])
    obtain ⟨er, her⟩ : ∃ er, imgE W H zs = er := ⟨_, rfl⟩
    rw [her] at H1 hE ⊢
    clear her hI hz hn
    go_enter Tryd.func11, Tryd.ntmps11
    go_wp2_with fail
    refine (H1.out _ ((Below.refl _ w).alloc (Nat.le_refl _) _)).mono ?_
    rintro e w1 ⟨rfl, hb1⟩
    have HB := Lib.hid (((Below.refl _ w).alloc (Nat.le_refl _) _).trans (hb1.mono (by simp)))
    clear hb1
    go_wp2_with fail
    go_ret2
    exact ⟨by rw [HO.out]; rfl, HB.out⟩
end Go.Proofs.YthlkibadiiiohaaDoor
