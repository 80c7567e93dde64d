/- DERIVED. The reference's ImageStringOf. Condition: the library's table of math/bits holds 4 at its place 15. -/
import Derived.Test.YtkobenohijipeaaDoorChkImg
import Derived.Test.YtkobenohijipeaaDoorFmtHex
import Derived.Test.YtkobenohijipeaaDoorShelf
import Derived.BigQuiet
namespace Go.Proofs.YtkobenohijipeaaDoor
open Go.RowKit
set_option linter.unusedVariables false
def bS (l : List UInt8) : ByteArray := ⟨l.toArray⟩
theorem bS_size (l : List UInt8) : (bS l).size = l.length := by simp [bS, ByteArray.size]
theorem bS_one (l : List UInt8) (d : UInt8) : bS l ++ ⟨#[d]⟩ = bS (l ++ [d]) := by
  apply ByteArray.ext
  apply Array.toList_inj.1
  simp [bS]
theorem app_nil (s : ByteArray) : s ++ bS [] = s := by
  apply ByteArray.ext
  apply Array.toList_inj.1
  simp [bS]
theorem app_bS (s : ByteArray) (l : List UInt8) (d : UInt8) : s ++ bS l ++ ⟨#[d]⟩ = s ++ bS (l ++ [d]) := by
  apply ByteArray.ext
  apply Array.toList_inj.1
  simp [bS]
theorem app_bS2 (s : ByteArray) (l : List UInt8) (d d2 : UInt8) : s ++ bS l ++ ⟨#[d]⟩ ++ ⟨#[d2]⟩ = s ++ bS (l ++ [d, d2]) := by
  apply ByteArray.ext
  apply Array.toList_inj.1
  simp [bS]
theorem mod_last {k W : Nat} (hW : 1 ≤ W) : (k + 1) % W = 0 ↔ k % W = W - 1 := by
  have h1 := Nat.mod_lt k hW
  have h2 := Nat.div_add_mod k W
  have e : k + 1 = W * (k / W) + (k % W + 1) := by omega
  rw [e, Nat.mul_add_mod]
  by_cases h : k % W + 1 = W
  · rw [h, Nat.mod_self]; omega
  · rw [Nat.mod_eq_of_lt (by omega)]; omega
def dgs (W : Int) : ByteArray := ⟨(Lib.decDigits W.toNat).toArray⟩
def headB (W H : Int) : ByteArray := ⟨#[105, 109, 97, 103, 101, 32]⟩ ++ dgs W ++ ⟨#[32]⟩ ++ dgs H ++ ⟨#[10]⟩
/-- The lines of the first levels. -/
def bl (W : Nat) (zs : List Int) : Nat → List UInt8
  | 0 => []
  | k + 1 => bl W zs k ++ hexU (zs.getD k 0).toNat :: (if (k + 1) % W = 0 then [10] else [])
theorem bl_len (W : Nat) (zs : List Int) : ∀ k, (bl W zs k).length ≤ 2 * k
  | 0 => Nat.zero_le _
  | k + 1 => by
    have := bl_len W zs k
    unfold bl
    rw [List.length_append, List.length_cons]
    split <;> simp <;> omega
theorem dgs_size (W : Int) (h : W ≤ 64) : (dgs W).size ≤ 2 := by
  have key : (Lib.decDigits W.toNat).length ≤ 2 := by
    unfold Lib.decDigits
    split
    · simp
    · unfold Lib.decDigits
      rw [dif_pos (by omega)]
      simp
  show (Lib.decDigits W.toNat).toArray.size ≤ 2
  simpa using key
theorem dgs_any (W : Int) (h1 : 1 ≤ W) (h2 : W ≤ 64) (w : World) : Calls Tryd.prog 48 #[.int .i64 W] w fun e w' => e = .returned (.string (dgs W)) ∧ w = w' := by
  obtain ⟨n, rfl⟩ : ∃ n : Nat, W = n := ⟨W.toNat, by omega⟩
  refine (Tryd.strconv_Itoa_small n (by omega) w).mono ?_
  rintro e w' ⟨rfl, rfl⟩
  exact ⟨by unfold dgs; rw [Int.toNat_natCast], rfl⟩
def outB (W H : Int) (zs : List Int) : ByteArray := if imgE W H zs = 0 then headB W H ++ bS (bl W.toNat zs zs.length) else ⟨#[]⟩
theorem imgE_in {W H : Int} {zs : List Int} (h : imgE W H zs = 0) : (1 ≤ W ∧ W ≤ 64) ∧ (1 ≤ H ∧ H ≤ 64) ∧ (zs.length : Int) = W * H ∧ zs.any offL = false := by
  unfold imgE at h
  split at h
  · cases h
  · rename_i h0
    split at h
    · cases h
    · rename_i h1
      split at h
      · cases h
      · rename_i h2
        have a1 : sideB W = true := by cases hs : sideB W with | true => rfl | false => exact absurd (.inl hs) h0
        have a2 : sideB H = true := by cases hs : sideB H with | true => rfl | false => exact absurd (.inr hs) h0
        exact ⟨sideB_inv a1, sideB_inv a2, by simpa using h1, by simpa using h2⟩
theorem headB_size (W H : Int) (h : W ≤ 64) (h' : H ≤ 64) : (headB W H).size ≤ 20 := by
  have h1 := dgs_size W h
  have h2 := dgs_size H h'
  unfold headB
  simp only [ByteArray.size_append]
  show 6 + (dgs W).size + 1 + (dgs H).size + 1 ≤ 20
  omega
theorem box3i {w : World} {N : Nat} {t : TypeId} {x y z : Value} (e : w.heap[N]? = some (.cells #[x, y, z] t (0, 0))) : w.cell? ⟨N, 0, none⟩ = some x ∧ w.cell? ⟨N, 1, none⟩ = some y ∧ w.cell? ⟨N, 2, none⟩ = some z := by
  have h : ∀ j, w.cell? ⟨N, j, none⟩ = (#[x, y, z] : Array Value)[j]? := fun j => cell_of_row _ _ _ _ _ _ e
  exact ⟨h 0, h 1, h 2⟩
theorem IntsAt.morei {w : World} {B B' : Nat} {A : Option Addr} {zs : List Int} (h : IntsAt w B A zs) (hB : B ≤ B') : IntsAt w B' A zs := fun j z hz => by
  obtain ⟨a, ha, hl, hc⟩ := h j z hz
  exact ⟨a, ha, by omega, hc⟩
theorem level_in {zs : List Int} {k : Nat} {z : Int} (h : zs.any offL = false) (hz : zs[k]? = some z) : 0 ≤ z ∧ z ≤ 15 := by
  have := List.any_eq_false.1 h z (List.mem_of_getElem? hz)
  simp [offL] at this
  exact this
theorem bl_next {W : Nat} {zs : List Int} {k : Nat} {z : Int} (hz : zs[k]? = some z) : bl W zs (k + 1) = bl W zs k ++ hexU z.toNat :: (if (k + 1) % W = 0 then [10] else []) := by
  show bl W zs k ++ hexU (zs.getD k 0).toNat :: _ = _
  rw [List.getD_eq_getElem?_getD, hz]
  rfl
set_option maxRecDepth 100000 in
set_option maxHeartbeats 800000 in
theorem imgStrR_any (W H : Int) (A : Option Addr) (n c : Nat) (zs : List Int) (w : World) (hz : zs.length = n) (hn : n ≤ maxLen) (hI : IntsAt w w.heap.size A zs) (hT : TzT w) :
    Calls Tryd.prog 18 #[.agg #[.int .i64 W, .int .i64 H, .slice A n c]] w fun e w' => e = .returned (.tuple #[.string (outB W H zs), .int .i64 (imgE W H zs)]) ∧ Below w.heap.size w w' := by
  have H1 := Lib.hid (fun wX (hX : Below w.heap.size w wX) => imgFault_any W H A n c zs wX hz hn ((hI.below hX (Nat.le_refl _)).morei hX.size))
  by_cases hE : imgE W H zs = 0
  · obtain ⟨⟨d1, d2⟩, ⟨d3, d4⟩, hlen, hlv⟩ := imgE_in hE
    have HO := Lib.hid (show outB W H zs = headB W H ++ bS (bl W.toNat zs zs.length) by unfold outB; rw [if_pos hE])
    rw [hE] at H1 ⊢
    have H2 := Lib.hid (fun wX => dgs_any W d1 d2 wX)
    have H3 := Lib.hid (fun wX => dgs_any H d3 d4 wX)
    have hq1 := dgs_size W d2
    have hq2 := dgs_size H d4
    have HHB := Lib.hid (show headB W H = (⟨#[105, 109, 97, 103, 101, 32]⟩ : ByteArray) ++ dgs W ++ ⟨#[32]⟩ ++ dgs H ++ ⟨#[10]⟩ from rfl)
    have HI := Lib.hid hI
    have HT := Lib.hid hT
    have HZ := Lib.hid hz
    have HLV := Lib.hid hlv
    obtain ⟨g1, hg1⟩ : ∃ g1, dgs W = g1 := ⟨_, rfl⟩
    obtain ⟨g2, hg2⟩ : ∃ g2, dgs H = g2 := ⟨_, rfl⟩
    rw [hg1] at H2 hq1 HHB
    rw [hg2] at H3 hq2 HHB
    have hnn : n ≤ 4096 := by
      obtain ⟨p1, p2⟩ := prod_le (a := W) (b := H) (by omega) (by omega) d2 d4
      rw [hz] at hlen
      omega
    have HHZ := Lib.hid (headB_size W H d2 d4)
    clear hE hI hT hz hlv hlen hg1 hg2 hn
    go_enter Tryd.func18, Tryd.ntmps18
    go_wp2_with fail
    refine (H1.out _ ((Below.refl _ w).alloc (Nat.le_refl _) _)).mono ?_
    rintro e w1 ⟨rfl, hb1⟩
    have HB := Lib.hid (((Below.refl _ w).alloc (Nat.le_refl _) _).trans (hb1.mono (by simp)))
    have o0 : w1.heap[w.heap.size]? = some (.cells #[.int .i64 W, .int .i64 H, .slice A n c] 37 (0, 0)) := (hb1.block w.heap.size (by simp)).trans (heap_alloc_new _ _)
    obtain ⟨e0, e1, e2⟩ := box3i o0
    have HO0 := Lib.hid o0
    clear o0 hb1
    go_wp2_with fail
    go_quiet ((go_at_call 48; first | exact Calls.quiet_of_same ((H2.out _).mono fun _ _ h => ⟨h.1, h.2.symm⟩) | exact Calls.quiet_of_same ((H3.out _).mono fun _ _ h => ⟨h.1, h.2.symm⟩)))
    go_wp2_with fail
    have HI1 := Lib.hid (HI.out.below HB.out (Nat.le_refl _))
    have HW1 := Lib.hid (show w.heap.size < w1.heap.size from (Array.getElem?_eq_some_iff.1 HO0.out).1)
    clear e0 e1 e2
    go_loopw [5, 26] (fun v i wr => ∃ k : Nat, k ≤ n ∧ i = .int .i64 k ∧ v = .string (headB W H ++ bS (bl W.toNat zs k)) ∧ Below w1.heap.size w1 wr) (fun _ i _ => n - (intOf i).toNat)
    case atStart => exact ⟨0, Nat.zero_le _, rfl, by rw [HHB.out]; exact congrArg Value.string (app_nil _).symm, below_drewN (Below.refl _ _) _⟩
    case round =>
      obtain ⟨k, hk, rfl, rfl, hbw⟩ := hrel
      obtain ⟨X, hX⟩ : ∃ X, headB W H ++ bS (bl W.toNat zs k) = X := ⟨_, rfl⟩
      have hXz : X.size ≤ 10000 := by
        rw [← hX, ByteArray.size_append, bS_size]
        have := bl_len W.toNat zs k
        have := HHZ.out
        omega
      rw [hX]
      have HX := Lib.hid hX
      clear hX
      have or0 : wr.heap[w.heap.size]? = some (.cells #[.int .i64 W, .int .i64 H, .slice A n c] 37 (0, 0)) := (hbw.block _ HW1.out).trans HO0.out
      have HBR := Lib.hid hbw
      have HBW := Lib.hid (HB.out.trans (hbw.mono HB.out.size))
      by_cases hlt : k < n
      · obtain ⟨z, hzz⟩ : ∃ z, zs[k]? = some z := ⟨_, List.getElem?_eq_getElem (by rw [HZ.out]; exact hlt)⟩
        obtain ⟨a, rfl, hab, hac0⟩ := HI1.out k z hzz
        have hac : wr.cell? (a.add k) = some (.int .i64 z) := (hbw.cell (by rw [addr_block]; have := HW1.out; omega)).trans hac0
        clear hac0
        obtain ⟨z0, z1⟩ := level_in HLV.out hzz
        obtain ⟨q, rfl⟩ : ∃ q : Nat, z = q := ⟨z.toNat, by omega⟩
        have HNX := Lib.hid (bl_next (W := W.toNat) hzz)
        have HC := Lib.hid (fmt16 q wr (by omega) (HT.out.below HBW.out))
        have HOR := Lib.hid or0
        have hwr : w.heap.size < wr.heap.size := (Array.getElem?_eq_some_iff.1 or0).1
        have HHW := Lib.hid hwr
        clear hbw hzz or0 hab z0 z1 hwr
        go_wp2_with fail
        refine (HC.out).mono ?_
        rintro e w3 ⟨rfl, hb3⟩
        have o3 : w3.heap[w.heap.size]? = some (.cells #[.int .i64 W, .int .i64 H, .slice (some a) n c] 37 (0, 0)) := (hb3.block _ HHW.out).trans HOR.out
        obtain ⟨e0, e1, e2⟩ := box3i o3
        have HB3 := Lib.hid hb3
        clear o3 hb3
        go_wp2_with fail
        go_quiet (fail)
        by_cases hmod : (k + 1) % W.toNat = 0
        · have hm2 := (mod_last (by omega)).1 hmod
          have hr1 : ((k : Int) % W == W - 1) = true := by
            have : ((k % W.toNat : Nat) : Int) = (k : Int) % W := by rw [Int.natCast_emod]; congr 1; omega
            rw [← this, hm2]
            simp
            omega
          have HN := Lib.hid hmod
          clear hmod hm2
          go_wp2_with fail
          go_roundw
          case rel => exact ⟨k + 1, by omega, by go_num, by rw [HNX.out, if_pos HN.out, ← HX.out, app_bS2]; rfl, below_drewN (HBR.out.trans (HB3.out.mono HBR.out.size)) _⟩
          case measure => simp [intOf]; omega
        · have hm2 : ¬ k % W.toNat = W.toNat - 1 := fun h => hmod ((mod_last (by omega)).2 h)
          have hr1 : ((k : Int) % W == W - 1) = false := by
            have : ((k % W.toNat : Nat) : Int) = (k : Int) % W := by rw [Int.natCast_emod]; congr 1; omega
            rw [← this]
            clear this
            generalize k % W.toNat = r at hm2
            apply beq_eq_false_iff_ne.2
            intro h
            omega
          have HN := Lib.hid hmod
          clear hmod hm2
          go_wp2_with fail
          go_roundw
          case rel => exact ⟨k + 1, by omega, by go_num, by rw [HNX.out, if_neg HN.out, ← HX.out, app_bS]; rfl, below_drewN (HBR.out.trans (HB3.out.mono HBR.out.size)) _⟩
          case measure => simp [intOf]; omega
      · have hkn : k = n := by omega
        subst hkn
        go_wp2_with fail
        go_ret2
        exact ⟨by rw [HO.out, HZ.out, HX.out]; rfl, HBW.out⟩
  · have HO := Lib.hid (show outB W H zs = ⟨#[]⟩ by unfold outB; rw [if_neg hE])
    obtain ⟨er, her⟩ : ∃ er, imgE W H zs = er := ⟨_, rfl⟩
    rw [her] at H1 hE ⊢
    clear her hI hT hz hn
    go_enter Tryd.func18, Tryd.ntmps18
    go_wp2_with fail
    refine (H1.out _ ((Below.refl _ w).alloc (Nat.le_refl _) _)).mono ?_
    rintro e w1 ⟨rfl, hb1⟩
    have HB := Lib.hid (((Below.refl _ w).alloc (Nat.le_refl _) _).trans (hb1.mono (by simp)))
    clear hb1
    go_wp2_with fail
    go_ret2
    exact ⟨by rw [HO.out]; rfl, HB.out⟩
end Go.Proofs.YtkobenohijipeaaDoor
