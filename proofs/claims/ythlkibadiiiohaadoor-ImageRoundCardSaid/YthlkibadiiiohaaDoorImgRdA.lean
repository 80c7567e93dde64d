/- DERIVED. asset.readImage of an image that was written. Condition: the library's variable MaxLen is as the program's text lays it. -/
import Derived.Test.YthlkibadiiiohaaDoorImgNum
import Derived.Test.YthlkibadiiiohaaDoorTPath
import Derived.Deep.RegionHeld3
import Derived.Deep.AppendLies
import Derived.ChangeAlike
import Derived.Handy
import Derived.OneCell
import Derived.Laws.AppendOwn
import Derived.Shelf.Abstract
import Derived.BigQuiet
namespace Go.Proofs.YthlkibadiiiohaaDoor
open Go.RowKit
set_option linter.unusedVariables false
set_option linter.unusedSimpArgs false
theorem intInfoI : (Tryd.prog.info? 3).map (fun i => (i.zero, i.size, i.bytes)) = some (some (.int .i64 0), 1, 8) := by kernel_rfl
theorem cell_one_im (w : World) (b : Nat) (v : Value) (e : TypeId) (h : b = w.heap.size) : ∀ j u, [v][j]? = some u → (w.alloc (.cells #[v] e)).cell? ((⟨b, 0, none⟩ : Addr).add j) = some u := by
  subst h
  exact cell_one_new _ _ _
theorem imgSet0 {w : World} {b : Nat} {x y z : Value} (h : w.heap[b]? = some (.cells #[x, y, z] 33 (0, 0))) (v : Value) : (w.setCell ⟨b, 0, none⟩ v).heap[b]? = some (.cells #[v, y, z] 33 (0, 0)) := by simp [World.setCell, Array.getElem?_modify, h]
theorem imgSet1 {w : World} {b : Nat} {x y z : Value} (h : w.heap[b]? = some (.cells #[x, y, z] 33 (0, 0))) (v : Value) : (w.setCell ⟨b, 1, none⟩ v).heap[b]? = some (.cells #[x, v, z] 33 (0, 0)) := by simp [World.setCell, Array.getElem?_modify, h]
theorem imgSet2 {w : World} {b : Nat} {x y z : Value} (h : w.heap[b]? = some (.cells #[x, y, z] 33 (0, 0))) (v : Value) : (w.setCell ⟨b, 2, none⟩ v).heap[b]? = some (.cells #[x, y, v] 33 (0, 0)) := by simp [World.setCell, Array.getElem?_modify, h]
theorem imgCells {w : World} {b : Nat} {x y z : Value} (h : w.heap[b]? = some (.cells #[x, y, z] 33 (0, 0))) : w.cell? ⟨b, 0, none⟩ = some x ∧ w.cell? ⟨b, 1, none⟩ = some y ∧ w.cell? ⟨b, 2, none⟩ = some z ∧ w.frozen? ⟨b, 0, none⟩ = false ∧ w.frozen? ⟨b, 1, none⟩ = false ∧ w.frozen? ⟨b, 2, none⟩ = false := by
  refine ⟨?_, ?_, ?_, ?_, ?_, ?_⟩
  · rw [cell_of_row _ _ _ _ _ _ h]; rfl
  · rw [cell_of_row _ _ _ _ _ _ h]; rfl
  · rw [cell_of_row _ _ _ _ _ _ h]; rfl
  · unfold World.frozen?; simp only [h]; rfl
  · unfold World.frozen?; simp only [h]; rfl
  · unfold World.frozen?; simp only [h]; rfl
/-- A row of the call's own, from a block on, stays it when a block below is written. -/
theorem own_setB {w : World} {B b j n : Nat} {v x : Value} {l : List Value} (h : w.ownsRow B 3 1 v n l) (hb : b < B) : (w.setCell ⟨b, j, none⟩ x).ownsRow B 3 1 v n l := by
  refine h.kept (row := some b) ⟨rfl, rfl, rfl, by simp [World.setCell], fun k _ hk => Below.heap_setCell _ _ _ _ (fun e => hk (by simp [e]))⟩ (Or.inr fun e => ?_)
  have := (h.lt b e).1
  omega
def lv (zs : List Int) : List Value := zs.map (Value.int .i64)
def outL (W H : Nat) (zs : List Int) : List UInt8 := (imgL ++ (dd W ++ 32 :: dd H)) ++ 10 :: bl W zs zs.length
theorem mk_list (l : List UInt8) : (⟨l.toArray⟩ : ByteArray).data.toList = l := by simp
theorem mk_size (l : List UInt8) : (⟨l.toArray⟩ : ByteArray).size = l.length := by show l.toArray.size = _; simp
set_option maxRecDepth 100000 in
set_option maxHeartbeats 6400000 in
theorem readImg_any (W H : Nat) (w1 : 1 ≤ W) (w2 : W ≤ 64) (h1 : 1 ≤ H) (h2 : H ≤ 64) (zs : List Int) (hz : zs.length = W * H) (hlv : ∀ (k : Nat) (z : Int), zs[k]? = some z → 0 ≤ z ∧ z ≤ 15) (w : World) (hm : MaxT w) :
    Calls Tryd.prog 25 #[.string ⟨(outL W H zs).toArray⟩] w fun e w' => ∃ v, e = .returned (.tuple #[.agg #[.int .i64 (W : Int), .int .i64 (H : Int), v], .bool true]) ∧ w'.ownsRow (w.heap.size + 1) 3 1 v zs.length (lv zs) ∧ Below w.heap.size w w' := by
  obtain ⟨i0, hi, hz0, hz1, hz2⟩ := info_parts intInfoI
  have okW := dd_ok W (by omega) (by omega)
  have okH := dd_ok H (by omega) (by omega)
  have aW := dd_atoi W (by omega)
  have aH := dd_atoi H (by omega)
  obtain ⟨lw0, lw1, _, _, lw4, lw5⟩ := okNum_in okW
  obtain ⟨lh0, lh1, _, _, lh4, lh5⟩ := okNum_in okH
  have hWH : W * H ≤ 4096 := by
    calc W * H ≤ 64 * 64 := Nat.mul_le_mul w2 h2
      _ = 4096 := rfl
  obtain ⟨rl1, rl2, rl3⟩ := rest_len w1 hz
  have hbl := bl_length W w1 zs zs.length
  obtain ⟨R, hR⟩ : ∃ R, bl W zs zs.length = R := ⟨_, rfl⟩
  have hRl : R.length = H * (W + 1) := by rw [← hR, hbl, rl1]
  have hRl2 : R.length ≤ 4160 := by rw [hRl, Nat.mul_add, Nat.mul_comm H W, Nat.mul_one]; omega
  have hno10 : (10 : UInt8) ∉ imgL ++ (dd W ++ 32 :: dd H) := by
    intro e
    rcases List.mem_append.1 e with e | e
    · exact absurd e (by decide)
    · rcases List.mem_append.1 e with e | e
      · exact lw5 e
      · rcases List.mem_cons.1 e with e | e
        · exact absurd e (by decide)
        · exact lh5 e
  have c1 := cut_app (imgL ++ (dd W ++ 32 :: dd H)) R 10 hno10
  have c2 := pre_app (dd W ++ 32 :: dd H)
  have c3 := cut_app (dd W) (dd H) 32 lw4
  have hO : outL W H zs = (imgL ++ (dd W ++ 32 :: dd H)) ++ 10 :: R := by unfold outL; rw [hR]
  rw [hO]
  have il : imgL.length = 6 := rfl
  have K1 := Lib.hid (fun wX (hX : Below w.heap.size w wX) => by
    obtain ⟨_, m, hmx⟩ := hm.below hX
    have h := Tryd.strings_Cut ⟨((imgL ++ (dd W ++ 32 :: dd H)) ++ 10 :: R).toArray⟩ ⟨#[10]⟩ m wX (by rw [mk_size]; simp only [List.length_append, List.length_cons]; omega) hmx
    rw [mk_list, show (⟨#[10]⟩ : ByteArray).data.toList = [10] from rfl, c1] at h
    exact h)
  have K2 := Lib.hid (fun wX => by
    have h := Tryd.strings_CutPrefix ⟨(imgL ++ (dd W ++ 32 :: dd H)).toArray⟩ ⟨#[105, 109, 97, 103, 101, 32]⟩ wX
    rw [mk_list, show (⟨#[105, 109, 97, 103, 101, 32]⟩ : ByteArray).data.toList = imgL from rfl, c2.1, c2.2] at h
    exact h)
  have K3 := Lib.hid (fun wX (hX : Below w.heap.size w wX) => by
    obtain ⟨_, m, hmx⟩ := hm.below hX
    have h := Tryd.strings_Cut ⟨(dd W ++ 32 :: dd H).toArray⟩ ⟨#[32]⟩ m wX (by rw [mk_size]; simp only [List.length_append, List.length_cons]; omega) hmx
    rw [mk_list, show (⟨#[32]⟩ : ByteArray).data.toList = [32] from rfl, c3] at h
    exact h)
  have K4 := Lib.hid (fun wX => isNumber_any ⟨(dd W).toArray⟩ (by rw [mk_list]; exact okW) wX)
  have K5 := Lib.hid (fun wX => isNumber_any ⟨(dd H).toArray⟩ (by rw [mk_list]; exact okH) wX)
  have K6 := Lib.hid (fun wX => Tryd.strconv_Atoi ⟨(dd W).toArray⟩ (W : Int) (by rw [mk_size]; omega) (by rw [mk_list]; exact aW) wX)
  have K7 := Lib.hid (fun wX => Tryd.strconv_Atoi ⟨(dd H).toArray⟩ (H : Int) (by rw [mk_size]; omega) (by rw [mk_list]; exact aH) wX)
  have HRR := Lib.hid hR
  have HRL := Lib.hid hRl
  have HZ := Lib.hid hz
  have HLV := Lib.hid hlv
  have hrs : (⟨R.toArray⟩ : ByteArray).size = R.length := mk_size R
  have HRG := Lib.hid (show (⟨R.toArray⟩ : ByteArray).data.toList = R from mk_list R)
  obtain ⟨N, hN⟩ : ∃ N, R.length = N := ⟨_, rfl⟩
  have hsz : (H : Int) * ((W : Int) + 1) = (N : Int) := by rw [← hN, hRl]; simp
  have hN2 : N ≤ 4160 := by omega
  have hNN : N = zs.length + zs.length / W := by omega
  have HNN := Lib.hid hNN
  have HMOD := Lib.hid rl2
  have hrsN : (⟨R.toArray⟩ : ByteArray).size = N := hrs.trans hN
  have hn4 : zs.length ≤ 4096 := by omega
  generalize (⟨((imgL ++ (dd W ++ 32 :: dd H)) ++ 10 :: R).toArray⟩ : ByteArray) = s0 at K1
  generalize (⟨(imgL ++ (dd W ++ 32 :: dd H)).toArray⟩ : ByteArray) = s1 at K1 K2
  generalize (⟨(dd W ++ 32 :: dd H).toArray⟩ : ByteArray) = s2 at K2 K3
  generalize (⟨(dd W).toArray⟩ : ByteArray) = s3 at K3 K4 K6
  generalize (⟨(dd H).toArray⟩ : ByteArray) = s4 at K3 K5 K7
  generalize (⟨R.toArray⟩ : ByteArray) = rs at K1 HRG hrsN hrs
  clear hrs okW okH aW aH lw0 lw1 lw4 lw5 lh0 lh1 lh4 lh5 hbl hR hno10 c1 c2 c3 hO il hlv rl1 rl2 rl3 hRl2 hN hNN hRl
  have hq0 := heap_alloc_new w (.cells #[.int .i64 0, .int .i64 0, .slice none 0 0] 33)
  have HB0 := Lib.hid ((Below.refl w.heap.size w).alloc (Nat.le_refl _) (.cells #[.int .i64 0, .int .i64 0, .slice none 0 0] 33))
  go_enter Tryd.func25, Tryd.ntmps25
  go_wp2_with fail
  refine (K1.out _ HB0.out).mono ?_
  rintro e wa ⟨rfl, na, rfl⟩
  have hq1 := (show (((w.alloc (.cells #[.int .i64 0, .int .i64 0, .slice none 0 0] 33)).drewN na).heap[w.heap.size]?) = _ from hq0)
  have HB1 := Lib.hid (below_drewN HB0.out na)
  generalize (w.alloc (.cells #[.int .i64 0, .int .i64 0, .slice none 0 0] 33)).drewN na = wb at hq1 HB1 ⊢
  clear hq0
  go_wp2_with fail
  refine (K2.out _).mono ?_
  rintro e wc ⟨rfl, hwc⟩
  rw [hwc]
  clear hwc wc
  dsimp only
  go_wp2_with fail
  refine (K3.out _ HB1.out).mono ?_
  rintro e wd ⟨rfl, nd, rfl⟩
  have hq2 := (show ((wb.drewN nd).heap[w.heap.size]?) = _ from hq1)
  have HB2 := Lib.hid (below_drewN HB1.out nd)
  generalize wb.drewN nd = wd at hq2 HB2 ⊢
  clear hq1
  go_wp2_with fail
  refine (K4.out _).mono ?_
  rintro e we ⟨rfl, hbe⟩
  have hlt2 := (Array.getElem?_eq_some_iff.1 hq2).1
  have hq3 := (hbe.block w.heap.size hlt2).trans hq2
  have HB3 := Lib.hid (HB2.out.trans (hbe.mono HB2.out.size))
  clear hbe hq2 hlt2
  go_wp2_with fail
  refine (K5.out _).mono ?_
  rintro e wf ⟨rfl, hbf⟩
  have hlt3 := (Array.getElem?_eq_some_iff.1 hq3).1
  have hq4 := (hbf.block w.heap.size hlt3).trans hq3
  have HB4 := Lib.hid (HB3.out.trans (hbf.mono HB3.out.size))
  clear hbf hq3 hlt3
  go_wp2_with fail
  refine (K6.out _).mono ?_
  rintro e wg ⟨rfl, ng, hwg⟩
  have hbg : Below wf.heap.size wf wg := by rw [hwg]; exact Lib.bytesWorld_below _ _ _
  have hlt4 := (Array.getElem?_eq_some_iff.1 hq4).1
  have hq5 := (hbg.block w.heap.size hlt4).trans hq4
  have HB5 := Lib.hid (HB4.out.trans (hbg.mono HB4.out.size))
  clear hbg hq4 hlt4 hwg
  obtain ⟨y0, y1, y2, z0, z1, z2⟩ := imgCells hq5
  have HQ5 := Lib.hid (imgSet0 hq5 (.int .i64 (W : Int)))
  have HB6 := Lib.hid (HB5.out.setCell (p := ⟨w.heap.size, 0, none⟩) (Nat.le_refl _) (.int .i64 (W : Int)))
  clear hq5
  go_wp2_with fail
  have hq6 := HQ5.out
  generalize wg.setCell ⟨w.heap.size, 0, none⟩ (.int .i64 (W : Int)) = wh at hq6 HB6 HQ5 ⊢
  clear y0 y1 y2 z0 z1 z2 HQ5
  refine (K7.out _).mono ?_
  rintro e wi ⟨rfl, ni, hwi⟩
  have hbi : Below wh.heap.size wh wi := by rw [hwi]; exact Lib.bytesWorld_below _ _ _
  have hlt6 := (Array.getElem?_eq_some_iff.1 hq6).1
  have hq7 := (hbi.block w.heap.size hlt6).trans hq6
  have HB7 := Lib.hid (HB6.out.trans (hbi.mono HB6.out.size))
  clear hbi hq6 hlt6 hwi
  obtain ⟨y0, y1, y2, z0, z1, z2⟩ := imgCells hq7
  have HQ7 := Lib.hid (imgSet1 hq7 (.int .i64 (H : Int)))
  have HB8 := Lib.hid (HB7.out.setCell (p := ⟨w.heap.size, 1, none⟩) (Nat.le_refl _) (.int .i64 (H : Int)))
  clear hq7
  obtain ⟨wj, hwj⟩ : ∃ wj, wi.setCell ⟨w.heap.size, 1, none⟩ (.int .i64 (H : Int)) = wj := ⟨_, rfl⟩
  rw [hwj] at HQ7 HB8
  obtain ⟨u0, u1, u2, v0, v1, v2⟩ := imgCells HQ7.out
  go_wp2_with fail
  clear u0 u1 u2 v0 v1 v2 y0 y1 y2 z0 z1 z2 hwj
  obtain ⟨n, hn⟩ : ∃ n, zs.length = n := ⟨_, rfl⟩
  rw [hn] at HNN HMOD hn4
  have HN := Lib.hid hn
  clear hn hz
  go_loopw [75] (fun x wr => ∃ (i k : Nat) (v : Value), i ≤ N ∧ k ≤ n ∧ Stand W i k ∧ x = .int .i64 i ∧ wr.heap[w.heap.size]? = some (.cells #[.int .i64 (W : Int), .int .i64 (H : Int), v] 33 (0, 0)) ∧ wr.ownsRow (w.heap.size + 1) 3 1 v k (lv (zs.take k)) ∧ Below w.heap.size w wr) (fun x _ => N - (intOf x).toNat)
  case atStart => exact ⟨0, 0, _, Nat.zero_le _, Nat.zero_le _, .inl (by simp), rfl, HQ7.out, World.ownsRow_nil _ _ _ _, HB8.out⟩
  case round =>
    obtain ⟨i, k, v, hiN, hkn, hst, rfl, hq, hown, hbw⟩ := hrel
    obtain ⟨u0, u1, u2, v0, v1, v2⟩ := imgCells hq
    have HQ := Lib.hid hq
    have HO := Lib.hid hown
    have HBW := Lib.hid hbw
    have HS := Lib.hid hst
    clear hq hown hbw hst
    by_cases hlt : i < N
    · have hnext := stand_next w1 HS.out hkn HMOD.out (by have := HNN.out; omega)
      rcases hnext with ⟨hk2, hmod, hik, hst2⟩ | ⟨hmod, hch, hst2⟩
      · have hr1 : (((i : Int) + 1) % ((W : Int) + 1) == 0) = false := by
          have : (((i + 1) % (W + 1) : Nat) : Int) = ((i : Int) + 1) % ((W : Int) + 1) := by rw [Int.natCast_emod]; rfl
          rw [← this]
          clear this
          generalize (i + 1) % (W + 1) = r at hmod
          apply beq_eq_false_iff_ne.2
          intro h
          omega
        obtain ⟨z, hzz⟩ : ∃ z, zs[k]? = some z := ⟨_, List.getElem?_eq_getElem (by rw [HN.out]; exact hk2)⟩
        obtain ⟨zl, zr⟩ := HLV.out k z hzz
        obtain ⟨q, rfl⟩ : ∃ q : Nat, z = q := ⟨z.toNat, by omega⟩
        have hq16 : q < 16 := by omega
        have hgd : zs.getD k 0 = (q : Int) := by rw [List.getD_eq_getElem?_getD, hzz]; rfl
        have hchar := bl_char W w1 zs k n hk2
        rw [hgd, Int.toNat_natCast, ← hik] at hchar
        have hrr : bl W zs n = R := by rw [← HN.out]; exact HRR.out
        rw [hrr, ← HRG.out, Array.getElem?_toList, Array.getElem?_eq_getElem (show i < rs.data.size from by rw [show rs.data.size = N from hrsN]; exact hlt)] at hchar
        have hil : i < rs.size := by rw [hrsN]; exact hlt
        obtain ⟨ch, hck⟩ : ∃ ch, rs[i] = ch := ⟨_, rfl⟩
        have hche : ch = hexU q := by rw [← hck]; exact Option.some.inj hchar
        have hix := hexU_ix q hq16
        have K8 := Lib.hid (show ∀ wX, Calls Tryd.prog 36 #[.string ⟨#[48, 49, 50, 51, 52, 53, 54, 55, 56, 57, 97, 98, 99, 100, 101, 102]⟩, .int .u8 (ch.toNat : Int)] wX fun e w' => e = .returned (.int .i64 (q : Int)) ∧ w' = wX from fun wX => by
          have h := Tryd.strings_IndexByte ⟨#[48, 49, 50, 51, 52, 53, 54, 55, 56, 57, 97, 98, 99, 100, 101, 102]⟩ (ch.toNat : Int) wX
          have e : ((ch.toNat : Int).toNat).toUInt8 = ch := by rw [Int.toNat_natCast]; exact UInt8.ofNat_toNat
          rw [e, hche] at h
          rw [hche]
          rw [show (⟨#[48, 49, 50, 51, 52, 53, 54, 55, 56, 57, 97, 98, 99, 100, 101, 102]⟩ : ByteArray).data.toList = [48, 49, 50, 51, 52, 53, 54, 55, 56, 57, 97, 98, 99, 100, 101, 102] from rfl, hix] at h
          exact h)
        have HZZ := Lib.hid hzz
        have HST2 := Lib.hid hst2
        clear hchar hrr hche hix hgd hzz hst2 hmod hik
        go_wp2_with fail
        refine (K8.out _).mono ?_
        rintro e wk ⟨rfl, hwk⟩
        rw [hwk]
        clear hwk wk
        dsimp only
        go_wp2_with (at_builtin; refine wpList_append_own _ rfl _ _ 31 rfl (w.heap.size + 1) 3 i0 (.int .i64 0) 1 8 Tryd.underlying31 hi hz0 hz1 hz2 rfl (by decide) _ _ _ rfl (HO.out.alloc _) ⟨wr.heap.size, 0, none⟩ 1 1 [.int .i64 (q : Int)] rfl rfl ?c1 ?c2 ?c3 ?c4 ?c5 ?_)
        try (case c1 => exact cell_one_im _ _ _ _ (by simp))
        case c2 => first | rfl | (intro u hu; simp at hu; subst hu; rfl)
        case c3 => unfold maxLen; omega
        case c4 => omega
        case c5 => have := HBW.out.size; have := (Array.getElem?_eq_some_iff.1 HQ.out).1; simp; omega
        intro v' w3 hown' hgrow _
        obtain ⟨g', cap', rfl, _, _⟩ := hown'.form (Nat.succ_pos _)
        have hne : some w.heap.size ≠ v.ownBlock := fun e => by have := (HO.out.lt _ e.symm).1; omega
        have hlt' := (Array.getElem?_eq_some_iff.1 HQ.out).1
        have hq3 : w3.heap[w.heap.size]? = some (.cells #[.int .i64 (W : Int), .int .i64 (H : Int), v] 33 (0, 0)) := (hgrow.block w.heap.size (by simp; omega) hne).trans ((Below.heap_alloc _ _ _ hlt').trans HQ.out)
        have hb3 := (HBW.out.alloc HBW.out.size _).grown hgrow (by simp; omega) (fun j hj => by have := (HO.out.lt j hj).1; omega)
        clear hgrow u0 u1 u2 v0 v1 v2
        obtain ⟨u0, u1, u2, v0, v1, v2⟩ := imgCells hq3
        have HQ3 := Lib.hid (imgSet2 hq3 (.slice (some ⟨g', 0, none⟩) (k + 1) cap'))
        have HO3 := Lib.hid (own_setB (j := 2) (x := .slice (some ⟨g', 0, none⟩) (k + 1) cap') hown' (Nat.lt_succ_self _))
        have HB3 := Lib.hid (hb3.setCell (p := ⟨w.heap.size, 2, none⟩) (Nat.le_refl _) (.slice (some ⟨g', 0, none⟩) (k + 1) cap'))
        clear hq3 hown' hb3
        go_wp2_with fail
        go_roundw
        case rel =>
          refine ⟨i + 1, k + 1, _, by omega, by omega, HST2.out, by go_num, HQ3.out, ?_, HB3.out⟩
          have h := HO3.out
          have e : lv (zs.take (k + 1)) = lv (zs.take k) ++ [.int .i64 (q : Int)] := by
            rw [List.take_add_one, HZZ.out]
            unfold lv
            rw [List.map_append]
            rfl
          rw [e]
          exact h
        case measure => simp [intOf]; omega
      · have hr1 : (((i : Int) + 1) % ((W : Int) + 1) == 0) = true := by
          have : (((i + 1) % (W + 1) : Nat) : Int) = ((i : Int) + 1) % ((W : Int) + 1) := by rw [Int.natCast_emod]; rfl
          rw [← this, hmod]
          rfl
        have hrr : bl W zs n = R := by rw [← HN.out]; exact HRR.out
        have hchar := hch zs
        rw [hrr, ← HRG.out, Array.getElem?_toList, Array.getElem?_eq_getElem (show i < rs.data.size from by rw [show rs.data.size = N from hrsN]; exact hlt)] at hchar
        have hil : i < rs.size := by rw [hrsN]; exact hlt
        have hck : rs[i] = 10 := Option.some.inj hchar
        have HST2 := Lib.hid hst2
        clear hchar hrr hch hst2 hmod
        go_wp2_with fail
        go_roundw
        case rel => exact ⟨i + 1, k, v, by omega, hkn, HST2.out, by go_num, HQ.out, HO.out, HBW.out⟩
        case measure => simp [intOf]; omega
    · have hkk : k = n := stand_end HS.out hkn (by have := HNN.out; omega)
      have hn0 : 0 < k := by
        have h := HNN.out
        have h3 := HN.out
        rcases Nat.eq_zero_or_pos k with h0 | h0
        · exfalso
          have h4 : n = 0 := by omega
          have : H * (W + 1) = 0 := by
            have h5 : N = 0 := by rw [h, h4]; simp
            have h6 : (H : Int) * ((W : Int) + 1) = 0 := by rw [hsz, h5]; rfl
            exact_mod_cast h6
          have h7 : 1 * 1 ≤ H * (W + 1) := Nat.mul_le_mul h1 (by omega)
          omega
        · exact h0
      obtain ⟨g, cap, rfl, _, _⟩ := HO.out.form hn0
      have HK := Lib.hid hkk
      clear hkk
      go_wp2_with fail
      have hf := imgSet2 (imgSet1 (imgSet0 HQ.out (.int .i64 (W : Int))) (.int .i64 (H : Int))) (.slice (some ⟨g, 0, none⟩) k cap)
      have hof := own_setB (j := 2) (x := .slice (some ⟨g, 0, none⟩) k cap) (own_setB (j := 1) (x := .int .i64 (H : Int)) (own_setB (j := 0) (x := .int .i64 (W : Int)) HO.out (Nat.lt_succ_self _)) (Nat.lt_succ_self _)) (Nat.lt_succ_self _)
      have hbf := ((HBW.out.setCell (p := ⟨w.heap.size, 0, none⟩) (Nat.le_refl _) (.int .i64 (W : Int))).setCell (p := ⟨w.heap.size, 1, none⟩) (Nat.le_refl _) (.int .i64 (H : Int))).setCell (p := ⟨w.heap.size, 2, none⟩) (Nat.le_refl _) (.slice (some ⟨g, 0, none⟩) k cap)
      obtain ⟨c0, c1, c2, _, _, _⟩ := imgCells hf
      refine bodyPost_ret (v := .tuple #[.agg #[.int .i64 (W : Int), .int .i64 (H : Int), .slice (some ⟨g, 0, none⟩) k cap], .bool true]) (by simp [results, Tryd.results25, go_sem, c0, c1, c2]; try rfl) rfl ⟨_, rfl, ?_, hbf⟩
      have hzl : zs.length = k := HN.out.trans HK.out.symm
      rw [hzl]
      rw [List.take_of_length_le (by omega)] at hof
      exact hof
end Go.Proofs.YthlkibadiiiohaaDoor
