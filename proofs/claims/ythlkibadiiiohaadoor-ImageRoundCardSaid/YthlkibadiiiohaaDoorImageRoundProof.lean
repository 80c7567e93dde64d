/- DERIVED. THE CARD ImageRoundCardSaid: for every image ImageRound returns true, and the argument reads afterwards as it read before. The variables of the library that the row lists are tied to the program's text. -/
import Derived.Test.YthlkibadiiiohaaDoorImgRdB
import Derived.Test.YthlkibadiiiohaaDoorDigD
import Derived.ChangeSlices
import Derived.Lib.SmallJoins
import Derived.Deep.RegionWith
import Derived.BigQuiet
import Derived.Test.YthlkibadiiiohaaDoorChecked
import Derived.Test.YthlkibadiiiohaaDoorCards
import Derived.Test.YthlkibadiiiohaaDoorTie
import Derived.ProofKit
import Derived.OpenShut
import Derived.ShutString
import Derived.ChangeOld
import Derived.JoinedCond
import Derived.Deep.DeepHandedRow
import Derived.ChangeMaps
import Derived.Lib.LaidTab
import Derived.Stop.LaidErr
import Derived.LaidSub
namespace Go.Proofs.YthlkibadiiiohaaDoor.imageRoundDone
open Go.ChangeMaps (open_string shut_string)
open Go.ChangeShapes Go.WideShapes Go.ChangeAt Go.RowKit
set_option linter.unusedVariables false
theorem own : ownKnob Tryd.prog.godebug = none := by kernel_rfl
theorem laidOut : laidOutB Tryd.prog = true := by kernel_rfl
theorem maxT {W : World} (h : W.ShapedOpen Tryd.prog) : MaxT W := by
  obtain ⟨m, hm⟩ := Tryd.laysM146.s1_3 W h
  exact ⟨World.block_lt_of_cell? W _ hm, m, hm⟩
theorem bl_out {W H : Nat} (h1 : W ≤ 64) (h2 : H ≤ 64) {zs : List Int} (hE : imgE W H zs = 0) : outB W H zs = ⟨(outL W H zs).toArray⟩ := by
  unfold outB headB dgs outL
  rw [if_pos hE, Int.toNat_natCast, Int.toNat_natCast, dec_dd W (by omega), dec_dd H (by omega)]
  apply ByteArray.ext
  apply Array.toList_inj.1
  simp [bS, imgL]
set_option maxRecDepth 100000 in
set_option maxHeartbeats 3200000 in
theorem walk (W H : Int) (A : Option Addr) (n c : Nat) (zs : List Int) (w : World) (hz : zs.length = n) (hn : n ≤ maxLen) (hR : zs = [] ∨ ∃ b off, A = some ⟨b, off, none⟩ ∧ b < w.heap.size ∧ ∀ (j : Nat) (x : Int), zs[j]? = some x → w.cell? ⟨b, off + j, none⟩ = some (.int .i64 x)) (hm : MaxT w) :
    Calls Tryd.prog 4 #[.agg #[.int .i64 W, .int .i64 H, .slice A n c]] w fun e w' => e = .returned (.bool true) ∧ Below w.heap.size w w' := by
  have hI : IntsAt w w.heap.size A zs := fun j z hj => by
    rcases hR with rfl | ⟨b, off, rfl, hb, hc⟩
    · simp at hj
    · exact ⟨_, rfl, hb, by have e : (⟨b, off, none⟩ : Addr).add j = ⟨b, off + j, none⟩ := by { unfold Addr.add; split <;> simp_all }
                            rw [e]; exact hc j z hj⟩
  have HA := Lib.hid (fun wX => awake_any wX)
  obtain ⟨W0, hW0⟩ : ∃ W0, w.alloc (.cells #[.int .i64 W, .int .i64 H, .slice A n c] 33) = W0 := ⟨_, rfl⟩
  have hw0 : Below w.heap.size w W0 := by rw [← hW0]; exact (Below.refl _ _).alloc (Nat.le_refl _) _
  have hq0 : W0.heap[w.heap.size]? = some (.cells #[.int .i64 W, .int .i64 H, .slice A n c] 33 (0, 0)) := by rw [← hW0]; exact heap_alloc_new _ _
  have HS1 := Lib.hid (fun wX (hX : Below w.heap.size w wX) => imgStrP_any W H A n c zs wX hz hn ((hI.below hX (Nat.le_refl _)).morei hX.size))
  have HW0 := Lib.hid hW0
  have HB0 := Lib.hid hw0
  have HQ0 := Lib.hid hq0
  clear hW0 hw0 hq0
  by_cases hE : imgE W H zs = 0
  · obtain ⟨⟨a1, a2⟩, ⟨a3, a4⟩, hlen, hlv⟩ := imgE_in hE
    obtain ⟨W', rfl⟩ : ∃ W' : Nat, W = W' := ⟨W.toNat, by omega⟩
    obtain ⟨H', rfl⟩ : ∃ H' : Nat, H = H' := ⟨H.toNat, by omega⟩
    have hzl : zs.length = W' * H' := by exact_mod_cast hlen
    have hlv2 : ∀ (k : Nat) (z : Int), zs[k]? = some z → 0 ≤ z ∧ z ≤ 15 := fun k z hk => level_in hlv hk
    have HS2 := Lib.hid (fun wX (hX : Below w.heap.size w wX) => readI_any W' H' (by omega) (by omega) (by omega) (by omega) zs hzl hlv2 hE wX (hm.below hX))
    rw [hE, bl_out (by omega) (by omega) hE] at HS1
    generalize (⟨(outL W' H' zs).toArray⟩ : ByteArray) = s at HS1 HS2
    have hpos : 1 * 1 ≤ W' * H' := Nat.mul_le_mul (by omega) (by omega)
    have hzn : zs ≠ [] := fun e => by rw [e] at hzl; simp at hzl; omega
    obtain ⟨b, off, rfl, hb, hcell⟩ := hR.resolve_left hzn
    have hWH : W' * H' ≤ 4096 := by
      calc W' * H' ≤ 64 * 64 := Nat.mul_le_mul (by omega) (by omega)
        _ = 4096 := rfl
    have hn4 : zs.length ≤ 4096 := by omega
    have HCELL := Lib.hid hcell
    subst hz
    clear hE hlv hlv2 hlen hzl hpos hWH hI hR hcell hzn hn hm a1 a2 a3 a4
    go_enter Tryd.func4, Tryd.ntmps4
    go_wp2_with fail
    rw [HW0.out]
    refine (HA.out _).mono ?_
    rintro e wa ⟨rfl, hba⟩
    have hq1 := (hba.block w.heap.size (Array.getElem?_eq_some_iff.1 HQ0.out).1).trans HQ0.out
    have HB1 := Lib.hid (HB0.out.trans (hba.mono HB0.out.size))
    clear hba
    obtain ⟨x0, x1, x2, x3, x4, x5⟩ := imgCells hq1
    go_wp2_with fail
    refine (HS1.out _ HB1.out).mono ?_
    rintro e wb ⟨rfl, hbb⟩
    have hq2 := (hbb.block w.heap.size (Array.getElem?_eq_some_iff.1 hq1).1).trans hq1
    have HB2 := Lib.hid (HB1.out.trans (hbb.mono HB1.out.size))
    clear hbb hq1 x0 x1 x2 x3 x4 x5
    go_wp2_with fail
    refine (HS2.out _ HB2.out).mono ?_
    rintro e wc ⟨g, cap, rfl, hown, hbc⟩
    have hq3 := (hbc.block w.heap.size (Array.getElem?_eq_some_iff.1 hq2).1).trans hq2
    have HB3 := Lib.hid (HB2.out.trans (hbc.mono HB2.out.size))
    have hgb := (hown.lt g rfl).2
    have HOW := Lib.hid hown
    clear hbc hq2 hown
    obtain ⟨W3, hW3⟩ : ∃ W3, wc.alloc (.cells #[.int .i64 (W' : Int), .int .i64 (H' : Int), .slice (some ⟨g, 0, none⟩) zs.length cap] 33) = W3 := ⟨_, rfl⟩
    have hq5 : W3.heap[wc.heap.size]? = some (.cells #[.int .i64 (W' : Int), .int .i64 (H' : Int), .slice (some ⟨g, 0, none⟩) zs.length cap] 33 (0, 0)) := by rw [← hW3]; exact heap_alloc_new _ _
    have hq4 : W3.heap[w.heap.size]? = _ := (by rw [← hW3]; exact Below.heap_alloc _ _ _ (Array.getElem?_eq_some_iff.1 hq3).1 : W3.heap[w.heap.size]? = wc.heap[w.heap.size]?).trans hq3
    have HB4 := Lib.hid (show Below w.heap.size w W3 by rw [← hW3]; exact HB3.out.alloc HB3.out.size _)
    have HOW4 := Lib.hid (show W3.ownsRow _ 3 1 (.slice (some ⟨g, 0, none⟩) zs.length cap) zs.length (lv zs) by rw [← hW3]; exact HOW.out.alloc _)
    clear hq3 hgb
    obtain ⟨y0, y1, y2, _, _, _⟩ := imgCells hq5
    obtain ⟨x0, x1, x2, _, _, _⟩ := imgCells hq4
    have hq := Tryd.slices_Equal_int g 0 zs.length cap b off zs.length c zs zs W3 (Nat.le_refl _) (Nat.le_refl _) (by omega) (by omega)
      (fun j hj => by
        rw [Nat.zero_add, HOW4.out.cellAt j (by omega)]
        unfold lv
        rw [List.getElem?_map, List.getD_eq_getElem?_getD, List.getElem?_eq_getElem hj]; rfl)
      (fun j hj => by
        have h := HCELL.out j zs[j] (List.getElem?_eq_getElem hj)
        rw [List.getD_eq_getElem?_getD, List.getElem?_eq_getElem hj]
        exact (HB4.out.cell (p := ⟨b, off + j, none⟩) hb).trans h)
    have htk : (zs.take zs.length == zs.take zs.length) = true := by simp
    rw [htk] at hq
    have HEQ := Lib.hid hq
    clear hq htk hq4 hq5
    go_wp2_with fail
    refine HEQ.out.mono ?_
    rintro e wd ⟨rfl, qd, rfl⟩
    go_wp2_with fail
    go_ret
    exact ⟨by first | rfl | simp, below_drewN HB4.out qd⟩
  · obtain ⟨er, her⟩ : ∃ er, imgE W H zs = er := ⟨_, rfl⟩
    have hO : outB W H zs = ⟨#[]⟩ := by unfold outB; rw [if_neg hE]
    rw [her, hO] at HS1
    rw [her] at hE
    have q1 : ¬ er = 0 := hE
    have q2 : (er == 0) = false := by simpa using hE
    clear hE her hO hI hR hz hn hm
    go_enter Tryd.func4, Tryd.ntmps4
    go_wp2_with fail
    rw [HW0.out]
    refine (HA.out _).mono ?_
    rintro e wa ⟨rfl, hba⟩
    have hq1 := (hba.block w.heap.size (Array.getElem?_eq_some_iff.1 HQ0.out).1).trans HQ0.out
    have HB1 := Lib.hid (HB0.out.trans (hba.mono HB0.out.size))
    clear hba
    obtain ⟨x0, x1, x2, x3, x4, x5⟩ := imgCells hq1
    go_wp2_with fail
    refine (HS1.out _ HB1.out).mono ?_
    rintro e wb ⟨rfl, hbb⟩
    have HB2 := Lib.hid (HB1.out.trans (hbb.mono HB1.out.size))
    clear hbb
    go_wp2_with fail
    go_ret
    exact ⟨by first | rfl | simp, HB2.out⟩
set_option maxRecDepth 100000 in
theorem contract (H : Type) (enc : TypeId × Value → H) (W : World) (base : Nat) (args : Array Value) (ds gs : List (DataW H)) (before : List MemPlace)
    (hval0 : ∀ (j : Nat) t v, Tryd.f4.params[j]? = some t → args[j]? = some v → Value.okWide Tryd.prog W .any base t v)
    (hW : DataW.Whole enc Tryd.prog Tryd.f4.params.toList Rows.imageRoundSpec.vars false W args.toList ds gs before) (hz : (DataW.weightsEach Tryd.prog (Tryd.f4.params.toList ++ (OpenSpec.ofChange Rows.imageRoundSpec).bare.plain.varTypes Tryd.prog) (ds ++ gs)).all (· ≤ reachBytes) = true)
    (hL : laidMetH Tryd.prog Rows.imageRoundRow.laid W) (hSh : W.ShapedOpen Tryd.prog) :
    Calls Tryd.prog 4 args W fun e W' => ∃ v, e = .returned v ∧ Rows.imageRoundSpec.post enc Tryd.prog Tryd.f4 false true false false W args v W' := by
  have hval : ∀ (j : Nat) t v, Tryd.f4.params[j]? = some t → args[j]? = some v → Value.okWide Tryd.prog W .any base t v := hval0
  have hW' := hW
  obtain ⟨p, q, hA0, hV, rfl, hfz, hnd⟩ := hW
  have hA : DataW.TrodAll enc Tryd.prog W 0 (fun _ => true) true Tryd.f4.params.toList args.toList ds p := hA0
  rw [Tryd.params4] at hA hval
  obtain ⟨v0, vs0, d0, ds0, p0, q0, hargs, rfl, rfl, h0, r0⟩ := trodAll_cons hA
  obtain ⟨rfl, rfl, rfl⟩ := trodAll_nil r0
  obtain rfl : args = #[v0] := by cases args; simp_all
  obtain ⟨rfl, rfl⟩ := trodVars_none hV
  have k0 := h0
  have lt0 : ∀ x ∈ p0, x.block < W.heap.size := by obtain ⟨m, hm⟩ := k0; exact DataW.trod_lt m _ _ _ hm
  obtain ⟨u0, u1, u2, y0, y1, y2, fu, rfl, rfl, hp0, t0, t1, t2⟩ := Joins.open_agg3 Tryd.underlying33 (by kernel_rfl) (by kernel_rfl) (hval 0 33 v0 rfl rfl) k0
  obtain ⟨m0, e0, g0, z0⟩ := DataW.trod_int Tryd.underlying3 t0
  obtain ⟨m1, e1, g1, z1⟩ := DataW.trod_int Tryd.underlying3 t1
  simp at e0 e1
  subst e0 e1
  obtain ⟨A2, n2, c2, zs, rfl, hzs, hn, hI⟩ : ∃ A2 n2 c2 zs, u2 = .slice A2 n2 c2 ∧ List.length zs = n2 ∧ n2 ≤ maxLen ∧ (zs = [] ∨ ∃ b off, A2 = some ⟨b, off, none⟩ ∧ b < W.heap.size ∧ ∀ (j : Nat) (x : Int), zs[j]? = some x → W.cell? ⟨b, off + j, none⟩ = some (.int .i64 x)) := by
    rcases open_ints Tryd.underlying31 Tryd.underlying3 (by kernel_rfl) t2 with ⟨hcs, _⟩ | ⟨a, len, cap, zs, hcs, _, hlc, hcm, hlen, hx, hcell, _⟩
    · simp at hcs
      subst hcs
      exact ⟨_, _, _, [], rfl, rfl, Nat.zero_le _, .inl rfl⟩
    · simp at hcs
      subst hcs
      simp at hlen
      refine ⟨_, _, _, zs.take len, rfl, by rw [List.length_take]; omega, by omega, ?_⟩
      cases hlen0 : len with
      | zero => exact .inl (by simp)
      | succ m =>
        rw [← hlen0]
        have hc0 := hcell 0 (by omega)
        have hlt := World.block_lt_of_cell? W _ hc0
        rw [addr_block] at hlt
        obtain ⟨b, off, spot⟩ := a
        have hspot : spot = none := by
          simpa [Addr.add] using World.cell?_spot hc0
        subst hspot
        refine .inr ⟨b, off, rfl, hlt, fun j z hj => ?_⟩
        have hj1 : j < len := by have := (List.getElem?_eq_some_iff.1 hj).1; rw [List.length_take] at this; omega
        have hj2 : zs[j]? = some z := by rw [List.getElem?_take_of_lt hj1] at hj; exact hj
        have hc := hcell j (by have := (List.getElem?_eq_some_iff.1 hj2).1; exact this)
        rw [List.getD_eq_getElem?_getD, hj2] at hc
        have e : (⟨b, off, none⟩ : Addr).add j = ⟨b, off + j, none⟩ := by unfold Addr.add; split <;> simp_all
        rw [e] at hc
        exact hc
  clear hA0 hval0
  simp only [List.append_nil] at hW'
  refine (walk m0 m1 A2 n2 c2 zs W hzs hn hI (maxT hSh)).mono fun e W' ⟨he, bel⟩ => ?_
  subst he
  exact ⟨_, rfl, _, _, _, [], _, [], hW', trodAll_mk1 (shut_bool Tryd.underlying4 _), (trodAll_cons_mk (Below.trod laidOut (by kernel_rfl) (of_decide_eq_true (by kernel_rfl)) k0 bel lt0) trodAll_mk0), rfl, bel.frame _, fun h => by cases h⟩

/-- A world for the witness: the settled one, the tables as their initialisers lay them. -/
def tab (b : Nat) (cs : Array Value) (h : Array Obj) : Array Obj := h.modify b fun
  | .cells _ t frozen => .cells cs t frozen
  | o => o
def ints (k : IntKind) (l : List Int) : Array Value := (l.map (Value.int k)).toArray
def accepts : List Int := [128, 191, 160, 191, 128, 159, 144, 191, 128, 143, 0, 0, 0, 0, 0, 0, 0, 0, 0, 0, 0, 0, 0, 0, 0, 0, 0, 0, 0, 0, 0, 0]
def de32 : List Int := [0, 1, 28, 2, 29, 14, 24, 3, 30, 22, 20, 15, 25, 17, 4, 8, 31, 27, 13, 23, 21, 19, 16, 7, 26, 12, 18, 6, 11, 5, 10, 9]
def de64 : List Int := [0, 1, 56, 2, 57, 49, 28, 3, 61, 58, 42, 50, 38, 29, 17, 4, 62, 47, 59, 36, 45, 43, 51, 22, 53, 39, 33, 30, 24, 18, 12, 5, 63, 55, 48, 27, 60, 41, 37, 16, 46, 35, 44, 21, 52, 32, 23, 11, 54, 26, 40, 15, 34, 20, 31, 10, 25, 14, 19, 9, 13, 8, 7, 6]
def setVar (h : Array Obj) (g : Nat) (v : Value) : Array Obj := h.modify g fun
  | .cells _ t frozen => .cells #[v] t frozen
  | o => o
noncomputable def N (os : Os) : Nat := (World.settled Tryd.prog os).heap.size
def blocks : Input := ⟨#[.cells #[.string ⟨#[105, 110, 118, 97, 108, 105, 100, 32, 115, 121, 110, 116, 97, 120]⟩] 119, .cells #[.string ⟨#[118, 97, 108, 117, 101, 32, 111, 117, 116, 32, 111, 102, 32, 114, 97, 110, 103, 101]⟩] 119], #[], []⟩
noncomputable def laidWorld (os : Os) : World :=
  { World.holding Tryd.prog os blocks with heap := tab 6 (ints .u8 de32) (tab 7 (ints .u8 de64) (tab 1 (ints .u64 Lib.pow10Tab) (tab 5 (ints .u8 accepts) (tab 4 (ints .u8 (Go.Pinned.utf8FirstZ.map Int.ofNat))
      (setVar (setVar (World.holding Tryd.prog os blocks).heap 2 (.iface 117 (.pointer (some ⟨N os, 0, none⟩)))) 3 (.iface 117 (.pointer (some ⟨N os + 1, 0, none⟩)))))))) }
theorem laid_met (os : Os) : laidMet Tryd.prog Rows.imageRoundRow.laid ((laidWorld os).forCall (fun _ _ => 0) ⟨#[], #[.agg #[.int .i64 0, .int .i64 0, .slice none 0 0]], []⟩).memory :=
  laidMet_of_run' 8 (by kernel_rfl) (by kernel_rfl)
theorem reads (os : Os) {H : Type} (enc : TypeId × Value → H) : ∃ places, DataW.whole enc Tryd.prog ((laidWorld os).forCall (fun _ _ => 0) ⟨#[], #[.agg #[.int .i64 0, .int .i64 0, .slice none 0 0]], []⟩).memory Tryd.f4.params.toList Rows.imageRoundSpec.vars false (#[.agg #[.int .i64 0, .int .i64 0, .slice none 0 0]] : Array Value).toList 8 = some ([.agg [.lit (.int .i64 0), .lit (.int .i64 0), .nil]], [], places) :=
  ⟨[], by kernel_rfl⟩

set_option maxRecDepth 100000 in
theorem lifted (os : Os) (started : os.Started) (H : Type) (enc : TypeId × Value → H) (F : Stop.Interp) :
    ReturnsInHanded {} Tryd.checked os 4 .any ((OpenSpec.ofChange Rows.imageRoundSpec).preRow enc Tryd.prog Tryd.f4 Rows.imageRoundRow.domain false Rows.imageRoundRow.laid) (((OpenSpec.ofChange Rows.imageRoundSpec).at F).post enc Tryd.prog Tryd.f4 false true false false) := by
  obtain ⟨places, hx⟩ := reads os enc
  refine returnsInHanded_of_row (C := Tryd.checked) (s := OpenSpec.ofChange Rows.imageRoundSpec) own started (by kernel_rfl) Tryd.func4
    (witness_row_at (enc := enc) (C := Tryd.checked) (s := OpenSpec.ofChange Rows.imageRoundSpec) false (laidWorld os) #[.agg #[.int .i64 0, .int .i64 0, .slice none 0 0]] rfl (by kernel_rfl) (by kernel_rfl) (by kernel_rfl)
      (OpenSpec.preRow_of_cond (s := OpenSpec.ofChange Rows.imageRoundSpec) 8 hx (by kernel_rfl) (fun k hk => by cases hk) (by kernel_rfl) (laid_met os))) ?_
  intro W base args ds gs before hval hW _ _ hz hL hSh _
  exact contract H enc W base args ds gs before hval hW hz hL hSh

theorem said : Rows.ImageRoundSaid :=
  OpenClaim.holds_of_cond 4 Tryd.f4 rfl rfl rfl rfl rfl rfl rfl ⟨rfl, rfl, rfl, rfl, rfl⟩ rfl rfl rfl rfl rfl (by kernel_rfl) Tryd.func4 (by kernel_rfl)
    (of_decide_eq_true (by kernel_rfl)) (by unfold Func.isWrapper; first | (rw [if_pos (by decide +kernel)]; kernel_rfl) | (rw [if_neg (by decide +kernel)]; exact ⟨rfl, rfl⟩))
    (fun os started H enc _ F => by rw [OpenClaim.pre_eq_preRow]; exact lifted os started H enc F)
theorem plain (f : FuncId) (fn : Func) (hf : Tryd.pinned.checked.prog.funcNamed "masthead/mastkeep2.ImageRound" = some f) (hfn : Tryd.pinned.checked.prog.funcs[f]? = some fn) :
    true = Tryd.pinned.checked.prog.looks [] ∧ ∀ (j : Nat) t, fn.params[j]? = some t → Tryd.pinned.checked.prog.wantsStandIn t = false := by
  obtain rfl : f = 4 := Option.some.inj ((show Tryd.prog.funcNamed "masthead/mastkeep2.ImageRound" = some 4 by kernel_rfl).symm.trans hf) |>.symm
  obtain rfl : fn = Tryd.f4 := (Option.some.inj (Tryd.func4.symm.trans hfn)).symm
  refine ⟨by kernel_rfl, fun j t ht => ?_⟩
  rw [Tryd.params4] at ht
  have hm := Array.mem_of_getElem? ht
  simp at hm
  rcases hm with rfl
  exact (show Tryd.prog.wantsStandIn 33 = false by kernel_rfl)
theorem proved : Rows.ImageRoundCardSaid :=
  Claim7.holds_tied_plain_at .later [] _ _ _ _ said (fun _ h => by cases h) (by kernel_rfl) (fun _ h => by cases h) imageRound_row_tie rfl ⟨rfl, rfl⟩ (by kernel_rfl) rfl plain (by kernel_rfl)
#print axioms proved
end Go.Proofs.YthlkibadiiiohaaDoor.imageRoundDone
