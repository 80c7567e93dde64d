/- DERIVED. THE CARD AssetMapsCardSaid: for every bundle AssetMaps returns true, and the argument reads afterwards as it read before. The variables of the library that the row lists are tied to the program's text. -/
import Derived.Test.YtkobenohijipeaaDoorMapR
import Derived.SliceStrings
import Derived.ChangeSlices
import Derived.Lib.SmallJoins
import Derived.Test.YtkobenohijipeaaDoorChecked
import Derived.Test.YtkobenohijipeaaDoorCards
import Derived.Test.YtkobenohijipeaaDoorTie
import Derived.ProofKit
import Derived.OpenShut
import Derived.ShutString
import Derived.ChangeOld
import Derived.JoinedCond
import Derived.Deep.DeepHandedRow
import Derived.ChangeMaps
import Derived.Lib.LaidTab
import Derived.Stop.LaidErr
import Derived.LaidSub
namespace Go.Proofs.YtkobenohijipeaaDoor.assetMapsDone
open Go.ChangeMaps (open_string shut_string)
open Go.ChangeShapes Go.WideShapes Go.ChangeAt Go.RowKit
set_option linter.unusedVariables false
theorem own : ownKnob Tryd.prog.godebug = none := by kernel_rfl
theorem laidOut : laidOutB Tryd.prog = true := by kernel_rfl
theorem maxT {W : World} (h : W.ShapedOpen Tryd.prog) : MaxT W := by
  obtain ⟨m, hm⟩ := Tryd.laysM146.s1_3 W h
  exact ⟨World.block_lt_of_cell? W _ hm, m, hm⟩
theorem gTz : Tryd.prog.globalNamed "math/bits.deBruijn64tab" = some 5 := by kernel_rfl
theorem gTzType : (Tryd.prog.globals[5]?).map (·.type) = some 133 := by kernel_rfl
theorem cellsArr : Tryd.prog.cellsOf 133 = 64 := by kernel_rfl
theorem cellsU : Tryd.prog.cellsOf 5 = 1 := by kernel_rfl
def de64 : List Int := [0, 1, 56, 2, 57, 49, 28, 3, 61, 58, 42, 50, 38, 29, 17, 4, 62, 47, 59, 36, 45, 43, 51, 22, 53, 39, 33, 30, 24, 18, 12, 5, 63, 55, 48, 27, 60, 41, 37, 16, 46, 35, 44, 21, 52, 32, 23, 11, 54, 26, 40, 15, 34, 20, 31, 10, 25, 14, 19, 9, 13, 8, 7, 6]
theorem tzT {W : World} (h : laidMetH Tryd.prog Rows.assetMapsRow.laid W) : Tz32 W := by
  have ht : Lib.TabIs Tryd.prog W "math/bits.deBruijn64tab" .u8 de64 := Lib.tabIs_of_head gTz gTzType Tryd.underlying133 Tryd.underlying5 cellsU cellsArr (laidMet.tail h)
  have hc := ht.cell gTz 31 (by decide)
  have hc2 : W.cell? ⟨5, 31, none⟩ = some (.int .u8 5) := hc
  exact ⟨World.block_lt_of_cell? W _ hc2, hc2⟩
set_option maxRecDepth 100000 in
set_option maxHeartbeats 1600000 in
theorem walk (s : ByteArray) (A1 A2 : Option Addr) (n1 c1 n2 c2 : Nat) (ps : List ByteArray) (zs : List Int) (w : World) (hl : ps.length = n1) (hn : n1 ≤ c1) (hcm : c1 ≤ 9223372036854775807) (hm : MaxT w) (ht : Tz32 w) (hR : StrRow w w.heap.size A1 ps) (hz : zs.length = n2) (hn2 : n2 ≤ maxLen) (hI : IntsAt w w.heap.size A2 zs) :
    Calls Tryd.prog 4 #[.agg #[.string s, .slice A1 n1 c1, .slice A2 n2 c2]] w fun e w' => e = .returned (.bool true) ∧ Below w.heap.size w w' := by
  have H1 := Lib.hid (fun wX (hX : Below w.heap.size w wX) => mapP_any s A1 A2 n1 c1 n2 c2 ps zs wX hl hn hcm (hm.below hX) (ht.below hX) ((hR.below hX (Nat.le_refl _)).more hX.size) hz hn2 ((hI.below hX (Nat.le_refl _)).morm hX.size))
  have H2 := Lib.hid (fun wX (hX : Below w.heap.size w wX) => mapR_any s A1 A2 n1 c1 n2 c2 ps zs wX hl hn hcm (hm.below hX) (ht.below hX) ((hR.below hX (Nat.le_refl _)).more hX.size) hz hn2 ((hI.below hX (Nat.le_refl _)).morm hX.size))
  obtain ⟨o, ho⟩ : ∃ o, mapS s.size n1 n2 zs ps = o := ⟨_, rfl⟩
  obtain ⟨er, her⟩ : ∃ er, mapE s.size n1 n2 zs ps = er := ⟨_, rfl⟩
  rw [ho, her] at H1 H2
  have q1 : (o.toList == o.toList) = true := by simp
  have q3 : (er == er) = true := by simp
  clear hI hz hn2 hl hn hcm hm ht hR ho her
  go_enter Tryd.func4, Tryd.ntmps4
  go_wp2_with fail
  refine (H1.out _ ((Below.refl _ w).alloc (Nat.le_refl _) _)).mono ?_
  rintro e w1 ⟨rfl, hb1⟩
  have HB := Lib.hid (((Below.refl _ w).alloc (Nat.le_refl _) _).trans (hb1.mono (by simp)))
  have o0 : w1.heap[w.heap.size]? = some (.cells #[.string s, .slice A1 n1 c1, .slice A2 n2 c2] 33 (0, 0)) := (hb1.block w.heap.size (by simp)).trans (heap_alloc_new _ _)
  obtain ⟨e0, e1, e2⟩ := box3m o0
  clear o0 hb1
  go_wp2_with fail
  refine (H2.out _ HB.out).mono ?_
  rintro e w2 ⟨rfl, hb2⟩
  have HB2 := Lib.hid (HB.out.trans (hb2.mono HB.out.size))
  clear hb2 e0 e1 e2
  go_wp2_with fail
  go_ret
  exact ⟨by first | rfl | simp, HB2.out⟩
set_option maxRecDepth 100000 in
theorem contract (H : Type) (enc : TypeId × Value → H) (W : World) (base : Nat) (args : Array Value) (ds gs : List (DataW H)) (before : List MemPlace)
    (hval0 : ∀ (j : Nat) t v, Tryd.f4.params[j]? = some t → args[j]? = some v → Value.okWide Tryd.prog W .any base t v)
    (hW : DataW.Whole enc Tryd.prog Tryd.f4.params.toList Rows.assetMapsSpec.vars false W args.toList ds gs before) (hz : (DataW.weightsEach Tryd.prog (Tryd.f4.params.toList ++ (OpenSpec.ofChange Rows.assetMapsSpec).bare.plain.varTypes Tryd.prog) (ds ++ gs)).all (· ≤ reachBytes) = true)
    (hL : laidMetH Tryd.prog Rows.assetMapsRow.laid W) (hSh : W.ShapedOpen Tryd.prog) :
    Calls Tryd.prog 4 args W fun e W' => ∃ v, e = .returned v ∧ Rows.assetMapsSpec.post enc Tryd.prog Tryd.f4 false true false false W args v W' := by
  have hval : ∀ (j : Nat) t v, Tryd.f4.params[j]? = some t → args[j]? = some v → Value.okWide Tryd.prog W .any base t v := hval0
  have hW' := hW
  obtain ⟨p, q, hA0, hV, rfl, hfz, hnd⟩ := hW
  have hA : DataW.TrodAll enc Tryd.prog W 0 (fun _ => true) true Tryd.f4.params.toList args.toList ds p := hA0
  rw [Tryd.params4] at hA hval
  obtain ⟨v0, vs0, d0, ds0, p0, q0, hargs, rfl, rfl, h0, r0⟩ := trodAll_cons hA
  obtain ⟨rfl, rfl, rfl⟩ := trodAll_nil r0
  obtain rfl : args = #[v0] := by cases args; simp_all
  obtain ⟨rfl, rfl⟩ := trodVars_none hV
  have k0 := h0
  have lt0 : ∀ x ∈ p0, x.block < W.heap.size := by obtain ⟨m, hm⟩ := k0; exact DataW.trod_lt m _ _ _ hm
  obtain ⟨u0, u1, u2, y0, y1, y2, fu, rfl, rfl, hp0, t0, t1, t2⟩ := Joins.open_agg3 Tryd.underlying33 (by kernel_rfl) (by kernel_rfl) (hval 0 33 v0 rfl rfl) k0
  obtain ⟨s, e0, g0, z0⟩ := DataW.trod_string Tryd.underlying9 t0
  simp at e0
  subst e0
  obtain ⟨A1, n1, c1, ps, rfl, hl, hnc, hcm, hR⟩ : ∃ A1 n1 c1 ps, u1 = .slice A1 n1 c1 ∧ List.length ps = n1 ∧ n1 ≤ c1 ∧ c1 ≤ 9223372036854775807 ∧ StrRow W W.heap.size A1 ps := by
    rcases open_strings Tryd.underlying30 Tryd.underlying9 (by kernel_rfl) t1 with ⟨hcs, _⟩ | ⟨a, len, cap, ss, hcs, _, hlc, hcm, hlen, hx, hcell, _⟩
    · simp at hcs
      subst hcs
      exact ⟨_, _, _, [], rfl, rfl, Nat.le_refl _, Nat.zero_le _, .inl rfl⟩
    · simp at hcs
      subst hcs
      simp at hlen
      refine ⟨_, _, _, ss.take len, rfl, by rw [List.length_take]; omega, hlc, by unfold maxLen at hcm; omega, ?_⟩
      cases hlen0 : len with
      | zero => exact .inl (by simp)
      | succ m =>
        rw [← hlen0]
        have hc0 := hcell 0 (by omega)
        have hlt := World.block_lt_of_cell? W _ hc0
        rw [addr_block] at hlt
        obtain ⟨b, off, spot⟩ := a
        have hspot : spot = none := by
          simpa [Addr.add] using World.cell?_spot hc0
        subst hspot
        refine .inr ⟨b, off, rfl, hlt, fun j x hj => ?_⟩
        have hj1 : j < len := by have := (List.getElem?_eq_some_iff.1 hj).1; rw [List.length_take] at this; omega
        have hj2 : ss[j]? = some x := by rw [List.getElem?_take_of_lt hj1] at hj; exact hj
        have hc := hcell j (by have := (List.getElem?_eq_some_iff.1 hj2).1; exact this)
        rw [List.getD_eq_getElem?_getD, hj2] at hc
        have e : (⟨b, off, none⟩ : Addr).add j = ⟨b, off + j, none⟩ := by unfold Addr.add; split <;> simp_all
        rw [e] at hc
        exact hc
  obtain ⟨A2, n2, c2, zs, rfl, hzs, hn, hI⟩ : ∃ A2 n2 c2 zs, u2 = .slice A2 n2 c2 ∧ List.length zs = n2 ∧ n2 ≤ maxLen ∧ IntsAt W W.heap.size A2 zs := by
    rcases open_ints Tryd.underlying31 Tryd.underlying3 (by kernel_rfl) t2 with ⟨hcs, _⟩ | ⟨a, len, cap, zs, hcs, _, hlc, hcm, hlen, hx, hcell, _⟩
    · simp at hcs
      subst hcs
      exact ⟨_, _, _, [], rfl, rfl, Nat.zero_le _, fun j z hj => by simp at hj⟩
    · simp at hcs
      subst hcs
      simp at hlen
      refine ⟨_, _, _, zs.take len, rfl, by rw [List.length_take]; omega, by omega, fun j z hj => ?_⟩
      have hj1 : j < len := by have := (List.getElem?_eq_some_iff.1 hj).1; rw [List.length_take] at this; omega
      have hj2 : zs[j]? = some z := by rw [List.getElem?_take_of_lt hj1] at hj; exact hj
      have hc := hcell j (by have := (List.getElem?_eq_some_iff.1 hj2).1; exact this)
      rw [List.getD_eq_getElem?_getD, hj2] at hc
      have hlt := World.block_lt_of_cell? W _ hc
      rw [addr_block] at hlt
      exact ⟨a, rfl, hlt, hc⟩
  clear hA0 hval0
  simp only [List.append_nil] at hW'
  refine (walk s A1 A2 n1 c1 n2 c2 ps zs W hl hnc hcm (maxT hSh) (tzT hL) hR hzs hn hI).mono fun e W' ⟨he, bel⟩ => ?_
  subst he
  exact ⟨_, rfl, _, _, _, [], _, [], hW', trodAll_mk1 (shut_bool Tryd.underlying4 _), (trodAll_cons_mk (Below.trod laidOut (by kernel_rfl) (of_decide_eq_true (by kernel_rfl)) k0 bel lt0) trodAll_mk0), rfl, bel.frame _, fun h => by cases h⟩

/-- A world for the witness: the settled one, the tables as their initialisers lay them. -/
def tab (b : Nat) (cs : Array Value) (h : Array Obj) : Array Obj := h.modify b fun
  | .cells _ t frozen => .cells cs t frozen
  | o => o
def ints (k : IntKind) (l : List Int) : Array Value := (l.map (Value.int k)).toArray
def de32 : List Int := [0, 1, 28, 2, 29, 14, 24, 3, 30, 22, 20, 15, 25, 17, 4, 8, 31, 27, 13, 23, 21, 19, 16, 7, 26, 12, 18, 6, 11, 5, 10, 9]
def accepts : List Int := [128, 191, 160, 191, 128, 159, 144, 191, 128, 143, 0, 0, 0, 0, 0, 0, 0, 0, 0, 0, 0, 0, 0, 0, 0, 0, 0, 0, 0, 0, 0, 0]
noncomputable def laidWorld (os : Os) : World :=
  { World.settled Tryd.prog os with heap := tab 3 (ints .u8 accepts) (tab 2 (ints .u8 (Go.Pinned.utf8FirstZ.map Int.ofNat)) (tab 4 (ints .u8 de32) (tab 5 (ints .u8 de64) (tab 1 (ints .u64 Lib.pow10Tab) (World.settled Tryd.prog os).heap)))) }
theorem laid_met (os : Os) : laidMet Tryd.prog Rows.assetMapsRow.laid ((laidWorld os).forCall (fun _ _ => 0) ⟨#[], #[.agg #[.string .empty, .slice none 0 0, .slice none 0 0]], []⟩).memory :=
  laidMet_of_run' 8 (by kernel_rfl) (by kernel_rfl)
theorem reads (os : Os) {H : Type} (enc : TypeId × Value → H) : ∃ places, DataW.whole enc Tryd.prog ((laidWorld os).forCall (fun _ _ => 0) ⟨#[], #[.agg #[.string .empty, .slice none 0 0, .slice none 0 0]], []⟩).memory Tryd.f4.params.toList Rows.assetMapsSpec.vars false (#[.agg #[.string .empty, .slice none 0 0, .slice none 0 0]] : Array Value).toList 8 = some ([.agg [.lit (.string []), .nil, .nil]], [], places) :=
  ⟨[], by kernel_rfl⟩

set_option maxRecDepth 100000 in
theorem lifted (os : Os) (started : os.Started) (H : Type) (enc : TypeId × Value → H) (F : Stop.Interp) :
    ReturnsInHanded {} Tryd.checked os 4 .any ((OpenSpec.ofChange Rows.assetMapsSpec).preRow enc Tryd.prog Tryd.f4 Rows.assetMapsRow.domain false Rows.assetMapsRow.laid) (((OpenSpec.ofChange Rows.assetMapsSpec).at F).post enc Tryd.prog Tryd.f4 false true false false) := by
  obtain ⟨places, hx⟩ := reads os enc
  refine returnsInHanded_of_row (C := Tryd.checked) (s := OpenSpec.ofChange Rows.assetMapsSpec) own started (by kernel_rfl) Tryd.func4
    (witness_row_at (enc := enc) (C := Tryd.checked) (s := OpenSpec.ofChange Rows.assetMapsSpec) false (laidWorld os) #[.agg #[.string .empty, .slice none 0 0, .slice none 0 0]] rfl (by kernel_rfl) (by kernel_rfl) (by kernel_rfl)
      (OpenSpec.preRow_of_cond (s := OpenSpec.ofChange Rows.assetMapsSpec) 8 hx (by kernel_rfl) (fun k hk => by cases hk) (by kernel_rfl) (laid_met os))) ?_
  intro W base args ds gs before hval hW _ _ hz hL hSh _
  exact contract H enc W base args ds gs before hval hW hz hL hSh

theorem said : Rows.AssetMapsSaid :=
  OpenClaim.holds_of_cond 4 Tryd.f4 rfl rfl rfl rfl rfl rfl rfl ⟨rfl, rfl, rfl, rfl, rfl⟩ rfl rfl rfl rfl rfl (by kernel_rfl) Tryd.func4 (by kernel_rfl)
    (of_decide_eq_true (by kernel_rfl)) (by unfold Func.isWrapper; first | (rw [if_pos (by decide +kernel)]; kernel_rfl) | (rw [if_neg (by decide +kernel)]; exact ⟨rfl, rfl⟩))
    (fun os started H enc _ F => by rw [OpenClaim.pre_eq_preRow]; exact lifted os started H enc F)
theorem plain (f : FuncId) (fn : Func) (hf : Tryd.pinned.checked.prog.funcNamed "masthead/mastlaw2.AssetMaps" = some f) (hfn : Tryd.pinned.checked.prog.funcs[f]? = some fn) :
    false = Tryd.pinned.checked.prog.looks [] ∧ ∀ (j : Nat) t, fn.params[j]? = some t → Tryd.pinned.checked.prog.wantsStandIn t = false := by
  obtain rfl : f = 4 := Option.some.inj ((show Tryd.prog.funcNamed "masthead/mastlaw2.AssetMaps" = some 4 by kernel_rfl).symm.trans hf) |>.symm
  obtain rfl : fn = Tryd.f4 := (Option.some.inj (Tryd.func4.symm.trans hfn)).symm
  refine ⟨by kernel_rfl, fun j t ht => ?_⟩
  rw [Tryd.params4] at ht
  have hm := Array.mem_of_getElem? ht
  simp at hm
  rcases hm with rfl
  exact (show Tryd.prog.wantsStandIn 33 = false by kernel_rfl)
theorem proved : Rows.AssetMapsCardSaid :=
  Claim7.holds_tied_plain_at .later [] _ _ _ _ said (fun _ h => by cases h) (by kernel_rfl) (fun _ h => by cases h) assetMaps_row_tie rfl ⟨rfl, rfl⟩ (by kernel_rfl) rfl plain (by kernel_rfl)
#print axioms proved
end Go.Proofs.YtkobenohijipeaaDoor.assetMapsDone
