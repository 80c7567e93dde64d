/- DERIVED. THE CARD ImageWritesCardSaid: for every image ImageWrites returns true, and the argument reads afterwards as it read before. The variables of the library that the row lists are tied to the program's text. -/
import Derived.Test.YtkobenohijipeaaDoorImgStrP
import Derived.ChangeSlices
import Derived.Lib.SmallJoins
import Derived.Deep.RegionWith
import Derived.Test.YtkobenohijipeaaDoorChecked
import Derived.Test.YtkobenohijipeaaDoorCards
import Derived.Test.YtkobenohijipeaaDoorTie
import Derived.ProofKit
import Derived.OpenShut
import Derived.ShutString
import Derived.ChangeOld
import Derived.JoinedCond
import Derived.Deep.DeepHandedRow
import Derived.ChangeMaps
import Derived.Lib.LaidTab
import Derived.Stop.LaidErr
import Derived.LaidSub
namespace Go.Proofs.YtkobenohijipeaaDoor.imageWritesDone
open Go.ChangeMaps (open_string shut_string)
open Go.ChangeShapes Go.WideShapes Go.ChangeAt Go.RowKit
set_option linter.unusedVariables false
theorem own : ownKnob Tryd.prog.godebug = none := by kernel_rfl
theorem laidOut : laidOutB Tryd.prog = true := by kernel_rfl
theorem gTz : Tryd.prog.globalNamed "math/bits.deBruijn64tab" = some 5 := by kernel_rfl
theorem gTzType : (Tryd.prog.globals[5]?).map (·.type) = some 133 := by kernel_rfl
theorem cellsArr : Tryd.prog.cellsOf 133 = 64 := by kernel_rfl
theorem cellsU : Tryd.prog.cellsOf 5 = 1 := by kernel_rfl
def de64 : List Int := [0, 1, 56, 2, 57, 49, 28, 3, 61, 58, 42, 50, 38, 29, 17, 4, 62, 47, 59, 36, 45, 43, 51, 22, 53, 39, 33, 30, 24, 18, 12, 5, 63, 55, 48, 27, 60, 41, 37, 16, 46, 35, 44, 21, 52, 32, 23, 11, 54, 26, 40, 15, 34, 20, 31, 10, 25, 14, 19, 9, 13, 8, 7, 6]
theorem tzT {W : World} (h : laidMetH Tryd.prog Rows.imageWritesRow.laid W) : TzT W := by
  have ht : Lib.TabIs Tryd.prog W "math/bits.deBruijn64tab" .u8 de64 := Lib.tabIs_of_head gTz gTzType Tryd.underlying133 Tryd.underlying5 cellsU cellsArr (laidMet.tail h)
  have hc := ht.cell gTz 15 (by decide)
  have hc2 : W.cell? ⟨5, 15, none⟩ = some (.int .u8 4) := hc
  exact ⟨World.block_lt_of_cell? W _ hc2, hc2⟩
set_option maxRecDepth 100000 in
set_option maxHeartbeats 1600000 in
theorem walk (W H : Int) (A : Option Addr) (n c : Nat) (zs : List Int) (w : World) (hz : zs.length = n) (hn : n ≤ maxLen) (hI : IntsAt w w.heap.size A zs) (hT : TzT w) :
    Calls Tryd.prog 5 #[.agg #[.int .i64 W, .int .i64 H, .slice A n c]] w fun e w' => e = .returned (.bool true) ∧ Below w.heap.size w w' := by
  obtain ⟨W0, hW0⟩ : ∃ W0, w.alloc (.cells #[.int .i64 W, .int .i64 H, .slice A n c] 37) = W0 := ⟨_, rfl⟩
  have hz0 : W0.heap.size = w.heap.size + 1 := by rw [← hW0]; simp
  have hw0 : Below w.heap.size w W0 := by rw [← hW0]; exact (Below.refl _ _).alloc (Nat.le_refl _) _
  have fin : ∀ wX, Below (w.heap.size + 1) W0 wX → Below w.heap.size w wX := fun wX h => hw0.trans (h.mono (by omega))
  have cells : ∀ wX, Below (w.heap.size + 1) W0 wX → wX.cell? ⟨w.heap.size, 0, none⟩ = some (.int .i64 W) ∧ wX.cell? ⟨w.heap.size, 1, none⟩ = some (.int .i64 H) ∧ wX.cell? ⟨w.heap.size, 2, none⟩ = some (.slice A n c) := fun wX h => by
    have o : wX.heap[w.heap.size]? = some (.cells #[.int .i64 W, .int .i64 H, .slice A n c] 37 (0, 0)) := (h.block _ (by omega)).trans (by rw [← hW0]; exact heap_alloc_new _ _)
    exact box3i o
  have up : ∀ {wX w' : World}, Below (w.heap.size + 1) W0 wX → Below wX.heap.size wX w' → Below (w.heap.size + 1) W0 w' := fun h h' => h.trans (h'.mono (by have := h.size; omega))
  have hIX : ∀ wX, Below (w.heap.size + 1) W0 wX → IntsAt wX wX.heap.size A zs := fun wX h => (hI.below (fin wX h) (Nat.le_refl _)).morei (fin wX h).size
  obtain ⟨o, ho⟩ : ∃ o, outB W H zs = o := ⟨_, rfl⟩
  obtain ⟨er, her⟩ : ∃ er, imgE W H zs = er := ⟨_, rfl⟩
  have HC1 := Lib.hid (fun wX (hX : Below (w.heap.size + 1) W0 wX) => (chkImg_any W H A n c zs wX hz hn (hIX wX hX)).mono (fun e w' h => (⟨h.1, up hX h.2, cells _ (up hX h.2)⟩ : _ ∧ Below (w.heap.size + 1) W0 w' ∧ _)))
  have HC2 := Lib.hid (fun wX (hX : Below (w.heap.size + 1) W0 wX) => (imgFault_any W H A n c zs wX hz hn (hIX wX hX)).mono (fun e w' h => (⟨h.1, up hX h.2, cells _ (up hX h.2)⟩ : _ ∧ Below (w.heap.size + 1) W0 w' ∧ _)))
  have HS1 := Lib.hid (fun wX (hX : Below (w.heap.size + 1) W0 wX) => (imgStrP_any W H A n c zs wX hz hn (hIX wX hX)).mono (fun e w' h => (⟨h.1, up hX h.2, cells _ (up hX h.2)⟩ : _ ∧ Below (w.heap.size + 1) W0 w' ∧ _)))
  have HS2 := Lib.hid (fun wX (hX : Below (w.heap.size + 1) W0 wX) => (imgStrR_any W H A n c zs wX hz hn (hIX wX hX) (hT.below (fin wX hX))).mono (fun e w' h => (⟨h.1, up hX h.2, cells _ (up hX h.2)⟩ : _ ∧ Below (w.heap.size + 1) W0 w' ∧ _)))
  rw [ho, her] at HS1 HS2
  rw [her] at HC1 HC2
  have HF := Lib.hid fin
  have HW := Lib.hid hW0
  have q1 : (o.toList == o.toList) = true := by simp
  have q3 : (er == er) = true := by simp
  clear hI hT hz hn fin cells up hIX ho her hW0 hz0 hw0
  go_enter Tryd.func5, Tryd.ntmps5
  go_wp2_with fail
  have hW0 := HW.out
  rw [hW0]
  clear hW0
  refine (HS1.out _ (Below.refl _ _)).mono ?_
  rintro e w1 ⟨rfl, hb1, y0, y1, y2⟩
  go_wp2_with fail
  refine (HS2.out _ hb1).mono ?_
  rintro e w2 ⟨rfl, hb2, z0, z1, z2⟩
  clear y0 y1 y2
  go_wp2_with fail
  go_region_with (first
    | (go_at_call 19; refine (HC1.out _ (by first | assumption | exact hb2.drew)).mono ?_; rintro e w3 ⟨rfl, hb3, u0, u1, u2⟩)
    | (go_at_call 20; refine (HC2.out _ (by first | assumption | exact hb2.drew)).mono ?_; rintro e w4 ⟨rfl, hb4, v0, v1, v2⟩))
  all_goals (go_wp2_with fail; go_ret; exact ⟨by first | rfl | simp, by first | exact HF.out _ hb4 | exact HF.out _ hb3⟩)
set_option maxRecDepth 100000 in
theorem contract (H : Type) (enc : TypeId × Value → H) (W : World) (base : Nat) (args : Array Value) (ds gs : List (DataW H)) (before : List MemPlace)
    (hval0 : ∀ (j : Nat) t v, Tryd.f5.params[j]? = some t → args[j]? = some v → Value.okWide Tryd.prog W .any base t v)
    (hW : DataW.Whole enc Tryd.prog Tryd.f5.params.toList Rows.imageWritesSpec.vars false W args.toList ds gs before) (hz : (DataW.weightsEach Tryd.prog (Tryd.f5.params.toList ++ (OpenSpec.ofChange Rows.imageWritesSpec).bare.plain.varTypes Tryd.prog) (ds ++ gs)).all (· ≤ reachBytes) = true)
    (hL : laidMetH Tryd.prog Rows.imageWritesRow.laid W) (hSh : W.ShapedOpen Tryd.prog) :
    Calls Tryd.prog 5 args W fun e W' => ∃ v, e = .returned v ∧ Rows.imageWritesSpec.post enc Tryd.prog Tryd.f5 false true false false W args v W' := by
  have hval : ∀ (j : Nat) t v, Tryd.f5.params[j]? = some t → args[j]? = some v → Value.okWide Tryd.prog W .any base t v := hval0
  have hW' := hW
  obtain ⟨p, q, hA0, hV, rfl, hfz, hnd⟩ := hW
  have hA : DataW.TrodAll enc Tryd.prog W 0 (fun _ => true) true Tryd.f5.params.toList args.toList ds p := hA0
  rw [Tryd.params5] at hA hval
  obtain ⟨v0, vs0, d0, ds0, p0, q0, hargs, rfl, rfl, h0, r0⟩ := trodAll_cons hA
  obtain ⟨rfl, rfl, rfl⟩ := trodAll_nil r0
  obtain rfl : args = #[v0] := by cases args; simp_all
  obtain ⟨rfl, rfl⟩ := trodVars_none hV
  have k0 := h0
  have lt0 : ∀ x ∈ p0, x.block < W.heap.size := by obtain ⟨m, hm⟩ := k0; exact DataW.trod_lt m _ _ _ hm
  obtain ⟨u0, u1, u2, y0, y1, y2, fu, rfl, rfl, hp0, t0, t1, t2⟩ := Joins.open_agg3 Tryd.underlying37 (by kernel_rfl) (by kernel_rfl) (hval 0 37 v0 rfl rfl) k0
  obtain ⟨m0, e0, g0, z0⟩ := DataW.trod_int Tryd.underlying3 t0
  obtain ⟨m1, e1, g1, z1⟩ := DataW.trod_int Tryd.underlying3 t1
  simp at e0 e1
  subst e0 e1
  obtain ⟨A2, n2, c2, zs, rfl, hzs, hn, hI⟩ : ∃ A2 n2 c2 zs, u2 = .slice A2 n2 c2 ∧ List.length zs = n2 ∧ n2 ≤ maxLen ∧ IntsAt W W.heap.size A2 zs := by
    rcases open_ints Tryd.underlying31 Tryd.underlying3 (by kernel_rfl) t2 with ⟨hcs, _⟩ | ⟨a, len, cap, zs, hcs, _, hlc, hcm, hlen, hx, hcell, _⟩
    · simp at hcs
      subst hcs
      exact ⟨_, _, _, [], rfl, rfl, Nat.zero_le _, fun j z hj => by simp at hj⟩
    · simp at hcs
      subst hcs
      simp at hlen
      refine ⟨_, _, _, zs.take len, rfl, by rw [List.length_take]; omega, by omega, fun j z hj => ?_⟩
      have hj1 : j < len := by have := (List.getElem?_eq_some_iff.1 hj).1; rw [List.length_take] at this; omega
      have hj2 : zs[j]? = some z := by rw [List.getElem?_take_of_lt hj1] at hj; exact hj
      have hc := hcell j (by have := (List.getElem?_eq_some_iff.1 hj2).1; exact this)
      rw [List.getD_eq_getElem?_getD, hj2] at hc
      have hlt := World.block_lt_of_cell? W _ hc
      rw [addr_block] at hlt
      exact ⟨a, rfl, hlt, hc⟩
  clear hA0 hval0
  simp only [List.append_nil] at hW'
  refine (walk m0 m1 A2 n2 c2 zs W hzs hn hI (tzT hL)).mono fun e W' ⟨he, bel⟩ => ?_
  subst he
  exact ⟨_, rfl, _, _, _, [], _, [], hW', trodAll_mk1 (shut_bool Tryd.underlying4 _), (trodAll_cons_mk (Below.trod laidOut (by kernel_rfl) (of_decide_eq_true (by kernel_rfl)) k0 bel lt0) trodAll_mk0), rfl, bel.frame _, fun h => by cases h⟩

/-- A world for the witness: the settled one, the tables as their initialisers lay them. -/
def tab (b : Nat) (cs : Array Value) (h : Array Obj) : Array Obj := h.modify b fun
  | .cells _ t frozen => .cells cs t frozen
  | o => o
def ints (k : IntKind) (l : List Int) : Array Value := (l.map (Value.int k)).toArray
def de32 : List Int := [0, 1, 28, 2, 29, 14, 24, 3, 30, 22, 20, 15, 25, 17, 4, 8, 31, 27, 13, 23, 21, 19, 16, 7, 26, 12, 18, 6, 11, 5, 10, 9]
noncomputable def laidWorld (os : Os) : World :=
  { World.settled Tryd.prog os with heap := tab 4 (ints .u8 de32) (tab 5 (ints .u8 de64) (tab 1 (ints .u64 Lib.pow10Tab) (World.settled Tryd.prog os).heap)) }
theorem laid_met (os : Os) : laidMet Tryd.prog Rows.imageWritesRow.laid ((laidWorld os).forCall (fun _ _ => 0) ⟨#[], #[.agg #[.int .i64 0, .int .i64 0, .slice none 0 0]], []⟩).memory :=
  laidMet_of_run' 8 (by kernel_rfl) (by kernel_rfl)
theorem reads (os : Os) {H : Type} (enc : TypeId × Value → H) : ∃ places, DataW.whole enc Tryd.prog ((laidWorld os).forCall (fun _ _ => 0) ⟨#[], #[.agg #[.int .i64 0, .int .i64 0, .slice none 0 0]], []⟩).memory Tryd.f5.params.toList Rows.imageWritesSpec.vars false (#[.agg #[.int .i64 0, .int .i64 0, .slice none 0 0]] : Array Value).toList 8 = some ([.agg [.lit (.int .i64 0), .lit (.int .i64 0), .nil]], [], places) :=
  ⟨[], by kernel_rfl⟩

set_option maxRecDepth 100000 in
theorem lifted (os : Os) (started : os.Started) (H : Type) (enc : TypeId × Value → H) (F : Stop.Interp) :
    ReturnsInHanded {} Tryd.checked os 5 .any ((OpenSpec.ofChange Rows.imageWritesSpec).preRow enc Tryd.prog Tryd.f5 Rows.imageWritesRow.domain false Rows.imageWritesRow.laid) (((OpenSpec.ofChange Rows.imageWritesSpec).at F).post enc Tryd.prog Tryd.f5 false true false false) := by
  obtain ⟨places, hx⟩ := reads os enc
  refine returnsInHanded_of_row (C := Tryd.checked) (s := OpenSpec.ofChange Rows.imageWritesSpec) own started (by kernel_rfl) Tryd.func5
    (witness_row_at (enc := enc) (C := Tryd.checked) (s := OpenSpec.ofChange Rows.imageWritesSpec) false (laidWorld os) #[.agg #[.int .i64 0, .int .i64 0, .slice none 0 0]] rfl (by kernel_rfl) (by kernel_rfl) (by kernel_rfl)
      (OpenSpec.preRow_of_cond (s := OpenSpec.ofChange Rows.imageWritesSpec) 8 hx (by kernel_rfl) (fun k hk => by cases hk) (by kernel_rfl) (laid_met os))) ?_
  intro W base args ds gs before hval hW _ _ hz hL hSh _
  exact contract H enc W base args ds gs before hval hW hz hL hSh

theorem said : Rows.ImageWritesSaid :=
  OpenClaim.holds_of_cond 5 Tryd.f5 rfl rfl rfl rfl rfl rfl rfl ⟨rfl, rfl, rfl, rfl, rfl⟩ rfl rfl rfl rfl rfl (by kernel_rfl) Tryd.func5 (by kernel_rfl)
    (of_decide_eq_true (by kernel_rfl)) (by unfold Func.isWrapper; first | (rw [if_pos (by decide +kernel)]; kernel_rfl) | (rw [if_neg (by decide +kernel)]; exact ⟨rfl, rfl⟩))
    (fun os started H enc _ F => by rw [OpenClaim.pre_eq_preRow]; exact lifted os started H enc F)
theorem plain (f : FuncId) (fn : Func) (hf : Tryd.pinned.checked.prog.funcNamed "masthead/mastlaw2.ImageWrites" = some f) (hfn : Tryd.pinned.checked.prog.funcs[f]? = some fn) :
    false = Tryd.pinned.checked.prog.looks [] ∧ ∀ (j : Nat) t, fn.params[j]? = some t → Tryd.pinned.checked.prog.wantsStandIn t = false := by
  obtain rfl : f = 5 := Option.some.inj ((show Tryd.prog.funcNamed "masthead/mastlaw2.ImageWrites" = some 5 by kernel_rfl).symm.trans hf) |>.symm
  obtain rfl : fn = Tryd.f5 := (Option.some.inj (Tryd.func5.symm.trans hfn)).symm
  refine ⟨by kernel_rfl, fun j t ht => ?_⟩
  rw [Tryd.params5] at ht
  have hm := Array.mem_of_getElem? ht
  simp at hm
  rcases hm with rfl
  exact (show Tryd.prog.wantsStandIn 37 = false by kernel_rfl)
theorem proved : Rows.ImageWritesCardSaid :=
  Claim7.holds_tied_plain_at .later [] _ _ _ _ said (fun _ h => by cases h) (by kernel_rfl) (fun _ h => by cases h) imageWrites_row_tie rfl ⟨rfl, rfl⟩ (by kernel_rfl) rfl plain (by kernel_rfl)
#print axioms proved
end Go.Proofs.YtkobenohijipeaaDoor.imageWritesDone
