/- DERIVED. THE CARD ConfRoutesUptoCardSaid: for every value of bulk at most 1048576 ConfRoutes returns true, and the argument reads afterwards as it read before. The tables of the library that the row lists are tied to the program's text. No condition of ours. -/
import Derived.Test.YtohkdckllmmfhaaGreatDoorRoutesTop
import Derived.Test.YtohkdckllmmfhaaGreatDoorAlikeS
import Derived.Test.YtohkdckllmmfhaaGreatDoorCards
import Derived.Test.YtohkdckllmmfhaaGreatDoorTie
import Derived.ProofKit
import Derived.OpenShut
import Derived.ShutString
import Derived.ChangeOld
import Derived.JoinedCond
import Derived.Deep.DeepHandedRow
import Derived.ChangeMaps
import Derived.Lib.LaidTab
import Derived.Stop.LaidErr
import Derived.LaidSub
namespace Go.Proofs.YtohkdckllmmfhaaGreatDoor.confRoutesDone
open Go.ChangeMaps (open_string shut_string)
open Go.ChangeShapes Go.WideShapes Go.ChangeAt Go.RowKit Go.Deep
set_option linter.unusedVariables false
theorem own : ownKnob Tryz.prog.godebug = none := by kernel_rfl
theorem laidOut : laidOutB Tryz.prog = true := by kernel_rfl
theorem gPow : Tryz.prog.globalNamed "internal/strconv.uint64pow10" = some 5 := by kernel_rfl
theorem gPowType : (Tryz.prog.globals[5]?).map (·.type) = some 285 := by kernel_rfl
theorem cellsArr : Tryz.prog.cellsOf 285 = 20 := by kernel_rfl
theorem cellsU : Tryz.prog.cellsOf 257 = 1 := by kernel_rfl
/-- What the row's list gives: the table of powers of ten. -/
theorem table {W : World} (h : laidMetH Tryz.prog Rows.confRoutesUptoRow.laid W) : PowT W.heap.size W := by
  have h1 := laidMetH.filter (fun x => x.1 == "internal/strconv.uint64pow10") h
  have e1 : Rows.confRoutesUptoRow.laid.filter (fun x => x.1 == "internal/strconv.uint64pow10") = [("internal/strconv.uint64pow10", Rows.laid_internal_strconv_uint64pow10)] := by kernel_rfl
  rw [e1] at h1
  have h2 := (laidMetH_iff.1 h1).1
  have e2 : ([("internal/strconv.uint64pow10", Rows.laid_internal_strconv_uint64pow10)] : List (String × DataW Unit)).filter (fun x => x.2.handleName?.isNone) = [("internal/strconv.uint64pow10", Rows.laid_internal_strconv_uint64pow10)] := by kernel_rfl
  rw [e2] at h2
  exact Lib.tabBelow_of_tabIs (Lib.tabIs_of_head (rest := []) gPow gPowType Tryz.underlying285 Tryz.underlying257 cellsU cellsArr h2)
set_option maxRecDepth 100000 in
set_option maxHeartbeats 1600000 in
theorem walk (s : Sv) (w : World) (hs : s.okB w w.heap.size) (hbig : s.items.nodes ≤ 1048576) (hl : s.t.size + kz s.keys + s.items.letters ≤ 1048576) (hn2 : s.n2 ≤ 1048576) (ht : PowT w.heap.size w) :
    Calls Tryz.prog 4 #[s.val] w fun e w' => e = .returned (.bool true) ∧ Below w.heap.size w w' := by
  have H1 := Lib.hid (fun wX (hX : Behind s w wX) => routesTop_any s wX (hs.keep hX.old) hbig (by omega) (by omega) (fun w' h' => ht w' (hX.old.trans (h'.mono hX.old.size))))
  have H2 := Lib.hid (fun wX (hX : Behind s w wX) => routesOf_any s wX (hs.keep hX.old) hbig (by omega) (by omega) (fun w' h' => ht w' (hX.old.trans (h'.mono hX.old.size))))
  have hlen : (rtsL s).length ≤ 1099511627776 := by
    have h := routesV_len s.k s.items s.keys ⟨#[]⟩
    unfold rtsL
    split
    · simp
    · omega
  have HLEN := Lib.hid hlen
  generalize rtsL s = l at H1 H2 HLEN
  generalize confErr leS s.k s.bo s.i s.t s.items s.keys = x at H1 H2
  clear hs hbig hl hn2 ht hlen
  have HI := Lib.hid (Behind.start s w)
  obtain ⟨y0, y1, y2, y3, y4, y5⟩ := HI.out.cells
  unfold Sv.box at y0 y1 y2 y3 y4 y5
  unfold Sv.val
  go_enter Tryz.func4, Tryz.ntmps4
  go_wp2_with fail
  refine (H1.out _ HI.out).mono ?_
  rintro e w1 ⟨A1, c1, rfl, hr1, hb1⟩
  have HI1 := Lib.hid (HI.out.call hb1)
  have HR1 := Lib.hid hr1
  clear y0 y1 y2 y3 y4 y5 hb1 hr1
  obtain ⟨y0, y1, y2, y3, y4, y5⟩ := HI1.out.cells
  go_wp2_with fail
  refine (H2.out _ HI1.out).mono ?_
  rintro e w2 ⟨A2, c2, rfl, hr2, hb2⟩
  have HI2 := Lib.hid (HI1.out.call hb2)
  have HA := Lib.hid (alike_strs l A1 A2 c1 c2 _ _ w2 HLEN.out (row_below HR1.out hb2) hr2)
  clear y0 y1 y2 y3 y4 y5 hb2 hr2
  go_wp2_with fail
  refine HA.out.mono ?_
  rintro e w3 ⟨rfl, hb3⟩
  have HB := Lib.hid (HI2.out.call hb3).old
  clear hb3
  go_wp2_with fail
  go_ret
  exact ⟨rfl, HB.out⟩
set_option maxRecDepth 100000 in
theorem valTypes : ∃ f0 f1 f2 f3 f4 f5, ValTypes Tryz.prog 3 4 9 22 23 25 f0 f1 f2 f3 f4 f5 :=
  ⟨_, _, _, _, _, _, Tryz.underlying3, Tryz.underlying4, Tryz.underlying9, Tryz.underlying22, Tryz.underlying23, Tryz.underlying25, rfl, rfl, rfl, rfl, rfl, rfl, by kernel_rfl, by kernel_rfl, by kernel_rfl⟩
theorem bulky {H : Type} : Bulky (H := H) Rows.uptoBulk Rows.uptoBulkAll :=
  ⟨fun l => by simp [Rows.uptoBulk], fun e s => by simp [Rows.uptoBulk], fun p => by simp [Rows.uptoBulk], fun y r => by simp [Rows.uptoBulkAll]⟩

set_option maxRecDepth 100000 in
theorem contract (H : Type) (enc : TypeId × Value → H) (W : World) (base : Nat) (args : Array Value) (ds gs : List (DataW H)) (before : List MemPlace)
    (hval0 : ∀ (j : Nat) t v, Tryz.f4.params[j]? = some t → args[j]? = some v → Value.okWide Tryz.prog W .any base t v)
    (hW : DataW.Whole enc Tryz.prog Tryz.f4.params.toList Rows.confRoutesSpec.vars false W args.toList ds gs before) (hk : Rows.uptoSmall H (ds ++ gs) = true)
    (hL : laidMetH Tryz.prog Rows.confRoutesUptoRow.laid W) (hSh : W.ShapedOpen Tryz.prog) :
    Calls Tryz.prog 4 args W fun e W' => ∃ v, e = .returned v ∧ Rows.confRoutesSpec.post enc Tryz.prog Tryz.f4 false true false false W args v W' := by
  have hval : ∀ (j : Nat) t v, Tryz.f4.params[j]? = some t → args[j]? = some v → Value.okWide Tryz.prog W .any base t v := hval0
  have hW' := hW
  obtain ⟨p, q, hA0, hV, rfl, hfz, hnd⟩ := hW
  have hA : DataW.TrodAll enc Tryz.prog W 0 (fun _ => true) true Tryz.f4.params.toList args.toList ds p := hA0
  rw [Tryz.params4] at hA hval
  obtain ⟨v0, vs0, d0, ds0, p0, q0, hargs, rfl, rfl, h0, r0⟩ := trodAll_cons hA
  obtain ⟨rfl, rfl, rfl⟩ := trodAll_nil r0
  obtain rfl : args = #[v0] := by cases args; simp_all
  obtain ⟨rfl, rfl⟩ := trodVars_none hV
  obtain ⟨f0, f1, f2, f3, f4, f5, T⟩ := valTypes
  have k0 := h0
  have lt0 : ∀ x ∈ p0, x.block < W.heap.size := by obtain ⟨m, hm⟩ := k0; exact DataW.trod_lt m _ _ _ hm
  obtain ⟨k_0, bo_0, i_0, t_0, A1_0, n1_0, c1_0, A2_0, n2_0, c2_0, items_0, keys_0, rfl, hok0, hle0⟩ := open_val_trod T bulky (hval 0 25 v0 rfl rfl) k0 lt0
  have hsum : Rows.uptoBulk d0 ≤ 1048576 := by
    have h : Rows.uptoBulkAll ([d0] ++ []) ≤ 1048576 := of_decide_eq_true hk
    simp only [List.append_nil, Rows.uptoBulkAll] at h
    omega
  have hkz0 := kz_len keys_0
  have hks0 := hok0.ks.1
  clear hA0 hval0
  simp only [List.append_nil] at hW'
  refine (walk ⟨k_0, bo_0, i_0, t_0, A1_0, n1_0, c1_0, A2_0, n2_0, c2_0, items_0, keys_0⟩ W hok0 (by first | (dsimp only; omega) | omega) (by first | (dsimp only; omega) | omega) (by first | (dsimp only; omega) | omega) (table hL)).mono fun e W' ⟨he, bel⟩ => ?_
  subst he
  exact ⟨_, rfl, _, _, _, [], _, [], hW', trodAll_mk1 (shut_bool Tryz.underlying4 _), (trodAll_cons_mk (Below.trod laidOut (by kernel_rfl) (of_decide_eq_true (by kernel_rfl)) k0 bel lt0) trodAll_mk0), rfl, bel.frame _, fun h => by cases h⟩

/-- A world for the witness: the settled one, the tables as their initialisers lay them. -/
def tab (b : Nat) (cs : Array Value) (h : Array Obj) : Array Obj := h.modify b fun
  | .cells _ t frozen => .cells cs t frozen
  | o => o
def ints (k : IntKind) (l : List Int) : Array Value := (l.map (Value.int k)).toArray
def accepts : List Int := [128, 191, 160, 191, 128, 159, 144, 191, 128, 143, 0, 0, 0, 0, 0, 0, 0, 0, 0, 0, 0, 0, 0, 0, 0, 0, 0, 0, 0, 0, 0, 0]
def nilVal : Value := .agg #[.int .i64 0, .bool false, .int .i64 0, .string .empty, .slice none 0 0, .slice none 0 0]
def de32 : List Int := [0, 1, 28, 2, 29, 14, 24, 3, 30, 22, 20, 15, 25, 17, 4, 8, 31, 27, 13, 23, 21, 19, 16, 7, 26, 12, 18, 6, 11, 5, 10, 9]
def de64 : List Int := [0, 1, 56, 2, 57, 49, 28, 3, 61, 58, 42, 50, 38, 29, 17, 4, 62, 47, 59, 36, 45, 43, 51, 22, 53, 39, 33, 30, 24, 18, 12, 5, 63, 55, 48, 27, 60, 41, 37, 16, 46, 35, 44, 21, 52, 32, 23, 11, 54, 26, 40, 15, 34, 20, 31, 10, 25, 14, 19, 9, 13, 8, 7, 6]
noncomputable def laidWorld (os : Os) : World :=
  { World.settled Tryz.prog os with heap := tab 6 (ints .u8 de32) (tab 7 (ints .u8 de64) (tab 5 (ints .u64 Lib.pow10Tab) (tab 4 (ints .u8 accepts) (tab 3 (ints .u8 (Go.Pinned.utf8FirstZ.map Int.ofNat)) (World.settled Tryz.prog os).heap)))) }
theorem laid_met (os : Os) : laidMet Tryz.prog Rows.confRoutesUptoRow.laid ((laidWorld os).forCall (fun _ _ => 0) ⟨#[], #[nilVal], []⟩).memory :=
  laidMet_of_run' 8 (by kernel_rfl) (by kernel_rfl)
theorem reads (os : Os) {H : Type} (enc : TypeId × Value → H) : ∃ places, DataW.whole enc Tryz.prog ((laidWorld os).forCall (fun _ _ => 0) ⟨#[], #[nilVal], []⟩).memory Tryz.f4.params.toList Rows.confRoutesSpec.vars false (#[nilVal] : Array Value).toList 8 = some ([.agg [.lit (.int .i64 0), .lit (.bool false), .lit (.int .i64 0), .lit (.string []), .nil, .nil]], [], places) :=
  ⟨[], by kernel_rfl⟩

set_option maxRecDepth 100000 in
theorem lifted (os : Os) (started : os.Started) (H : Type) (enc : TypeId × Value → H) (F : Stop.Interp) :
    ReturnsInHanded {} Tryz.checked os 4 .any ((Rows.OpenSpec.upto Rows.confRoutesSpec).preRow enc Tryz.prog Tryz.f4 Rows.confRoutesUptoRow.domain false Rows.confRoutesUptoRow.laid) (((Rows.OpenSpec.upto Rows.confRoutesSpec).at F).post enc Tryz.prog Tryz.f4 false true false false) := by
  obtain ⟨places, hx⟩ := reads os enc
  refine returnsInHanded_of_row (C := Tryz.checked) (s := Rows.OpenSpec.upto Rows.confRoutesSpec) own started (by kernel_rfl) Tryz.func4
    (witness_row_at (enc := enc) (C := Tryz.checked) (s := Rows.OpenSpec.upto Rows.confRoutesSpec) false (laidWorld os) #[nilVal] rfl (by kernel_rfl) (by kernel_rfl) (by kernel_rfl)
      (OpenSpec.preRow_of_cond (s := Rows.OpenSpec.upto Rows.confRoutesSpec) 8 hx (by kernel_rfl) (fun k hk => by cases hk; exact of_decide_eq_true rfl) (by kernel_rfl) (laid_met os))) ?_
  intro W base args ds gs before hval hW _ hk _ hL hSh _
  exact contract H enc W base args ds gs before hval hW (hk _ rfl) hL hSh

theorem said : Rows.ConfRoutesUptoSaid :=
  OpenClaim.holds_of_cond 4 Tryz.f4 rfl rfl rfl rfl rfl rfl rfl ⟨rfl, rfl, rfl, rfl, rfl⟩ rfl rfl rfl rfl rfl (by kernel_rfl) Tryz.func4 (by kernel_rfl)
    (of_decide_eq_true (by kernel_rfl)) (by unfold Func.isWrapper; first | (rw [if_pos (by decide +kernel)]; kernel_rfl) | (rw [if_neg (by decide +kernel)]; exact ⟨rfl, rfl⟩))
    (fun os started H enc _ F => by rw [OpenClaim.pre_eq_preRow]; exact lifted os started H enc F)
theorem plain (f : FuncId) (fn : Func) (hf : Tryz.pinned.checked.prog.funcNamed "masthead/mastlaw2.ConfRoutes" = some f) (hfn : Tryz.pinned.checked.prog.funcs[f]? = some fn) :
    true = Tryz.pinned.checked.prog.looks [] ∧ ∀ (j : Nat) t, fn.params[j]? = some t → Tryz.pinned.checked.prog.wantsStandIn t = false := by
  obtain rfl : f = 4 := Option.some.inj ((show Tryz.prog.funcNamed "masthead/mastlaw2.ConfRoutes" = some 4 by kernel_rfl).symm.trans hf) |>.symm
  obtain rfl : fn = Tryz.f4 := (Option.some.inj (Tryz.func4.symm.trans hfn)).symm
  refine ⟨by kernel_rfl, fun j t ht => ?_⟩
  rw [Tryz.params4] at ht
  have hm := Array.mem_of_getElem? ht
  simp at hm
  subst hm
  exact (show Tryz.prog.wantsStandIn 25 = false by kernel_rfl)
theorem proved : Rows.ConfRoutesUptoCardSaid :=
  Claim7.holds_tied_plain_at .later [] _ _ _ _ said (fun _ h => by cases h) (by kernel_rfl) (fun _ h => by cases h) confRoutesUpto_row_tie rfl ⟨rfl, rfl⟩ (by kernel_rfl) rfl plain (by kernel_rfl)
#print axioms proved
end Go.Proofs.YtohkdckllmmfhaaGreatDoor.confRoutesDone
