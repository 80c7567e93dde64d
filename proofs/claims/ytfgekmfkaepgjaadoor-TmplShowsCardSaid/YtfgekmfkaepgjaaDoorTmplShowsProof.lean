/- DERIVED. THE CARD TmplShowsCardSaid: for every value TmplShows returns true, and the argument reads afterwards as it read before. The three tables of the library that the row lists are tied to the program's text. No condition of ours. -/
import Derived.Test.YtfgekmfkaepgjaaDoorTShow
import Derived.Test.YtfgekmfkaepgjaaDoorVal
import Derived.Test.YtfgekmfkaepgjaaDoorConfKit
import Derived.Deep.RegionHeld3
import Derived.Test.YtfgekmfkaepgjaaDoorCards
import Derived.Test.YtfgekmfkaepgjaaDoorTie
import Derived.ProofKit
import Derived.OpenShut
import Derived.ChangeOld
import Derived.Deep.DeepHandedRow
import Derived.Lib.LaidTab
import Derived.Stop.LaidErr
namespace Go.Proofs.YtfgekmfkaepgjaaDoor.tmplShowsDone
open Go.ChangeShapes Go.WideShapes Go.ChangeAt Go.RowKit Go.Deep
set_option linter.unusedVariables false
theorem own : ownKnob Tryd.prog.godebug = none := by kernel_rfl
theorem laidOut : laidOutB Tryd.prog = true := by kernel_rfl
theorem gPow : Tryd.prog.globalNamed "internal/strconv.uint64pow10" = some 0 := by kernel_rfl
theorem gPowType : (Tryd.prog.globals[0]?).map (·.type) = some 76 := by kernel_rfl
theorem cellsArr : Tryd.prog.cellsOf 76 = 20 := by kernel_rfl
theorem cellsU : Tryd.prog.cellsOf 66 = 1 := by kernel_rfl
/-- What the row's list gives: the table of powers of ten. -/
theorem table {W : World} (h : laidMetH Tryd.prog Rows.tmplShowsRow.laid W) : PowTab W :=
  Lib.tabBelow_of_tabIs (Lib.tabIs_of_head (rest := []) gPow gPowType Tryd.underlying76 Tryd.underlying66 cellsU cellsArr (laidMet.tail (laidMet.tail h)))

theorem int64_of_wf {n : Int} (h : (Lit.int .i64 n).wf = true) : -9223372036854775808 ≤ n ∧ n ≤ 9223372036854775807 := by
  have h2 : (decide (-9223372036854775808 ≤ n) && decide (n ≤ 9223372036854775807)) = true := h
  simpa using h2
set_option maxRecDepth 100000 in
set_option maxHeartbeats 2000000 in
theorem walk (a : Top) (w : World) (hi : -9223372036854775808 ≤ a.i ∧ a.i ≤ 9223372036854775807) (hn : a.n1 ≤ maxLen) (ht : PowTab w) :
    Calls Tryd.prog 3 #[a.val] w fun e w' => e = .returned (.bool true) ∧ Below w.heap.size w w' := by
  obtain ⟨s, x, hs⟩ := showIs_any a
  have HB := fun (w1 : World) (h : Below (w.heap.size + 1) (w.alloc a.box) w1) => below_top h
  have HX := fun (w1 : World) (h : Below (w.heap.size + 1) (w.alloc a.box) w1) => top6 h
  have hb0 := Below.refl (w.heap.size + 1) (w.alloc a.box)
  have h1 := fun wX (hX : Below w.heap.size w wX) => show_any a s x wX hi hs (ht.on hX)
  have h2 := fun wX (hX : Below w.heap.size w wX) => shown_any a s x wX hi hs (ht.on hX)
  have h3 := fun wX => truthV_any a wX hn
  have h4 := fun wX => isTrue_any a wX hn
  generalize truthB a = tb at h3 h4
  obtain ⟨k, bo, i, t, A1, n1, c1, A2, n2, c2⟩ := a
  generalize hW2 : w.alloc (Top.box ⟨k, bo, i, t, A1, n1, c1, A2, n2, c2⟩) = W2 at HB HX hb0
  simp only [Top.box] at hW2
  simp only [Top.val] at h1 h2 h3 h4 ⊢
  simp only at HX
  have H1 := Lib.hid (fun wX (hX : Below (w.heap.size + 1) W2 wX) => (h1 wX (HB wX hX).1).mono (fun e w' h => (⟨h.1, hX.trans (h.2.mono (HB wX hX).2), HX _ (hX.trans (h.2.mono (HB wX hX).2))⟩ : _ ∧ Below (w.heap.size + 1) W2 w' ∧ _)))
  have H2 := Lib.hid (fun wX (hX : Below (w.heap.size + 1) W2 wX) => (h2 wX (HB wX hX).1).mono (fun e w' h => (⟨h.1, hX.trans (h.2.mono (HB wX hX).2), HX _ (hX.trans (h.2.mono (HB wX hX).2))⟩ : _ ∧ Below (w.heap.size + 1) W2 w' ∧ _)))
  have H3 := Lib.hid (fun wX (hX : Below (w.heap.size + 1) W2 wX) => (h3 wX).mono (fun e w' h => (⟨h.1, hX.trans (h.2.mono (HB wX hX).2), HX _ (hX.trans (h.2.mono (HB wX hX).2))⟩ : _ ∧ Below (w.heap.size + 1) W2 w' ∧ _)))
  have H4 := Lib.hid (fun wX (hX : Below (w.heap.size + 1) W2 wX) => (h4 wX).mono (fun e w' h => (⟨h.1, hX.trans (h.2.mono (HB wX hX).2), HX _ (hX.trans (h.2.mono (HB wX hX).2))⟩ : _ ∧ Below (w.heap.size + 1) W2 w' ∧ _)))
  have HBW := Lib.hid HB
  have hss : (s.toList == s.toList) = true := by simp
  obtain ⟨x0, x1, x2, x3, x4, x5⟩ := HX _ hb0
  clear HB HX h1 h2 h3 h4 hs ht hi hn
  go_enter Tryd.func3, Tryd.ntmps3
  go_wp2_with fail
  refine (H1.out _ hb0).mono ?_
  rintro e w1 ⟨rfl, hb1, x0, x1, x2, x3, x4, x5⟩
  go_wp2_with fail
  refine (H2.out _ hb1).mono ?_
  rintro e w2 ⟨rfl, hb2, x0, x1, x2, x3, x4, x5⟩
  go_wp2_with fail
  go_region_held3 (fun w' => Below (w.heap.size + 1) W2 w' ∧ w'.cell? ⟨w.heap.size, 0, none⟩ = some (.int .i64 k) ∧ w'.cell? ⟨w.heap.size, 1, none⟩ = some (.bool bo) ∧ w'.cell? ⟨w.heap.size, 2, none⟩ = some (.int .i64 i) ∧ w'.cell? ⟨w.heap.size, 3, none⟩ = some (.string t) ∧ w'.cell? ⟨w.heap.size, 4, none⟩ = some (.slice A1 n1 c1) ∧ w'.cell? ⟨w.heap.size, 5, none⟩ = some (.slice A2 n2 c2))
    (first
      | exact ⟨hb2.drew, x0, x1, x2, x3, x4, x5⟩
      | exact ⟨hb3, z0, z1, z2, z3, z4, z5⟩)
    (first
      | (go_at_call 7; with_reducible refine Calls.mono (H3.out _ (by first | exact hb2.drew | exact hb3)) ?_; rintro e w3 ⟨rfl, hb3, z0, z1, z2, z3, z4, z5⟩)
      | (go_at_call 8; with_reducible refine Calls.mono (H4.out _ (by first | exact hb2.drew | exact hb3)) ?_; rintro e w3 ⟨rfl, hb3, z0, z1, z2, z3, z4, z5⟩))
  all_goals
    go_wp2_with fail
    go_ret
    exact ⟨by simp, (HBW.out _ hb3).1⟩

set_option maxRecDepth 100000 in
theorem contract (H : Type) (enc : TypeId × Value → H) (W : World) (base : Nat) (args : Array Value) (ds gs : List (DataW H)) (before : List MemPlace)
    (hval : ∀ (j : Nat) t v, Tryd.f3.params[j]? = some t → args[j]? = some v → Value.okWide Tryd.prog W .any base t v)
    (hW : DataW.Whole enc Tryd.prog Tryd.f3.params.toList Rows.tmplShowsSpec.vars false W args.toList ds gs before) (hL : laidMetH Tryd.prog Rows.tmplShowsRow.laid W) :
    Calls Tryd.prog 3 args W fun e W' => ∃ v, e = .returned v ∧ Rows.tmplShowsSpec.post enc Tryd.prog Tryd.f3 false true false false W args v W' := by
  have hW' := hW
  obtain ⟨p, q, hA0, hV, rfl, hfz, hnd⟩ := hW
  have hA : DataW.TrodAll enc Tryd.prog W 0 (fun _ => true) true Tryd.f3.params.toList args.toList ds p := hA0
  rw [Tryd.params3] at hA hval
  obtain ⟨v0, vs0, d0, ds0, p0, q0, hargs, rfl, rfl, h0, r0⟩ := trodAll_cons hA
  obtain ⟨rfl, rfl, rfl⟩ := trodAll_nil r0
  obtain rfl : args = #[v0] := by cases args; simp_all
  obtain ⟨rfl, rfl⟩ := trodVars_none hV
  have k0 := h0
  have lt0 : ∀ x ∈ p0, x.block < W.heap.size := by obtain ⟨m, hm⟩ := k0; exact DataW.trod_lt m _ _ _ hm
  obtain ⟨f0, f1, f2, f3, f4, f5, T⟩ := valTypes
  obtain ⟨k, bo, i, t, A1, n1, c1, A2, n2, c2, items, keys, rfl, hok, hle⟩ := open_val_trod T (bulky Rows.uptoBulk Rows.uptoBulkAll (fun l => by simp [Rows.uptoBulk]) (fun e s => by simp [Rows.uptoBulk]) (fun p => by simp [Rows.uptoBulk]) (fun y r => by simp [Rows.uptoBulkAll])) (hval 0 25 v0 rfl rfl) k0 lt0
  have hi : -9223372036854775808 ≤ i ∧ i ≤ 9223372036854775807 := int64_of_wf hok.iwf
  clear hA0
  simp only [List.append_nil] at hW'
  refine (walk ⟨k, bo, i, t, A1, n1, c1, A2, n2, c2⟩ W hi (Nat.le_trans hok.nc1 hok.cm1) (table hL)).mono fun e W' ⟨he, bel⟩ => ?_
  subst he
  exact ⟨_, rfl, _, _, _, [], _, [], hW', trodAll_mk1 (shut_bool Tryd.underlying4 _), (trodAll_cons_mk (Below.trod laidOut (by kernel_rfl) (of_decide_eq_true (by kernel_rfl)) k0 bel lt0) trodAll_mk0), rfl, bel.frame _, fun h => by cases h⟩

/-- A world for the witness: the settled one, the three tables as their initialisers lay them. -/
def tab (b : Nat) (cs : Array Value) (h : Array Obj) : Array Obj := h.modify b fun
  | .cells _ t frozen => .cells cs t frozen
  | o => o
def ints (k : IntKind) (l : List Int) : Array Value := (l.map (Value.int k)).toArray
def de32 : List Int := [0, 1, 28, 2, 29, 14, 24, 3, 30, 22, 20, 15, 25, 17, 4, 8, 31, 27, 13, 23, 21, 19, 16, 7, 26, 12, 18, 6, 11, 5, 10, 9]
def de64 : List Int := [0, 1, 56, 2, 57, 49, 28, 3, 61, 58, 42, 50, 38, 29, 17, 4, 62, 47, 59, 36, 45, 43, 51, 22, 53, 39, 33, 30, 24, 18, 12, 5, 63, 55, 48, 27, 60, 41, 37, 16, 46, 35, 44, 21, 52, 32, 23, 11, 54, 26, 40, 15, 34, 20, 31, 10, 25, 14, 19, 9, 13, 8, 7, 6]
noncomputable def laidWorld (os : Os) : World :=
  { World.holding Tryd.prog os ⟨#[], #[], []⟩ with heap := tab 2 (ints .u8 de32) (tab 3 (ints .u8 de64) (tab 0 (ints .u64 Lib.pow10Tab) (World.holding Tryd.prog os ⟨#[], #[], []⟩).heap)) }
theorem laid_met (os : Os) : laidMet Tryd.prog Rows.tmplShowsRow.laid ((laidWorld os).forCall (fun _ _ => 0) ⟨#[], #[.agg #[.int .i64 0, .bool false, .int .i64 0, .string .empty, .slice none 0 0, .slice none 0 0]], []⟩).memory :=
  laidMet_of_run' 8 (by kernel_rfl) (by kernel_rfl)
theorem reads (os : Os) {H : Type} (enc : TypeId × Value → H) : ∃ places, DataW.whole enc Tryd.prog ((laidWorld os).forCall (fun _ _ => 0) ⟨#[], #[.agg #[.int .i64 0, .bool false, .int .i64 0, .string .empty, .slice none 0 0, .slice none 0 0]], []⟩).memory Tryd.f3.params.toList Rows.tmplShowsSpec.vars false #[Value.agg #[.int .i64 0, .bool false, .int .i64 0, .string .empty, .slice none 0 0, .slice none 0 0]].toList 8 = some ([.agg [.lit (.int .i64 0), .lit (.bool false), .lit (.int .i64 0), .lit (.string []), .nil, .nil]], [], places) :=
  ⟨[], by kernel_rfl⟩

set_option maxRecDepth 100000 in
theorem lifted (os : Os) (started : os.Started) (H : Type) (enc : TypeId × Value → H) (F : Stop.Interp) :
    ReturnsInHanded {} Tryd.checked os 3 .any ((OpenSpec.ofChange Rows.tmplShowsSpec).preRow enc Tryd.prog Tryd.f3 Rows.tmplShowsRow.domain false Rows.tmplShowsRow.laid) (((OpenSpec.ofChange Rows.tmplShowsSpec).at F).post enc Tryd.prog Tryd.f3 false true false false) := by
  obtain ⟨places, hx⟩ := reads os enc
  refine returnsInHanded_of_row (C := Tryd.checked) (s := OpenSpec.ofChange Rows.tmplShowsSpec) own started (by kernel_rfl) Tryd.func3
    (witness_row_at (enc := enc) (C := Tryd.checked) false (laidWorld os) #[.agg #[.int .i64 0, .bool false, .int .i64 0, .string .empty, .slice none 0 0, .slice none 0 0]] rfl (by kernel_rfl) (by kernel_rfl) (by kernel_rfl)
      (OpenSpec.preRow_of_cond 8 hx (by kernel_rfl) (fun k hk => by cases hk) (by kernel_rfl) (laid_met os))) ?_
  intro W base args ds gs before hval hW _ _ _ hL _ _
  exact contract H enc W base args ds gs before hval hW hL

theorem said : Rows.TmplShowsSaid :=
  OpenClaim.holds_of_cond 3 Tryd.f3 rfl rfl rfl rfl rfl rfl rfl ⟨rfl, rfl, rfl, rfl, rfl⟩ rfl rfl rfl rfl rfl (by kernel_rfl) Tryd.func3 (by kernel_rfl)
    (of_decide_eq_true (by kernel_rfl)) (by unfold Func.isWrapper; first | (rw [if_pos (by decide +kernel)]; kernel_rfl) | (rw [if_neg (by decide +kernel)]; exact ⟨rfl, rfl⟩))
    (fun os started H enc _ F => by rw [OpenClaim.pre_eq_preRow]; exact lifted os started H enc F)
theorem plain (f : FuncId) (fn : Func) (hf : Tryd.pinned.checked.prog.funcNamed "masthead/mastlaw1.TmplShows" = some f) (hfn : Tryd.pinned.checked.prog.funcs[f]? = some fn) :
    false = Tryd.pinned.checked.prog.looks [] ∧ ∀ (j : Nat) t, fn.params[j]? = some t → Tryd.pinned.checked.prog.wantsStandIn t = false := by
  obtain rfl : f = 3 := Option.some.inj ((show Tryd.prog.funcNamed "masthead/mastlaw1.TmplShows" = some 3 by kernel_rfl).symm.trans hf) |>.symm
  obtain rfl : fn = Tryd.f3 := (Option.some.inj (Tryd.func3.symm.trans hfn)).symm
  refine ⟨by kernel_rfl, fun j t ht => ?_⟩
  rw [Tryd.params3] at ht
  obtain rfl : t = 25 := by simpa using Array.mem_of_getElem? ht
  exact (show Tryd.prog.wantsStandIn 25 = false by kernel_rfl)
theorem proved : Rows.TmplShowsCardSaid :=
  Claim7.holds_tied_plain_at .later [] _ _ _ _ said (fun _ h => by cases h) (by kernel_rfl) (fun _ h => by cases h) tmplShows_row_tie rfl ⟨rfl, rfl⟩ (by kernel_rfl) rfl plain (by kernel_rfl)
#print axioms proved
end Go.Proofs.YtfgekmfkaepgjaaDoor.tmplShowsDone
