/- DERIVED. THE CARD ListItemsUptoCardSaid: for every value of bulk at most 1048576 ListItems returns true, and the argument reads afterwards as it read before. The variables of the library that the row lists are tied to the program's text. No condition of ours. -/
import Derived.Test.YteckcanghnligaaDoorItemFault
import Derived.Test.YteckcanghnligaaDoorCards
import Derived.Test.YteckcanghnligaaDoorTie
import Derived.ProofKit
import Derived.OpenShut
import Derived.ChangeOld
import Derived.JoinedCond
import Derived.Deep.DeepHandedRow
import Derived.ChangeMaps
import Derived.Stop.LaidErr
namespace Go.Proofs.YteckcanghnligaaDoor.listItemsDone
open Go.ChangeShapes Go.WideShapes Go.ChangeAt Go.RowKit Go.Deep
set_option linter.unusedVariables false
theorem own : ownKnob Tryd.prog.godebug = none := by kernel_rfl
theorem laidOut : laidOutB Tryd.prog = true := by kernel_rfl
set_option maxRecDepth 100000 in
set_option maxHeartbeats 800000 in
theorem walk (k : Int) (bo : Bool) (i : Int) (t : ByteArray) (A1 : Option Addr) (n1 c1 : Nat) (A2 : Option Addr) (n2 c2 : Nat) (items : Vals) (keys : List ByteArray) (w : World)
    (hv : VOk w w.heap.size k i t A1 n1 c1 A2 n2 c2 items keys) (hbig : items.nodes ≤ 1099511627776) (hl : items.letters ≤ 1099511627776) (hn2 : n2 ≤ 1099511627776) :
    Calls Tryd.prog 3 #[.agg #[.int .i64 k, .bool bo, .int .i64 i, .string t, .slice A1 n1 c1, .slice A2 n2 c2]] w
      fun e w' => e = .returned (.bool true) ∧ Below w.heap.size w w' := by
  obtain ⟨x, hx⟩ : ∃ x, itemErr k bo i t items keys = x := ⟨_, rfl⟩
  have HX := Lib.hid (fun (w1 : World) (B : Nat) (hb : Below B (w.alloc (boxOf k bo i t A1 n1 c1 A2 n2 c2)) w1) (hB : w.heap.size < B) => box6 hb hB)
  have HB := fun (w1 : World) (hb : Below (w.heap.size + 1) (w.alloc (boxOf k bo i t A1 n1 c1 A2 n2 c2)) w1) => below_box hb
  have h1 := fun wX (hX : Below w.heap.size w wX) => checkItem_any k bo i t A1 n1 c1 A2 n2 c2 items keys wX ((hv.below hX).more hX.size) hbig hl hn2
  have h2 := fun wX (hX : Below w.heap.size w wX) => itemFault_any k bo i t A1 n1 c1 A2 n2 c2 items keys wX ((hv.below hX).more hX.size) hbig hl hn2
  rw [hx] at h1 h2
  have hb0 : Below (w.heap.size + 1) (w.alloc (boxOf k bo i t A1 n1 c1 A2 n2 c2)) (w.alloc (boxOf k bo i t A1 n1 c1 A2 n2 c2)) := Below.refl _ _
  generalize hW1 : w.alloc (boxOf k bo i t A1 n1 c1 A2 n2 c2) = W1 at HX HB hb0
  have H1 := Lib.hid (fun wX (hX : Below (w.heap.size + 1) W1 wX) => (h1 wX (HB wX hX).1).mono (R' := fun e w' => e = .returned (.int .i64 x) ∧ Below (w.heap.size + 1) W1 w' ∧ 
    (w'.cell? ⟨w.heap.size, 0, none⟩ = some (.int .i64 k) ∧ w'.cell? ⟨w.heap.size, 1, none⟩ = some (.bool bo) ∧ w'.cell? ⟨w.heap.size, 2, none⟩ = some (.int .i64 i) ∧
    w'.cell? ⟨w.heap.size, 3, none⟩ = some (.string t) ∧ w'.cell? ⟨w.heap.size, 4, none⟩ = some (.slice A1 n1 c1) ∧ w'.cell? ⟨w.heap.size, 5, none⟩ = some (.slice A2 n2 c2))) (fun e w' h => ⟨h.1, hX.trans (h.2.mono (HB wX hX).2), HX.out _ _ (hX.trans (h.2.mono (HB wX hX).2)) (by omega)⟩))
  have H2 := Lib.hid (fun wX (hX : Below (w.heap.size + 1) W1 wX) => (h2 wX (HB wX hX).1).mono (R' := fun e w' => e = .returned (.int .i64 x) ∧ Below (w.heap.size + 1) W1 w' ∧ 
    (w'.cell? ⟨w.heap.size, 0, none⟩ = some (.int .i64 k) ∧ w'.cell? ⟨w.heap.size, 1, none⟩ = some (.bool bo) ∧ w'.cell? ⟨w.heap.size, 2, none⟩ = some (.int .i64 i) ∧
    w'.cell? ⟨w.heap.size, 3, none⟩ = some (.string t) ∧ w'.cell? ⟨w.heap.size, 4, none⟩ = some (.slice A1 n1 c1) ∧ w'.cell? ⟨w.heap.size, 5, none⟩ = some (.slice A2 n2 c2))) (fun e w' h => ⟨h.1, hX.trans (h.2.mono (HB wX hX).2), HX.out _ _ (hX.trans (h.2.mono (HB wX hX).2)) (by omega)⟩))
  have HBW := Lib.hid HB
  clear hv hbig hl hn2 hx HB h1 h2
  unfold boxOf at hW1
  go_enter Tryd.func3, Tryd.ntmps3
  go_wp2_with fail
  have y := HX.out _ _ hb0 (by omega)
  obtain ⟨y0, y1, y2, y3, y4, y5⟩ := y
  go_region_with (first
    | (refine (H1.out _ (by first | exact hb0 | exact hb0.drew | assumption)).mono ?_; rintro e w2 ⟨rfl, hb2, z0, z1, z2, z3, z4, z5⟩)
    | (refine (H2.out _ (by first | assumption | exact hb0.drew)).mono ?_; rintro e w3 ⟨rfl, hb3, -⟩))
  all_goals (go_wp2_with fail; go_ret; exact ⟨retB (by simp), (HBW.out _ hb3).1⟩)

set_option maxRecDepth 100000 in
theorem valTypes : ∃ f0 f1 f2 f3 f4 f5, ValTypes Tryd.prog 3 4 9 22 23 25 f0 f1 f2 f3 f4 f5 :=
  ⟨_, _, _, _, _, _, Tryd.underlying3, Tryd.underlying4, Tryd.underlying9, Tryd.underlying22, Tryd.underlying23, Tryd.underlying25, rfl, rfl, rfl, rfl, rfl, rfl, by kernel_rfl, by kernel_rfl, by kernel_rfl⟩
theorem bulky {H : Type} : Bulky (H := H) Rows.uptoBulk Rows.uptoBulkAll :=
  ⟨fun l => by simp [Rows.uptoBulk], fun e s => by simp [Rows.uptoBulk], fun p => by simp [Rows.uptoBulk], fun y r => by simp [Rows.uptoBulkAll]⟩

set_option maxRecDepth 100000 in
theorem contract (H : Type) (enc : TypeId × Value → H) (W : World) (base : Nat) (args : Array Value) (ds gs : List (DataW H)) (before : List MemPlace)
    (hval0 : ∀ (j : Nat) t v, Tryd.f3.params[j]? = some t → args[j]? = some v → Value.okWide Tryd.prog W .any base t v)
    (hW : DataW.Whole enc Tryd.prog Tryd.f3.params.toList Rows.listItemsSpec.vars false W args.toList ds gs before) (hk : Rows.uptoSmall H (ds ++ gs) = true) :
    Calls Tryd.prog 3 args W fun e W' => ∃ v, e = .returned v ∧ Rows.listItemsSpec.post enc Tryd.prog Tryd.f3 false true false false W args v W' := by
  have hval : ∀ (j : Nat) t v, Tryd.f3.params[j]? = some t → args[j]? = some v → Value.okWide Tryd.prog W .any base t v := hval0
  have hW' := hW
  obtain ⟨p, q, hA0, hV, rfl, hfz, hnd⟩ := hW
  have hA : DataW.TrodAll enc Tryd.prog W 0 (fun _ => true) true Tryd.f3.params.toList args.toList ds p := hA0
  rw [Tryd.params3] at hA hval
  obtain ⟨v0, vs0, d0, ds0, p0, q0, hargs, rfl, rfl, h0, r0⟩ := trodAll_cons hA
  obtain ⟨rfl, rfl, rfl⟩ := trodAll_nil r0
  obtain rfl : args = #[v0] := by cases args; simp_all
  obtain ⟨rfl, rfl⟩ := trodVars_none hV
  have k0 := h0
  have lt0 : ∀ x ∈ p0, x.block < W.heap.size := by obtain ⟨m, hm⟩ := k0; exact DataW.trod_lt m _ _ _ hm
  obtain ⟨f0, f1, f2, f3, f4, f5, T⟩ := valTypes
  obtain ⟨k, bo, i, t, A1, n1, c1, A2, n2, c2, items, keys, rfl, hok, hle⟩ := open_val_trod T bulky (hval 0 25 v0 rfl rfl) k0 lt0
  have hsum : Rows.uptoBulk d0 ≤ 1048576 := by
    have h : Rows.uptoBulkAll ([d0] ++ []) ≤ 1048576 := of_decide_eq_true hk
    simp only [List.append_nil, Rows.uptoBulkAll] at h
    omega
  have hkz := kz_len keys
  have hks := hok.ks.1
  clear hA0 hval0
  simp only [List.append_nil] at hW'
  refine (walk k bo i t A1 n1 c1 A2 n2 c2 items keys W hok (by omega) (by omega) (by omega)).mono fun e W' ⟨he, bel⟩ => ?_
  subst he
  exact ⟨_, rfl, _, _, _, [], _, [], hW', trodAll_mk1 (shut_bool Tryd.underlying4 _), (trodAll_cons_mk (Below.trod laidOut (by kernel_rfl) (of_decide_eq_true (by kernel_rfl)) k0 bel lt0) trodAll_mk0), rfl, bel.frame _, fun h => by cases h⟩

/-- A world for the witness: the settled one, the tables as their initialisers lay them. -/
def tab (b : Nat) (cs : Array Value) (h : Array Obj) : Array Obj := h.modify b fun
  | .cells _ t frozen => .cells cs t frozen
  | o => o
def ints (k : IntKind) (l : List Int) : Array Value := (l.map (Value.int k)).toArray
def accepts : List Int := [128, 191, 160, 191, 128, 159, 144, 191, 128, 143, 0, 0, 0, 0, 0, 0, 0, 0, 0, 0, 0, 0, 0, 0, 0, 0, 0, 0, 0, 0, 0, 0]
def nilVal : Value := .agg #[.int .i64 0, .bool false, .int .i64 0, .string .empty, .slice none 0 0, .slice none 0 0]
noncomputable def laidWorld (os : Os) : World :=
  { World.settled Tryd.prog os with heap := tab 1 (ints .u8 accepts) (tab 0 (ints .u8 (Go.Pinned.utf8FirstZ.map Int.ofNat)) (World.settled Tryd.prog os).heap) }
theorem laid_met (os : Os) : laidMet Tryd.prog Rows.listItemsUptoRow.laid ((laidWorld os).forCall (fun _ _ => 0) ⟨#[], #[nilVal], []⟩).memory :=
  laidMet_of_run' 8 (by kernel_rfl) (by kernel_rfl)
theorem reads (os : Os) {H : Type} (enc : TypeId × Value → H) : ∃ places, DataW.whole enc Tryd.prog ((laidWorld os).forCall (fun _ _ => 0) ⟨#[], #[nilVal], []⟩).memory Tryd.f3.params.toList Rows.listItemsSpec.vars false #[nilVal].toList 8 = some ([.agg [.lit (.int .i64 0), .lit (.bool false), .lit (.int .i64 0), .lit (.string []), .nil, .nil]], [], places) :=
  ⟨[], by kernel_rfl⟩

set_option maxRecDepth 100000 in
theorem lifted (os : Os) (started : os.Started) (H : Type) (enc : TypeId × Value → H) (F : Stop.Interp) :
    ReturnsInHanded {} Tryd.checked os 3 .any ((Rows.OpenSpec.upto Rows.listItemsSpec).preRow enc Tryd.prog Tryd.f3 Rows.listItemsUptoRow.domain false Rows.listItemsUptoRow.laid) (((Rows.OpenSpec.upto Rows.listItemsSpec).at F).post enc Tryd.prog Tryd.f3 false true false false) := by
  obtain ⟨places, hx⟩ := reads os enc
  refine returnsInHanded_of_row (C := Tryd.checked) (s := Rows.OpenSpec.upto Rows.listItemsSpec) own started (by kernel_rfl) Tryd.func3
    (witness_row_at (enc := enc) (C := Tryd.checked) (s := Rows.OpenSpec.upto Rows.listItemsSpec) false (laidWorld os) #[nilVal] rfl (by kernel_rfl) (by kernel_rfl) (by kernel_rfl)
      (OpenSpec.preRow_of_cond (s := Rows.OpenSpec.upto Rows.listItemsSpec) 8 hx (by kernel_rfl) (fun k hk => by cases hk; exact of_decide_eq_true rfl) (by kernel_rfl) (laid_met os))) ?_
  intro W base args ds gs before hval hW _ hk _ hL _ _
  exact contract H enc W base args ds gs before hval hW (hk _ rfl)

theorem said : Rows.ListItemsUptoSaid :=
  OpenClaim.holds_of_cond 3 Tryd.f3 rfl rfl rfl rfl rfl rfl rfl ⟨rfl, rfl, rfl, rfl, rfl⟩ rfl rfl rfl rfl rfl (by kernel_rfl) Tryd.func3 (by kernel_rfl)
    (of_decide_eq_true (by kernel_rfl)) (by unfold Func.isWrapper; first | (rw [if_pos (by decide +kernel)]; kernel_rfl) | (rw [if_neg (by decide +kernel)]; exact ⟨rfl, rfl⟩))
    (fun os started H enc _ F => by rw [OpenClaim.pre_eq_preRow]; exact lifted os started H enc F)
theorem plain (f : FuncId) (fn : Func) (hf : Tryd.pinned.checked.prog.funcNamed "masthead/mastlaw2.ListItems" = some f) (hfn : Tryd.pinned.checked.prog.funcs[f]? = some fn) :
    false = Tryd.pinned.checked.prog.looks [] ∧ ∀ (j : Nat) t, fn.params[j]? = some t → Tryd.pinned.checked.prog.wantsStandIn t = false := by
  obtain rfl : f = 3 := Option.some.inj ((show Tryd.prog.funcNamed "masthead/mastlaw2.ListItems" = some 3 by kernel_rfl).symm.trans hf) |>.symm
  obtain rfl : fn = Tryd.f3 := (Option.some.inj (Tryd.func3.symm.trans hfn)).symm
  refine ⟨by kernel_rfl, fun j t ht => ?_⟩
  rw [Tryd.params3] at ht
  obtain rfl : t = 25 := by simpa using Array.mem_of_getElem? ht
  exact (show Tryd.prog.wantsStandIn 25 = false by kernel_rfl)
theorem proved : Rows.ListItemsUptoCardSaid :=
  Claim7.holds_tied_plain_at .later [] _ _ _ _ said (fun _ h => by cases h) (by kernel_rfl) (fun _ h => by cases h) listItemsUpto_row_tie rfl ⟨rfl, rfl⟩ (by kernel_rfl) rfl plain (by kernel_rfl)
#print axioms proved
end Go.Proofs.YteckcanghnligaaDoor.listItemsDone
