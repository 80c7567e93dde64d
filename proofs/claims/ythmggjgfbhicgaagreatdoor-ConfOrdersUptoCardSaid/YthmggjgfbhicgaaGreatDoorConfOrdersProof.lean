/- DERIVED. THE CARD ConfOrdersUptoCardSaid: for every three values that are together of bulk at most 1048576 ConfOrders returns true, and each argument reads afterwards as it read before. The variables of the library that the row lists are tied to the program's text. No condition of ours. -/
import Derived.Test.YthmggjgfbhicgaaGreatDoorConfOrdLaw
import Derived.Test.YthmggjgfbhicgaaGreatDoorConfKit
import Derived.Test.YthmggjgfbhicgaaGreatDoorChecked
import Derived.Test.YthmggjgfbhicgaaGreatDoorRows
import Derived.Test.YthmggjgfbhicgaaGreatDoorCards
import Derived.Test.YthmggjgfbhicgaaGreatDoorTie
import Derived.ProofKit
import Derived.OpenShut
import Derived.ChangeOld
import Derived.JoinedCond
import Derived.Deep.DeepHandedRow
import Derived.ChangeMaps
import Derived.Stop.LaidErr
namespace Go.Proofs.YthmggjgfbhicgaaGreatDoor.confOrdersDone
open Go.ChangeShapes Go.WideShapes Go.ChangeAt Go.RowKit Go.Deep
set_option linter.unusedVariables false
theorem own : ownKnob Tryz.prog.godebug = none := by kernel_rfl
theorem laidOut : laidOutB Tryz.prog = true := by kernel_rfl

set_option maxRecDepth 100000 in
theorem contract (H : Type) (enc : TypeId × Value → H) (W : World) (base : Nat) (args : Array Value) (ds gs : List (DataW H)) (before : List MemPlace)
    (hval0 : ∀ (j : Nat) t v, Tryz.f3.params[j]? = some t → args[j]? = some v → Value.okWide Tryz.prog W .any base t v)
    (hW : DataW.Whole enc Tryz.prog Tryz.f3.params.toList Rows.confOrdersSpec.vars false W args.toList ds gs before) (hk : Rows.uptoSmall H (ds ++ gs) = true) :
    Calls Tryz.prog 3 args W fun e W' => ∃ v, e = .returned v ∧ Rows.confOrdersSpec.post enc Tryz.prog Tryz.f3 false true false false W args v W' := by
  have hval : ∀ (j : Nat) t v, Tryz.f3.params[j]? = some t → args[j]? = some v → Value.okWide Tryz.prog W .any base t v := hval0
  have hW' := hW
  obtain ⟨p, q, hA0, hV, rfl, hfz, hnd⟩ := hW
  have hA : DataW.TrodAll enc Tryz.prog W 0 (fun _ => true) true Tryz.f3.params.toList args.toList ds p := hA0
  rw [Tryz.params3] at hA hval
  obtain ⟨v0, vs0, d0, ds0, p0, q0, hargs, rfl, rfl, h0, r0⟩ := trodAll_cons hA
  obtain ⟨v1, vs1, d1, ds1, p1, q1, rfl, rfl, rfl, h1, r1⟩ := trodAll_cons r0
  obtain ⟨v2, vs2, d2, ds2, p2, q2, rfl, rfl, rfl, h2, r2⟩ := trodAll_cons r1
  obtain ⟨rfl, rfl, rfl⟩ := trodAll_nil r2
  obtain rfl : args = #[v0, v1, v2] := by cases args; simp_all
  obtain ⟨rfl, rfl⟩ := trodVars_none hV
  have k0 := h0
  have k1 := h1
  have k2 := h2
  have lt0 : ∀ x ∈ p0, x.block < W.heap.size := by obtain ⟨m, hm⟩ := k0; exact DataW.trod_lt m _ _ _ hm
  have lt1 : ∀ x ∈ p1, x.block < W.heap.size := by obtain ⟨m, hm⟩ := k1; exact DataW.trod_lt m _ _ _ hm
  have lt2 : ∀ x ∈ p2, x.block < W.heap.size := by obtain ⟨m, hm⟩ := k2; exact DataW.trod_lt m _ _ _ hm
  obtain ⟨f0, f1, f2, f3, f4, f5, T⟩ := valTypes
  have bk := bulky (H := H) Rows.uptoBulk Rows.uptoBulkAll (fun l => by simp [Rows.uptoBulk]) (fun e s => by simp [Rows.uptoBulk]) (fun p => by simp [Rows.uptoBulk]) (fun y r => by simp [Rows.uptoBulkAll])
  obtain ⟨ka, boa, ia, ta, A1a, n1a, c1a, A2a, n2a, c2a, ita, ksa, rfl, hoka, hlea⟩ := open_val_trod T bk (hval 0 25 v0 rfl rfl) k0 lt0
  obtain ⟨kb, bob, ib, tb, A1b, n1b, c1b, A2b, n2b, c2b, itb, ksb, rfl, hokb, hleb⟩ := open_val_trod T bk (hval 1 25 v1 rfl rfl) k1 lt1
  obtain ⟨kc, boc, ic, tc, A1c, n1c, c1c, A2c, n2c, c2c, itc, ksc, rfl, hokc, hlec⟩ := open_val_trod T bk (hval 2 25 v2 rfl rfl) k2 lt2
  have hsum : Rows.uptoBulk d0 + Rows.uptoBulk d1 + Rows.uptoBulk d2 ≤ 1048576 := by
    have h : Rows.uptoBulkAll ([d0, d1, d2] ++ []) ≤ 1048576 := of_decide_eq_true hk
    simp only [List.append_nil, Rows.uptoBulkAll] at h
    omega
  clear hA0 hval0
  simp only [List.append_nil] at hW'
  refine (confOrders_any ⟨ka, boa, ia, ta, A1a, n1a, c1a, A2a, n2a, c2a, ita, ksa⟩ ⟨kb, bob, ib, tb, A1b, n1b, c1b, A2b, n2b, c2b, itb, ksb⟩ ⟨kc, boc, ic, tc, A1c, n1c, c1c, A2c, n2c, c2c, itc, ksc⟩ W
    ⟨hoka, by simp only; omega, by simp only; omega⟩ ⟨hokb, by simp only; omega, by simp only; omega⟩ ⟨hokc, by simp only; omega, by simp only; omega⟩).mono fun e W' ⟨he, bel⟩ => ?_
  subst he
  exact ⟨_, rfl, _, _, _, [], _, [], hW', trodAll_mk1 (shut_bool Tryz.underlying4 _), (trodAll_cons_mk (Below.trod laidOut (by kernel_rfl) (of_decide_eq_true (by kernel_rfl)) k0 bel lt0) (trodAll_cons_mk (Below.trod laidOut (by kernel_rfl) (of_decide_eq_true (by kernel_rfl)) k1 bel lt1)
    (trodAll_cons_mk (Below.trod laidOut (by kernel_rfl) (of_decide_eq_true (by kernel_rfl)) k2 bel lt2) trodAll_mk0))), rfl, bel.frame _, fun h => by cases h⟩

/-- A world for the witness: the settled one, the three tables as their initialisers lay them. -/
def tab (b : Nat) (cs : Array Value) (h : Array Obj) : Array Obj := h.modify b fun
  | .cells _ t frozen => .cells cs t frozen
  | o => o
def ints (k : IntKind) (l : List Int) : Array Value := (l.map (Value.int k)).toArray
def de32 : List Int := [0, 1, 28, 2, 29, 14, 24, 3, 30, 22, 20, 15, 25, 17, 4, 8, 31, 27, 13, 23, 21, 19, 16, 7, 26, 12, 18, 6, 11, 5, 10, 9]
def de64 : List Int := [0, 1, 56, 2, 57, 49, 28, 3, 61, 58, 42, 50, 38, 29, 17, 4, 62, 47, 59, 36, 45, 43, 51, 22, 53, 39, 33, 30, 24, 18, 12, 5, 63, 55, 48, 27, 60, 41, 37, 16, 46, 35, 44, 21, 52, 32, 23, 11, 54, 26, 40, 15, 34, 20, 31, 10, 25, 14, 19, 9, 13, 8, 7, 6]
def setVar (h : Array Obj) (g : Nat) (v : Value) : Array Obj := h.modify g fun
  | .cells _ t frozen => .cells #[v] t frozen
  | o => o
def nilVal : Value := .agg #[.int .i64 0, .bool false, .int .i64 0, .string .empty, .slice none 0 0, .slice none 0 0]
noncomputable abbrev N (os : Os) : Nat := (World.settled Tryz.prog os).heap.size
def blocks : Input := ⟨#[.cells #[.string ⟨#[105, 110, 118, 97, 108, 105, 100, 32, 115, 121, 110, 116, 97, 120]⟩] 117, .cells #[.string ⟨#[118, 97, 108, 117, 101, 32, 111, 117, 116, 32, 111, 102, 32, 114, 97, 110, 103, 101]⟩] 117], #[], []⟩
noncomputable def laidWorld (os : Os) : World :=
  { World.holding Tryz.prog os blocks with heap := tab 4 (ints .u8 de32) (tab 5 (ints .u8 de64) (tab 3 (ints .u64 Lib.pow10Tab) 
      (setVar (setVar (World.holding Tryz.prog os blocks).heap 1 (.iface 115 (.pointer (some ⟨N os, 0, none⟩)))) 2 (.iface 115 (.pointer (some ⟨N os + 1, 0, none⟩)))))) }
theorem laid_met (os : Os) : laidMet Tryz.prog Rows.confOrdersUptoRow.laid ((laidWorld os).forCall (fun _ _ => 0) ⟨#[], #[nilVal, nilVal, nilVal], []⟩).memory :=
  laidMet_of_run' 8 (by kernel_rfl) (by kernel_rfl)
theorem reads (os : Os) {H : Type} (enc : TypeId × Value → H) : ∃ places, DataW.whole enc Tryz.prog ((laidWorld os).forCall (fun _ _ => 0) ⟨#[], #[nilVal, nilVal, nilVal], []⟩).memory Tryz.f3.params.toList Rows.confOrdersSpec.vars false #[nilVal, nilVal, nilVal].toList 8 = some ([.agg [.lit (.int .i64 0), .lit (.bool false), .lit (.int .i64 0), .lit (.string []), .nil, .nil], .agg [.lit (.int .i64 0), .lit (.bool false), .lit (.int .i64 0), .lit (.string []), .nil, .nil], .agg [.lit (.int .i64 0), .lit (.bool false), .lit (.int .i64 0), .lit (.string []), .nil, .nil]], [], places) :=
  ⟨[], by kernel_rfl⟩

set_option maxRecDepth 100000 in
theorem lifted (os : Os) (started : os.Started) (H : Type) (enc : TypeId × Value → H) (F : Stop.Interp) :
    ReturnsInHanded {} Tryz.checked os 3 .any ((Rows.OpenSpec.upto Rows.confOrdersSpec).preRow enc Tryz.prog Tryz.f3 Rows.confOrdersUptoRow.domain false Rows.confOrdersUptoRow.laid) (((Rows.OpenSpec.upto Rows.confOrdersSpec).at F).post enc Tryz.prog Tryz.f3 false true false false) := by
  obtain ⟨places, hx⟩ := reads os enc
  refine returnsInHanded_of_row (C := Tryz.checked) (s := Rows.OpenSpec.upto Rows.confOrdersSpec) own started (by kernel_rfl) Tryz.func3
    (witness_row_at (enc := enc) (C := Tryz.checked) (s := Rows.OpenSpec.upto Rows.confOrdersSpec) false (laidWorld os) #[nilVal, nilVal, nilVal] rfl (by kernel_rfl) (by kernel_rfl) (by kernel_rfl)
      (OpenSpec.preRow_of_cond (s := Rows.OpenSpec.upto Rows.confOrdersSpec) 8 hx (by kernel_rfl) (fun k hk => by cases hk; exact of_decide_eq_true rfl) (by kernel_rfl) (laid_met os))) ?_
  intro W base args ds gs before hval hW _ hk _ hL _ _
  exact contract H enc W base args ds gs before hval hW (hk _ rfl)

theorem said : Rows.ConfOrdersUptoSaid :=
  OpenClaim.holds_of_cond 3 Tryz.f3 rfl rfl rfl rfl rfl rfl rfl ⟨rfl, rfl, rfl, rfl, rfl⟩ rfl rfl rfl rfl rfl (by kernel_rfl) Tryz.func3 (by kernel_rfl)
    (of_decide_eq_true (by kernel_rfl)) (by unfold Func.isWrapper; first | (rw [if_pos (by decide +kernel)]; kernel_rfl) | (rw [if_neg (by decide +kernel)]; exact ⟨rfl, rfl⟩))
    (fun os started H enc _ F => by rw [OpenClaim.pre_eq_preRow]; exact lifted os started H enc F)
theorem plain (f : FuncId) (fn : Func) (hf : Tryz.pinned.checked.prog.funcNamed "masthead/mastkeep2.ConfOrders" = some f) (hfn : Tryz.pinned.checked.prog.funcs[f]? = some fn) :
    true = Tryz.pinned.checked.prog.looks [] ∧ ∀ (j : Nat) t, fn.params[j]? = some t → Tryz.pinned.checked.prog.wantsStandIn t = false := by
  obtain rfl : f = 3 := Option.some.inj ((show Tryz.prog.funcNamed "masthead/mastkeep2.ConfOrders" = some 3 by kernel_rfl).symm.trans hf) |>.symm
  obtain rfl : fn = Tryz.f3 := (Option.some.inj (Tryz.func3.symm.trans hfn)).symm
  refine ⟨by kernel_rfl, fun j t ht => ?_⟩
  rw [Tryz.params3] at ht
  obtain rfl : t = 25 := by simpa using Array.mem_of_getElem? ht
  exact (show Tryz.prog.wantsStandIn 25 = false by kernel_rfl)
theorem proved : Rows.ConfOrdersUptoCardSaid :=
  Claim7.holds_tied_plain_at .later [] _ _ _ _ said (fun _ h => by cases h) (by kernel_rfl) (fun _ h => by cases h) confOrdersUpto_row_tie rfl ⟨rfl, rfl⟩ (by kernel_rfl) rfl plain (by kernel_rfl)
#print axioms proved
end Go.Proofs.YthmggjgfbhicgaaGreatDoor.confOrdersDone
