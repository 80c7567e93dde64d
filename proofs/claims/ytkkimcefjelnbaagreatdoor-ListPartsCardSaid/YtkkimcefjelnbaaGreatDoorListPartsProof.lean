/- DERIVED. THE CARD ListPartsCardSaid: for every two numbers ListParts returns true, and each argument reads afterwards as it read before. The variables that the row lists are tied to the program's text. No condition of ours. -/
import Derived.Test.YtkkimcefjelnbaaGreatDoorPartsLaw
import Derived.Test.YtkkimcefjelnbaaGreatDoorChecked
import Derived.Test.YtkkimcefjelnbaaGreatDoorRows
import Derived.Test.YtkkimcefjelnbaaGreatDoorCards
import Derived.Test.YtkkimcefjelnbaaGreatDoorTie
import Derived.ProofKit
import Derived.OpenShut
import Derived.ChangeOld
import Derived.JoinedCond
import Derived.Deep.DeepHandedRow
import Derived.Deep.DeepWitnessRowRef
import Derived.ChangeMaps
import Derived.Lib.LaidU8
import Derived.Lib.ItoaNum
import Derived.Stop.LaidErr
import Derived.LaidSub
namespace Go.Proofs.YtkkimcefjelnbaaGreatDoor.listPartsDone
open Go.ChangeShapes Go.WideShapes Go.ChangeAt Go.RowKit
set_option linter.unusedVariables false
theorem own : ownKnob Tryz.prog.godebug = none := by kernel_rfl
theorem laidOut : laidOutB Tryz.prog = true := by kernel_rfl
theorem gS : Tryz.prog.globalNamed "masthead/list.signs" = some 0 := by kernel_rfl
theorem yS : (Tryz.prog.globals[0]?).map (·.type) = some 31 := by kernel_rfl
theorem cS : Tryz.prog.cellsOf 9 = 1 := by kernel_rfl
/-- A variable that reads as a slice of strings, wherever the program: the slice, and its string at an index. -/
theorem strSlice_of_reads {P : Program} {w : World} {name : String} {g : Nat} {t e : TypeId} {l : List (List UInt8)} (hn : P.globalNamed name = some g) (hy : (P.globals[g]?).map (·.type) = some t)
    (ht : P.underlying t = some (.slice e)) (he : P.underlying e = some .string) (hc : P.cellsOf e = 1) (h : Lib.VarReads P w name (.slice (l.map fun x => .lit (.string x)) [])) (i : Nat) (hi : i < l.length) :
    ∃ (R o cap : Nat) (s : ByteArray), w.cell? ⟨g, 0, none⟩ = some (.slice (some ⟨R, o, none⟩) l.length cap) ∧ w.cell? ⟨R, o + i, none⟩ = some (.string s) ∧ s.data.toList = l[i]'hi := by
  obtain ⟨g', t', cs, fuel, p, hg, hty, hvar, hd⟩ := h
  obtain rfl := Option.some.inj (hn.symm.trans hg)
  obtain rfl := Option.some.inj (hy.symm.trans hty)
  rcases DataW.trod_slice ht hd with ⟨_, hx⟩ | ⟨a, len, cap, el, rs, m, rfl, hcs, hx, _, hlc, _, hel, helem, hsp, _⟩
  · cases hx
  have e0 := congrArg Prod.fst hx
  simp only [DataW.slice.injEq] at e0
  obtain ⟨eE, eR⟩ := e0
  have hlen : len = l.length := by
    have := congrArg List.length eE
    simp at this
    omega
  subst hlen
  have hcell : ∀ i (hi : i < l.length), ∃ s : ByteArray, w.cell? (a.add i) = some (.string s) ∧ s.data.toList = l[i]'hi := by
    intro i hi
    have h3 := helem i hi
    rw [hc] at h3
    obtain ⟨x, hb⟩ : ∃ x, el[i]? = some x := ⟨el[i]'(by omega), List.getElem?_eq_getElem (by omega)⟩
    rw [hb] at h3
    obtain ⟨ce, hce, hte⟩ := Option.bind_eq_some_iff.1 h3
    obtain ⟨s, hz, hbz, _⟩ := DataW.trod_string he hte
    have hb1 : x.1 = .lit (.string (l[i]'hi)) := by
      have := congrArg (·[i]?) eE
      simp [hb, hi] at this
      exact this.symm
    rw [hbz] at hb1
    simp only [DataW.lit.injEq, Lit.string.injEq] at hb1
    obtain ⟨_, _, hcc⟩ := World.cells?_some hce
    have h4 := hcc 0 (by omega)
    rw [hz] at h4
    simp only [Nat.mul_one] at h4
    have e1 : (a.add i).add 0 = a.add i := by simp [Addr.add]
    rw [e1] at h4
    exact ⟨s, h4, hb1⟩
  obtain ⟨R, o, sR⟩ := a
  obtain rfl : sR = none := by
    obtain ⟨s0, h00, -⟩ := hcell 0 (by omega)
    have : (Addr.add ⟨R, o, sR⟩ 0) = ⟨R, o, sR⟩ := by simp [Addr.add]
    rw [this] at h00
    exact Go.Proofs.cell_spot h00
  obtain ⟨s, h5, hb1⟩ := hcell i hi
  rw [Addr.add_lit] at h5
  refine ⟨R, o, cap, s, ?_, h5, hb1⟩
  rw [World.var?_cell hg hvar 0, ← Array.getElem?_toList, hcs]
  rfl
/-- What the row's list gives: the signs lie in memory. -/
theorem signs {W : World} (h : laidMetH Tryz.prog Rows.listPartsRow.laid W) : ∃ b o n c, LAw.Sg W b o n c := by
  have h0 : laidMet Tryz.prog Rows.listPartsRow.laid W := h
  have h1 : Lib.VarReads Tryz.prog W "masthead/list.signs" Rows.laid_masthead_list_signs := Lib.laidMet.reads h0 (List.Mem.tail _ (List.Mem.tail _ (List.Mem.tail _ (List.Mem.tail _ (List.Mem.tail _ (List.Mem.tail _ (List.Mem.head _)))))))
  obtain ⟨R, o, cap, s, h6, h5, h4⟩ := strSlice_of_reads (l := [[], [97, 110, 100], [111, 114], [110, 111, 116], [], [61], [33, 61], [60], [60, 61], [62], [62, 61], [104, 97, 115], [105, 110], [98, 101, 103, 105, 110, 115]]) gS yS Tryz.underlying31 Tryz.underlying9 cS h1 3 (by decide)
  obtain rfl : s = ⟨#[110, 111, 116]⟩ := by
    cases s with
    | mk d =>
      cases d
      simp at h4
      subst h4
      rfl
  exact ⟨R, o, _, cap, World.block_lt_of_cell? W _ h5, World.block_lt_of_cell? W _ h6, by decide, h6, h5⟩
set_option maxRecDepth 100000 in
theorem contract (H : Type) (enc : TypeId × Value → H) (W : World) (base : Nat) (args : Array Value) (ds gs : List (DataW H)) (before : List MemPlace)
    (hval0 : ∀ (j : Nat) t v, Tryz.f3.params[j]? = some t → args[j]? = some v → Value.okWide Tryz.prog W .any base t v)
    (hW : DataW.Whole enc Tryz.prog Tryz.f3.params.toList Rows.listPartsSpec.vars false W args.toList ds gs before)
    (hL : laidMetH Tryz.prog Rows.listPartsRow.laid W) (hSh : W.ShapedOpen Tryz.prog) :
    Calls Tryz.prog 3 args W fun e W' => ∃ v, e = .returned v ∧ Rows.listPartsSpec.post enc Tryz.prog Tryz.f3 false true false false W args v W' := by
  have hval : ∀ (j : Nat) t v, Tryz.f3.params[j]? = some t → args[j]? = some v → Value.okWide Tryz.prog W .any base t v := hval0
  have hW' := hW
  obtain ⟨p, q, hA0, hV, rfl, hfz, hnd⟩ := hW
  have hA : DataW.TrodAll enc Tryz.prog W 0 (fun _ => true) true Tryz.f3.params.toList args.toList ds p := hA0
  rw [Tryz.params3] at hA hval
  obtain ⟨v0, vs0, d0, ds0, p0, q0, hargs, rfl, rfl, h0, r0⟩ := trodAll_cons hA
  obtain ⟨v1, vs1, d1, ds1, p1, q1, rfl, rfl, rfl, h1, r1⟩ := trodAll_cons r0
  obtain ⟨rfl, rfl, rfl⟩ := trodAll_nil r1
  obtain rfl : args = #[v0, v1] := by cases args; simp_all
  obtain ⟨rfl, rfl⟩ := trodVars_none hV
  obtain ⟨a0, rfl, rfl, rfl, w0⟩ := open_int Tryz.underlying3 (hval 0 3 v0 rfl rfl) h0
  obtain ⟨a1, rfl, rfl, rfl, w1⟩ := open_int Tryz.underlying3 (hval 1 3 v1 rfl rfl) h1
  clear hA0 hval0
  simp only [List.append_nil] at hW'
  obtain ⟨b, o, n, c, hsg⟩ := signs hL
  refine (listParts_any b o n c a0 a1 W hsg).mono fun e W' ⟨he, bel⟩ => ?_
  subst he
  exact ⟨_, rfl, _, _, _, [], _, [], hW', trodAll_mk1 (shut_bool Tryz.underlying4 _), (trodAll_cons_mk (shut_int Tryz.underlying3 w0) (trodAll_cons_mk (shut_int Tryz.underlying3 w1) trodAll_mk0)), rfl, bel.frame _, fun h => by cases h⟩

/-- A world for the witness: the settled one, the tables as their initialisers lay them. -/
def tab (b : Nat) (cs : Array Value) (h : Array Obj) : Array Obj := h.modify b fun
  | .cells _ t frozen => .cells cs t frozen
  | o => o
def ints (k : IntKind) (l : List Int) : Array Value := (l.map (Value.int k)).toArray
def accepts : List Int := [128, 191, 160, 191, 128, 159, 144, 191, 128, 143, 0, 0, 0, 0, 0, 0, 0, 0, 0, 0, 0, 0, 0, 0, 0, 0, 0, 0, 0, 0, 0, 0]
def nilVal : Value := .agg #[.int .i64 0, .bool false, .int .i64 0, .string .empty, .slice none 0 0, .slice none 0 0]
def de32 : List Int := [0, 1, 28, 2, 29, 14, 24, 3, 30, 22, 20, 15, 25, 17, 4, 8, 31, 27, 13, 23, 21, 19, 16, 7, 26, 12, 18, 6, 11, 5, 10, 9]
def de64 : List Int := [0, 1, 56, 2, 57, 49, 28, 3, 61, 58, 42, 50, 38, 29, 17, 4, 62, 47, 59, 36, 45, 43, 51, 22, 53, 39, 33, 30, 24, 18, 12, 5, 63, 55, 48, 27, 60, 41, 37, 16, 46, 35, 44, 21, 52, 32, 23, 11, 54, 26, 40, 15, 34, 20, 31, 10, 25, 14, 19, 9, 13, 8, 7, 6]
def setVar (h : Array Obj) (g : Nat) (v : Value) : Array Obj := h.modify g fun
  | .cells _ t frozen => .cells #[v] t frozen
  | o => o
noncomputable def N (os : Os) : Nat := (World.settled Tryz.prog os).heap.size
def blocks : Input := ⟨#[.cells #[.string ⟨#[105, 110, 118, 97, 108, 105, 100, 32, 115, 121, 110, 116, 97, 120]⟩] 178, .cells #[.string ⟨#[118, 97, 108, 117, 101, 32, 111, 117, 116, 32, 111, 102, 32, 114, 97, 110, 103, 101]⟩] 178, .cells #[.string ⟨#[]⟩, .string ⟨#[97, 110, 100]⟩, .string ⟨#[111, 114]⟩, .string ⟨#[110, 111, 116]⟩, .string ⟨#[]⟩, .string ⟨#[61]⟩, .string ⟨#[33, 61]⟩, .string ⟨#[60]⟩, .string ⟨#[60, 61]⟩, .string ⟨#[62]⟩, .string ⟨#[62, 61]⟩, .string ⟨#[104, 97, 115]⟩, .string ⟨#[105, 110]⟩, .string ⟨#[98, 101, 103, 105, 110, 115]⟩] 9], #[], []⟩
noncomputable def laidWorld (os : Os) : World :=
  { World.holding Tryz.prog os blocks with heap := tab 7 (ints .u8 de32) (tab 8 (ints .u8 de64) (tab 6 (ints .u64 Lib.pow10Tab) (tab 5 (ints .u8 accepts) (tab 4 (ints .u8 (Go.Pinned.utf8FirstZ.map Int.ofNat))
      (setVar (setVar (setVar (World.holding Tryz.prog os blocks).heap 0 (.slice (some ⟨N os + 2, 0, none⟩) 14 14)) 2 (.iface 176 (.pointer (some ⟨N os, 0, none⟩)))) 3 (.iface 176 (.pointer (some ⟨N os + 1, 0, none⟩)))))))) }
theorem laid_met (os : Os) : laidMet Tryz.prog Rows.listPartsRow.laid ((laidWorld os).forCall (fun _ _ => 0) ⟨#[], #[.int .i64 0, .int .i64 0], []⟩).memory :=
  laidMet_of_run' 8 (by kernel_rfl) (by kernel_rfl)
theorem reads (os : Os) {H : Type} (enc : TypeId × Value → H) : ∃ places, DataW.whole enc Tryz.prog ((laidWorld os).forCall (fun _ _ => 0) ⟨#[], #[.int .i64 0, .int .i64 0], []⟩).memory Tryz.f3.params.toList Rows.listPartsSpec.vars false (#[.int .i64 0, .int .i64 0] : Array Value).toList 8 = some ([.lit (.int .i64 0), .lit (.int .i64 0)], [], places) :=
  ⟨[], by kernel_rfl⟩

set_option maxRecDepth 100000 in
theorem lifted (os : Os) (started : os.Started) (H : Type) (enc : TypeId × Value → H) (F : Stop.Interp) :
    ReturnsInHanded {} Tryz.checked os 3 .any ((OpenSpec.ofChange Rows.listPartsSpec).preRow enc Tryz.prog Tryz.f3 Rows.listPartsRow.domain false Rows.listPartsRow.laid) (((OpenSpec.ofChange Rows.listPartsSpec).at F).post enc Tryz.prog Tryz.f3 false true false false) := by
  obtain ⟨places, hx⟩ := reads os enc
  refine returnsInHanded_of_row (C := Tryz.checked) (s := OpenSpec.ofChange Rows.listPartsSpec) own started (by kernel_rfl) Tryz.func3
    (witness_row_atRef (enc := enc) (C := Tryz.checked) (s := OpenSpec.ofChange Rows.listPartsSpec) false (laidWorld os) #[.int .i64 0, .int .i64 0] rfl (by kernel_rfl) (by kernel_rfl) (by kernel_rfl)
      (OpenSpec.preRow_of_cond (s := OpenSpec.ofChange Rows.listPartsSpec) 8 hx (by kernel_rfl) (fun k hk => by cases hk) (by kernel_rfl) (laid_met os))) ?_
  intro W base args ds gs before hval hW _ hk _ hL hSh _
  exact contract H enc W base args ds gs before hval hW hL hSh

theorem said : Rows.ListPartsSaid :=
  OpenClaim.holds_of_cond 3 Tryz.f3 rfl rfl rfl rfl rfl rfl rfl ⟨rfl, rfl, rfl, rfl, rfl⟩ rfl rfl rfl rfl rfl (by kernel_rfl) Tryz.func3 (by kernel_rfl)
    (of_decide_eq_true (by kernel_rfl)) (by unfold Func.isWrapper; first | (rw [if_pos (by decide +kernel)]; kernel_rfl) | (rw [if_neg (by decide +kernel)]; exact ⟨rfl, rfl⟩))
    (fun os started H enc _ F => by rw [OpenClaim.pre_eq_preRow]; exact lifted os started H enc F)
theorem plain (f : FuncId) (fn : Func) (hf : Tryz.pinned.checked.prog.funcNamed "masthead/mastkeep2.ListParts" = some f) (hfn : Tryz.pinned.checked.prog.funcs[f]? = some fn) :
    true = Tryz.pinned.checked.prog.looks [] ∧ ∀ (j : Nat) t, fn.params[j]? = some t → Tryz.pinned.checked.prog.wantsStandIn t = false := by
  obtain rfl : f = 3 := Option.some.inj ((show Tryz.prog.funcNamed "masthead/mastkeep2.ListParts" = some 3 by kernel_rfl).symm.trans hf) |>.symm
  obtain rfl : fn = Tryz.f3 := (Option.some.inj (Tryz.func3.symm.trans hfn)).symm
  refine ⟨by kernel_rfl, fun j t ht => ?_⟩
  rw [Tryz.params3] at ht
  have hm := Array.mem_of_getElem? ht
  simp at hm
  subst hm
  exact (show Tryz.prog.wantsStandIn 3 = false by kernel_rfl)
theorem proved : Rows.ListPartsCardSaid :=
  Claim7.holds_tied_plain_at .later [] _ _ _ _ said (fun _ h => by cases h) (by kernel_rfl) (fun _ h => by cases h) listParts_row_tie rfl ⟨rfl, rfl⟩ (by kernel_rfl) rfl plain (by kernel_rfl)
#print axioms proved

end Go.Proofs.YtkkimcefjelnbaaGreatDoor.listPartsDone
