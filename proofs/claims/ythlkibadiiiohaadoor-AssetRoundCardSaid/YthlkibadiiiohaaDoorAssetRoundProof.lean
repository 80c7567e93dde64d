/- DERIVED. THE CARD AssetRoundCardSaid: for every path and body AssetRound returns true, and the arguments read afterwards as they read before. The variables of the library that the row lists are tied to the program's text. -/
import Derived.Test.YthlkibadiiiohaaDoorPlainW
import Derived.Test.YthlkibadiiiohaaDoorChecked
import Derived.Test.YthlkibadiiiohaaDoorCards
import Derived.Test.YthlkibadiiiohaaDoorTie
import Derived.ProofKit
import Derived.OpenShut
import Derived.ShutString
import Derived.ChangeOld
import Derived.JoinedCond
import Derived.Deep.DeepHandedRow
import Derived.ChangeMaps
import Derived.Lib.LaidTab
import Derived.Stop.LaidErr
import Derived.LaidSub
namespace Go.Proofs.YthlkibadiiiohaaDoor.assetRoundDone
open Go.ChangeMaps (open_string shut_string)
open Go.ChangeShapes Go.WideShapes Go.ChangeAt Go.RowKit
set_option linter.unusedVariables false
theorem own : ownKnob Tryd.prog.godebug = none := by kernel_rfl
theorem laidOut : laidOutB Tryd.prog = true := by kernel_rfl
theorem maxT {W : World} (h : W.ShapedOpen Tryd.prog) : MaxT W := by
  obtain ⟨m, hm⟩ := Tryd.laysM146.s1_3 W h
  exact ⟨World.block_lt_of_cell? W _ hm, m, hm⟩
theorem hasP (s : ByteArray) (h : s.size = 32) : Lib.hasPrefix s.data.toList (s.data.toList.take 12) = true := by
  unfold Lib.hasPrefix
  rw [List.isPrefixOf_iff_prefix]
  exact List.take_prefix _ _
set_option maxRecDepth 100000 in
set_option maxHeartbeats 3200000 in
theorem walk (p b : ByteArray) (w : World) (hp : p.size ≤ 140737488351232) (hb : b.size ≤ 140737488351232) (hm : MaxT w) :
    Calls Tryd.prog 3 #[.string p, .string b] w fun e w' => e = .returned (.bool true) ∧ Below w.heap.size w w' := by
  have HA := Lib.hid (fun wX => awake_any wX)
  have h1 := fun wX (hX : Below w.heap.size w wX) => finger_any p b wX (hm.below hX) (by omega)
  by_cases hE : fpE p b = 0
  · rw [show fpV p b = .tuple #[.string (fpN p b), .int .i64 0] by unfold fpV; rw [if_pos hE]] at h1
    have hpp : tpathB p = true := by
      unfold fpE at hE
      split at hE
      · omega
      · split at hE
        · omega
        · rename_i h; simpa using h
    have hnn : tpathB (fpN p b) = true := by
      unfold fpE at hE
      split at hE
      · omega
      · split at hE
        · omega
        · split at hE
          · omega
          · rename_i h; simpa using h
    have hns : (fpN p b).size ≤ 200 := by
      have h := hnn
      unfold tpathB at h
      rw [Bool.and_eq_true] at h
      exact of_decide_eq_true h.1
    have h2 := fun wX => plain_any (fpN p b) (by omega) wX
    rw [plO_name p b hpp] at h2
    have h3 := fun wX => digest_any b (by omega) wX
    have h4 := fun wX (hX : Below w.heap.size w wX) => checkPath_any (fpN p b) wX (hm.below hX)
    rw [hnn] at h4
    have hpre := hasP (digS b) (digS_size b)
    have hds := digS_size b
    have hdl := dg12_len b
    have hD : (⟨(dg12 b).toArray⟩ : ByteArray).data.toList = (digS b).data.toList.take 12 := rfl
    have hDs : (⟨(dg12 b).toArray⟩ : ByteArray).size = 12 := by show (dg12 b).toArray.size = 12; rw [List.size_toArray, hdl]
    rw [← hD] at hpre
    generalize (⟨(dg12 b).toArray⟩ : ByteArray) = D at h2 hpre hDs
    clear hD hdl
    generalize digS b = S at h3 hpre hds
    generalize fpN p b = N at h1 h2 h4
    have h5 := fun wX => Tryd.strings_HasPrefix S D wX
    have HF := Lib.hid h1
    have HP := Lib.hid h2
    have HD := Lib.hid h3
    have HC := Lib.hid h4
    have HH := Lib.hid h5
    clear h1 h2 h3 h4 h5 hE hpp hnn hns
    have q1 : (p.toList == p.toList) = true := by simp
    have q2 : (D.size : Int) = 12 := by omega
    have q3 : ((D.size : Int) == 12) = true := by simp [hDs]
    go_enter Tryd.func3, Tryd.ntmps3
    go_wp2_with fail
    refine (HA.out _).mono ?_
    rintro e w1 ⟨rfl, hb1⟩
    go_wp2_with fail
    refine (HF.out _ hb1).mono ?_
    rintro e w2 ⟨rfl, hb2⟩
    have hb12 := hb1.trans (hb2.mono hb1.size)
    clear hb2
    go_wp2_with fail
    refine (HP.out _).mono ?_
    rintro e w3 ⟨rfl, hb3⟩
    have hb13 := hb12.trans (hb3.mono hb12.size)
    clear hb3
    go_wp2_with fail
    refine (HD.out _).mono ?_
    rintro e w4 ⟨rfl, hb4⟩
    have hb14 := hb13.trans (hb4.mono hb13.size)
    clear hb4
    go_wp2_with fail
    refine (HH.out _).mono ?_
    rintro e w5 ⟨rfl, hw5⟩
    rw [hw5, hpre]
    clear hw5 w5
    dsimp only
    go_wp2_with fail
    refine (HC.out _ hb14).mono ?_
    rintro e w6 ⟨rfl, hb6⟩
    have hb16 := hb14.trans (hb6.mono hb14.size)
    clear hb6
    go_wp2_with fail
    go_ret
    exact ⟨by first | rfl | simp, hb16⟩
  · obtain ⟨E, hEE, hV⟩ : ∃ E : Int, E ≠ 0 ∧ fpV p b = .tuple #[.string ⟨#[]⟩, .int .i64 E] := ⟨_, hE, by unfold fpV; rw [if_neg hE]⟩
    rw [hV] at h1
    have HF := Lib.hid h1
    have q1 : ¬ E = 0 := hEE
    have q2 : (E == 0) = false := by simpa using hEE
    clear h1 hV hE hEE
    go_enter Tryd.func3, Tryd.ntmps3
    go_wp2_with fail
    refine (HA.out _).mono ?_
    rintro e w1 ⟨rfl, hb1⟩
    go_wp2_with fail
    refine (HF.out _ hb1).mono ?_
    rintro e w2 ⟨rfl, hb2⟩
    have hb12 := hb1.trans (hb2.mono hb1.size)
    clear hb2
    go_wp2_with fail
    go_ret
    exact ⟨by first | rfl | simp, hb12⟩
set_option maxRecDepth 100000 in
theorem contract (H : Type) (enc : TypeId × Value → H) (W : World) (base : Nat) (args : Array Value) (ds gs : List (DataW H)) (before : List MemPlace)
    (hval0 : ∀ (j : Nat) t v, Tryd.f3.params[j]? = some t → args[j]? = some v → Value.okWide Tryd.prog W .any base t v)
    (hW : DataW.Whole enc Tryd.prog Tryd.f3.params.toList Rows.assetRoundSpec.vars false W args.toList ds gs before) (hz : (DataW.weightsEach Tryd.prog (Tryd.f3.params.toList ++ (OpenSpec.ofChange Rows.assetRoundSpec).bare.plain.varTypes Tryd.prog) (ds ++ gs)).all (· ≤ reachBytes) = true)
    (hL : laidMetH Tryd.prog Rows.assetRoundRow.laid W) (hSh : W.ShapedOpen Tryd.prog) :
    Calls Tryd.prog 3 args W fun e W' => ∃ v, e = .returned v ∧ Rows.assetRoundSpec.post enc Tryd.prog Tryd.f3 false true false false W args v W' := by
  have hval : ∀ (j : Nat) t v, Tryd.f3.params[j]? = some t → args[j]? = some v → Value.okWide Tryd.prog W .any base t v := hval0
  have hW' := hW
  obtain ⟨p, q, hA0, hV, rfl, hfz, hnd⟩ := hW
  have hA : DataW.TrodAll enc Tryd.prog W 0 (fun _ => true) true Tryd.f3.params.toList args.toList ds p := hA0
  rw [Tryd.params3] at hA hval
  obtain ⟨v0, vs0, d0, ds0, p0, q0, hargs, rfl, rfl, h0, r0⟩ := trodAll_cons hA
  obtain ⟨v1, vs1, d1, ds1, p1, q1, rfl, rfl, rfl, h1, r1⟩ := trodAll_cons r0
  obtain ⟨rfl, rfl, rfl⟩ := trodAll_nil r1
  obtain rfl : args = #[v0, v1] := by cases args; simp_all
  obtain ⟨rfl, rfl⟩ := trodVars_none hV
  obtain ⟨s0, rfl, rfl, rfl, w0⟩ := open_string Tryd.underlying9 (hval 0 9 v0 rfl rfl) h0
  obtain ⟨s1, rfl, rfl, rfl, w1⟩ := open_string Tryd.underlying9 (hval 1 9 v1 rfl rfl) h1
  have hz' : (DataW.weightsEach Tryd.prog (Tryd.f3.params.toList ++ (OpenSpec.ofChange Rows.assetRoundSpec).bare.plain.varTypes Tryd.prog) ([.lit (.string s0.data.toList), .lit (.string s1.data.toList)] ++ [] : List (DataW H))).all (· ≤ reachBytes) = true := hz
  rw [Tryd.params3] at hz'
  have z0 : s0.data.toList.length ≤ reachBytes := of_decide_eq_true (List.all_eq_true.1 hz' _ (by simp [DataW.weightsEach, DataW.weights]))
  have z1 : s1.data.toList.length ≤ reachBytes := of_decide_eq_true (List.all_eq_true.1 hz' _ (by simp [DataW.weightsEach, DataW.weights]))
  simp only [Array.length_toList, reachBytes] at z0 z1
  clear hz hz'
  clear hA0 hval0
  simp only [List.append_nil] at hW'
  refine (walk s0 s1 W (by show s0.data.size ≤ _; omega) (by show s1.data.size ≤ _; omega) (maxT hSh)).mono fun e W' ⟨he, bel⟩ => ?_
  subst he
  exact ⟨_, rfl, _, _, _, [], _, [], hW', trodAll_mk1 (shut_bool Tryd.underlying4 _), (trodAll_cons_mk (shut_string Tryd.underlying9 w0) (trodAll_cons_mk (shut_string Tryd.underlying9 w1) trodAll_mk0)), rfl, bel.frame _, fun h => by cases h⟩

/-- A world for the witness: the settled one, the tables as their initialisers lay them. -/
def tab (b : Nat) (cs : Array Value) (h : Array Obj) : Array Obj := h.modify b fun
  | .cells _ t frozen => .cells cs t frozen
  | o => o
def ints (k : IntKind) (l : List Int) : Array Value := (l.map (Value.int k)).toArray
def accepts : List Int := [128, 191, 160, 191, 128, 159, 144, 191, 128, 143, 0, 0, 0, 0, 0, 0, 0, 0, 0, 0, 0, 0, 0, 0, 0, 0, 0, 0, 0, 0, 0, 0]
noncomputable def laidWorld (os : Os) : World :=
  { World.settled Tryd.prog os with heap := tab 5 (ints .u8 accepts) (tab 4 (ints .u8 (Go.Pinned.utf8FirstZ.map Int.ofNat)) (World.settled Tryd.prog os).heap) }
theorem laid_met (os : Os) : laidMet Tryd.prog Rows.assetRoundRow.laid ((laidWorld os).forCall (fun _ _ => 0) ⟨#[], #[.string .empty, .string .empty], []⟩).memory :=
  laidMet_of_run' 8 (by kernel_rfl) (by kernel_rfl)
theorem reads (os : Os) {H : Type} (enc : TypeId × Value → H) : ∃ places, DataW.whole enc Tryd.prog ((laidWorld os).forCall (fun _ _ => 0) ⟨#[], #[.string .empty, .string .empty], []⟩).memory Tryd.f3.params.toList Rows.assetRoundSpec.vars false (#[.string .empty, .string .empty] : Array Value).toList 8 = some ([.lit (.string []), .lit (.string [])], [], places) :=
  ⟨[], by kernel_rfl⟩

set_option maxRecDepth 100000 in
theorem lifted (os : Os) (started : os.Started) (H : Type) (enc : TypeId × Value → H) (F : Stop.Interp) :
    ReturnsInHanded {} Tryd.checked os 3 .any ((OpenSpec.ofChange Rows.assetRoundSpec).preRow enc Tryd.prog Tryd.f3 Rows.assetRoundRow.domain false Rows.assetRoundRow.laid) (((OpenSpec.ofChange Rows.assetRoundSpec).at F).post enc Tryd.prog Tryd.f3 false true false false) := by
  obtain ⟨places, hx⟩ := reads os enc
  refine returnsInHanded_of_row (C := Tryd.checked) (s := OpenSpec.ofChange Rows.assetRoundSpec) own started (by kernel_rfl) Tryd.func3
    (witness_row_at (enc := enc) (C := Tryd.checked) (s := OpenSpec.ofChange Rows.assetRoundSpec) false (laidWorld os) #[.string .empty, .string .empty] rfl (by kernel_rfl) (by kernel_rfl) (by kernel_rfl)
      (OpenSpec.preRow_of_cond (s := OpenSpec.ofChange Rows.assetRoundSpec) 8 hx (by kernel_rfl) (fun k hk => by cases hk) (by kernel_rfl) (laid_met os))) ?_
  intro W base args ds gs before hval hW _ _ hz hL hSh _
  exact contract H enc W base args ds gs before hval hW hz hL hSh

theorem said : Rows.AssetRoundSaid :=
  OpenClaim.holds_of_cond 3 Tryd.f3 rfl rfl rfl rfl rfl rfl rfl ⟨rfl, rfl, rfl, rfl, rfl⟩ rfl rfl rfl rfl rfl (by kernel_rfl) Tryd.func3 (by kernel_rfl)
    (of_decide_eq_true (by kernel_rfl)) (by unfold Func.isWrapper; first | (rw [if_pos (by decide +kernel)]; kernel_rfl) | (rw [if_neg (by decide +kernel)]; exact ⟨rfl, rfl⟩))
    (fun os started H enc _ F => by rw [OpenClaim.pre_eq_preRow]; exact lifted os started H enc F)
theorem plain (f : FuncId) (fn : Func) (hf : Tryd.pinned.checked.prog.funcNamed "masthead/mastkeep2.AssetRound" = some f) (hfn : Tryd.pinned.checked.prog.funcs[f]? = some fn) :
    true = Tryd.pinned.checked.prog.looks [] ∧ ∀ (j : Nat) t, fn.params[j]? = some t → Tryd.pinned.checked.prog.wantsStandIn t = false := by
  obtain rfl : f = 3 := Option.some.inj ((show Tryd.prog.funcNamed "masthead/mastkeep2.AssetRound" = some 3 by kernel_rfl).symm.trans hf) |>.symm
  obtain rfl : fn = Tryd.f3 := (Option.some.inj (Tryd.func3.symm.trans hfn)).symm
  refine ⟨by kernel_rfl, fun j t ht => ?_⟩
  rw [Tryd.params3] at ht
  have hm := Array.mem_of_getElem? ht
  simp at hm
  subst hm
  exact (show Tryd.prog.wantsStandIn 9 = false by kernel_rfl)
theorem proved : Rows.AssetRoundCardSaid :=
  Claim7.holds_tied_plain_at .later [] _ _ _ _ said (fun _ h => by cases h) (by kernel_rfl) (fun _ h => by cases h) assetRound_row_tie rfl ⟨rfl, rfl⟩ (by kernel_rfl) rfl plain (by kernel_rfl)
#print axioms proved
end Go.Proofs.YthlkibadiiiohaaDoor.assetRoundDone
