/- DERIVED. THE CARD TreeHidesUptoCardSaid: for every value and day of bulk at most 1048576 TreeHides returns true, and the arguments read afterwards as they read before. The variables of the library that the row lists are tied to the program's text. No condition of ours. -/
import Derived.Test.YtohkdckllmmfhaaDoorHiddenR
import Derived.Test.YtohkdckllmmfhaaDoorCards
import Derived.Test.YtohkdckllmmfhaaDoorTie
import Derived.ProofKit
import Derived.OpenShut
import Derived.ChangeOld
import Derived.JoinedCond
import Derived.Deep.DeepHandedRow
import Derived.ChangeMaps
import Derived.Stop.LaidErr
import Derived.Deep.RegionHeld3
namespace Go.Proofs.YtohkdckllmmfhaaDoor.treeHidesDone
open Go.ChangeShapes Go.WideShapes Go.ChangeAt Go.RowKit Go.Deep
set_option linter.unusedVariables false
theorem own : ownKnob Tryd.prog.godebug = none := by kernel_rfl
theorem laidOut : laidOutB Tryd.prog = true := by kernel_rfl
theorem ofKind_facts (q : Int) (p : Vals) (hq : q ≠ 0) : (Vals.ofKind q p).isSome = decide (p.kind = q) ∧ (p.kind = q → (Vals.ofKind q p).int = p.int) ∧ (Vals.ofKind q p).bool = (decide (p.kind = q) && p.bool) := by
  cases p with
  | nil =>
    have hq' : ¬ (0 : Int) = q := fun h => hq h.symm
    refine ⟨?_, fun h => rfl, ?_⟩ <;> simp [Vals.ofKind, Vals.isSome, Vals.kind, Vals.bool, hq']
  | cons k bo i t it ks r =>
    by_cases h : k = q
    · simp [Vals.ofKind, Vals.isSome, Vals.kind, Vals.bool, Vals.int, h]
    · simp [Vals.ofKind, Vals.isSome, Vals.kind, Vals.bool, Vals.int, h]
theorem hid_eq (d p da ex : Vals) (day : Int) :
    hidEnd (Vals.ofKind 1 d).bool (if (Vals.ofKind 4 p).isSome = true then Vals.ofKind 4 p else Vals.ofKind 4 da) (Vals.ofKind 4 ex) day = hidR d p da ex day := by
  obtain ⟨-, -, d3⟩ := ofKind_facts 1 d (by decide)
  obtain ⟨p1, p2, -⟩ := ofKind_facts 4 p (by decide)
  obtain ⟨a1, a2, -⟩ := ofKind_facts 4 da (by decide)
  obtain ⟨e1, e2, -⟩ := ofKind_facts 4 ex (by decide)
  have key : ∀ z : Vals, (Vals.ofKind 4 z).isSome = decide (z.kind = 4) → (z.kind = 4 → (Vals.ofKind 4 z).int = z.int) →
      ((Vals.ofKind 4 z).isSome && decide (day < (Vals.ofKind 4 z).int) || (Vals.ofKind 4 ex).isSome && decide ((Vals.ofKind 4 ex).int ≤ day)) = hidEndR z ex day := by
    intro z z1 z2
    unfold hidEndR
    rw [z1, e1]
    by_cases hz : z.kind = 4 <;> by_cases he : ex.kind = 4
    · rw [z2 hz, e2 he]; by_cases h : day < z.int <;> simp [hz, he, h]
    · rw [z2 hz]; by_cases h : day < z.int <;> simp [hz, he, h]
    · rw [e2 he]; simp [hz, he]
    · simp [hz, he]
  unfold hidEnd hidR
  rw [d3, p1]
  by_cases hd : d.kind = 1 ∧ d.bool = true
  · rw [if_pos hd]; simp [hd.1, hd.2]
  · rw [if_neg hd]
    have : (decide (d.kind = 1) && d.bool) = false := by
      cases hb : d.bool
      · simp
      · have : ¬ d.kind = 1 := fun h => hd ⟨h, hb⟩
        simp [this]
    rw [this, Bool.false_or]
    by_cases hp : p.kind = 4
    · rw [if_pos (by simpa using hp), if_pos hp]; exact key p p1 p2
    · rw [if_neg (by simpa using hp), if_neg hp]; exact key da a1 a2
theorem pick_none (k : Int) (items : Vals) (keys : List ByteArray) (day : Int) (hk : ¬ k = 6) : hidP (fun key q => Vals.ofKind q (pickK k items keys key)) day = false := by
  unfold hidP
  simp [pick_no hk, Vals.ofKind, Vals.isSome, Vals.bool]
/-- What both return. -/
def hidOut (s : Sv) (day : Int) : Bool := if confErr leS s.k s.bo s.i s.t s.items s.keys = 0 then hidP (fun key q => Vals.ofKind q (pickK s.k s.items s.keys key)) day else false
theorem hidden_any (s : Sv) (day : Int) (w : World) (hv : s.okB w w.heap.size) (hbig : s.items.nodes ≤ 1099511627776) (hl : s.items.letters ≤ 1099511627776) (hn2 : s.n2 ≤ 1099511627776) :
    Calls Tryd.prog 4 #[s.val, .int .i64 day] w fun e w' => e = .returned (.bool (hidOut s day)) ∧ Below w.heap.size w w' := by
  have hchk : ∀ wX, Behind s w wX → Calls Tryd.prog 6 #[s.val] wX fun e w' => e = .returned (.int .i64 (confErr leS s.k s.bo s.i s.t s.items s.keys)) ∧ Below wX.heap.size wX w' := fun wX hX =>
    confCheck_any s.k s.bo s.i s.t s.A1 s.n1 s.c1 s.A2 s.n2 s.c2 s.items s.keys wX (hv.keep hX.old) hbig hl hn2
  unfold hidOut
  by_cases h : confErr leS s.k s.bo s.i s.t s.items s.keys = 0
  · rw [if_pos h]
    rw [h] at hchk
    exact hidden_gen s day w _ ⟨hchk, fun key q wX hX => setting_any s key q wX (hv.keep hX.old) (good_conf h) hn2⟩
  · rw [if_neg h]
    exact hidden_bad s day w _ h hchk
theorem hiddenR_any (s : Sv) (day : Int) (w : World) (hv : s.okB w w.heap.size) (hbig : s.items.nodes ≤ 1099511627776) (hl : s.items.letters ≤ 1099511627776) (hn2 : s.n2 ≤ 1099511627776) :
    Calls Tryd.prog 5 #[s.val, .int .i64 day] w fun e w' => e = .returned (.bool (hidOut s day)) ∧ Below w.heap.size w w' := by
  have hchk : ∀ wX, Behind s w wX → Calls Tryd.prog 8 #[s.val] wX fun e w' => e = .returned (.int .i64 (confErr leS s.k s.bo s.i s.t s.items s.keys)) ∧ Below wX.heap.size wX w' := fun wX hX =>
    confCheckR_any s.k s.bo s.i s.t s.A1 s.n1 s.c1 s.A2 s.n2 s.c2 s.items s.keys wX (hv.keep hX.old) hbig hl hn2
  unfold hidOut
  by_cases h : confErr leS s.k s.bo s.i s.t s.items s.keys = 0
  · rw [if_pos h]
    rw [h] at hchk
    by_cases hk : s.k = 6
    · have e : hidP (fun key q => Vals.ofKind q (pickK s.k s.items s.keys key)) day = hidR (pickK s.k s.items s.keys kDraft) (pickK s.k s.items s.keys kPublish) (pickK s.k s.items s.keys kDate) (pickK s.k s.items s.keys kExpire) day := hid_eq _ _ _ _ _
      rw [e]
      exact hiddenR_gen s day w (pickK s.k s.items s.keys) hk ⟨hchk, fun key wX hX => has_any s key wX (hv.keep hX.old) (good_conf h) hn2⟩
    · rw [pick_none _ _ _ _ hk]
      exact hiddenR_no s day w hk hchk
  · rw [if_neg h]
    exact hiddenR_bad s day w _ h hchk
set_option maxRecDepth 100000 in
set_option maxHeartbeats 3200000 in
theorem walk (s : Sv) (day : Int) (w : World) (hv : s.okB w w.heap.size) (hbig : s.items.nodes ≤ 1099511627776) (hl : s.items.letters ≤ 1099511627776) (hn2 : s.n2 ≤ 1099511627776) :
    Calls Tryd.prog 3 #[s.val, .int .i64 day] w fun e w' => e = .returned (.bool true) ∧ Below w.heap.size w w' := by
  have h1 := fun wX (hX : Behind s w wX) => (hidden_any s day wX (hv.keep hX.old) hbig hl hn2).mono (R' := fun e w' => e = .returned (.bool (hidOut s day)) ∧ Behind s w w') (fun e w' h => ⟨h.1, hX.call h.2⟩)
  have h2 := fun wX (hX : Behind s w wX) => (hiddenR_any s day wX (hv.keep hX.old) hbig hl hn2).mono (R' := fun e w' => e = .returned (.bool (hidOut s day)) ∧ Behind s w w') (fun e w' h => ⟨h.1, hX.call h.2⟩)
  generalize hidOut s day = x at h1 h2
  have H1 := Lib.hid h1
  have H2 := Lib.hid h2
  clear hv hbig hl hn2 h1 h2
  have HI := Lib.hid (Behind.start s w)
  obtain ⟨k, bo, i, t, A1, n1, c1, A2, n2, c2, it, ks⟩ := s
  have HK := Lib.hid (fun wX (hX : Behind ⟨k, bo, i, t, A1, n1, c1, A2, n2, c2, it, ks⟩ w wX) => hX.cells)
  have h1 := fun wX (hX : Behind ⟨k, bo, i, t, A1, n1, c1, A2, n2, c2, it, ks⟩ w wX) => (H1.out wX hX).mono (fun e w' h => (⟨h.1, h.2, HK.out w' h.2⟩ : _ ∧ Behind _ w w' ∧ _))
  have h2 := fun wX (hX : Behind ⟨k, bo, i, t, A1, n1, c1, A2, n2, c2, it, ks⟩ w wX) => (H2.out wX hX).mono (fun e w' h => (⟨h.1, h.2, HK.out w' h.2⟩ : _ ∧ Behind _ w w' ∧ _))
  obtain ⟨y0, y1, y2, y3, y4, y5⟩ := HK.out _ HI.out
  clear H1 H2
  have H1 := Lib.hid h1
  have H2 := Lib.hid h2
  clear h1 h2
  dsimp only [Sv.box, Sv.val] at H1 H2 HI HK y0 y1 y2 y3 y4 y5
  unfold Sv.val
  dsimp only
  have hi := HI.out
  go_enter Tryd.func3, Tryd.ntmps3
  go_wp2_with fail
  go_region_held3 (fun w' => Behind ⟨k, bo, i, t, A1, n1, c1, A2, n2, c2, it, ks⟩ w w' ∧ w'.cell? ⟨w.heap.size, 0, none⟩ = some (.int .i64 k) ∧ w'.cell? ⟨w.heap.size, 1, none⟩ = some (.bool bo) ∧ w'.cell? ⟨w.heap.size, 2, none⟩ = some (.int .i64 i) ∧ w'.cell? ⟨w.heap.size, 3, none⟩ = some (.string t) ∧ w'.cell? ⟨w.heap.size, 4, none⟩ = some (.slice A1 n1 c1) ∧ w'.cell? ⟨w.heap.size, 5, none⟩ = some (.slice A2 n2 c2))
    (first
      | exact ⟨hi.drew, y0, y1, y2, y3, y4, y5⟩
      | exact ⟨hb2, z0, z1, z2, z3, z4, z5⟩)
    (first
      | (go_at_call 4; with_reducible refine Calls.mono (H1.out _ (by first | exact hi.drew | exact hb2)) ?_; rintro e w2 ⟨rfl, hb2, z0, z1, z2, z3, z4, z5⟩)
      | (go_at_call 5; with_reducible refine Calls.mono (H2.out _ (by first | exact hi.drew | exact hb2)) ?_; rintro e w2 ⟨rfl, hb2, z0, z1, z2, z3, z4, z5⟩))
  all_goals (go_wp2_with fail; go_ret; exact ⟨retB (by simp), hb2.old⟩)
set_option maxRecDepth 100000 in
theorem valTypes : ∃ f0 f1 f2 f3 f4 f5, ValTypes Tryd.prog 3 4 9 22 23 25 f0 f1 f2 f3 f4 f5 :=
  ⟨_, _, _, _, _, _, Tryd.underlying3, Tryd.underlying4, Tryd.underlying9, Tryd.underlying22, Tryd.underlying23, Tryd.underlying25, rfl, rfl, rfl, rfl, rfl, rfl, by kernel_rfl, by kernel_rfl, by kernel_rfl⟩
theorem bulky {H : Type} : Bulky (H := H) Rows.uptoBulk Rows.uptoBulkAll :=
  ⟨fun l => by simp [Rows.uptoBulk], fun e s => by simp [Rows.uptoBulk], fun p => by simp [Rows.uptoBulk], fun y r => by simp [Rows.uptoBulkAll]⟩

set_option maxRecDepth 100000 in
theorem contract (H : Type) (enc : TypeId × Value → H) (W : World) (base : Nat) (args : Array Value) (ds gs : List (DataW H)) (before : List MemPlace)
    (hval0 : ∀ (j : Nat) t v, Tryd.f3.params[j]? = some t → args[j]? = some v → Value.okWide Tryd.prog W .any base t v)
    (hW : DataW.Whole enc Tryd.prog Tryd.f3.params.toList Rows.treeHidesSpec.vars false W args.toList ds gs before) (hk : Rows.uptoSmall H (ds ++ gs) = true)
    :
    Calls Tryd.prog 3 args W fun e W' => ∃ v, e = .returned v ∧ Rows.treeHidesSpec.post enc Tryd.prog Tryd.f3 false true false false W args v W' := by
  have hval : ∀ (j : Nat) t v, Tryd.f3.params[j]? = some t → args[j]? = some v → Value.okWide Tryd.prog W .any base t v := hval0
  have hW' := hW
  obtain ⟨p, q, hA0, hV, rfl, hfz, hnd⟩ := hW
  have hA : DataW.TrodAll enc Tryd.prog W 0 (fun _ => true) true Tryd.f3.params.toList args.toList ds p := hA0
  rw [Tryd.params3] at hA hval
  obtain ⟨v0, vs0, d0, ds0, p0, q0, hargs, rfl, rfl, h0, r0⟩ := trodAll_cons hA
  obtain ⟨v1, vs1, d1, ds1, p1, q1, rfl, rfl, rfl, h1, r1⟩ := trodAll_cons r0
  obtain ⟨rfl, rfl, rfl⟩ := trodAll_nil r1
  obtain rfl : args = #[v0, v1] := by cases args; simp_all
  obtain ⟨rfl, rfl⟩ := trodVars_none hV
  obtain ⟨f0, f1, f2, f3, f4, f5, T⟩ := valTypes
  have k0 := h0
  have lt0 : ∀ x ∈ p0, x.block < W.heap.size := by obtain ⟨m, hm⟩ := k0; exact DataW.trod_lt m _ _ _ hm
  obtain ⟨k_0, bo_0, i_0, t_0, A1_0, n1_0, c1_0, A2_0, n2_0, c2_0, items_0, keys_0, rfl, hok0, hle0⟩ := open_val_trod T bulky (hval 0 25 v0 rfl rfl) k0 lt0
  obtain ⟨a1, rfl, rfl, rfl, w1⟩ := open_int Tryd.underlying3 (hval 1 3 v1 rfl rfl) h1
  have hsum : Rows.uptoBulk d0 ≤ 1048576 := by
    have h : Rows.uptoBulkAll ([d0, .lit (.int .i64 a1)] ++ []) ≤ 1048576 := of_decide_eq_true hk
    simp only [List.append_nil, Rows.uptoBulkAll] at h
    omega
  have hkz0 := kz_len keys_0
  have hks0 := hok0.ks.1
  clear hA0 hval0
  simp only [List.append_nil] at hW'
  refine (walk ⟨k_0, bo_0, i_0, t_0, A1_0, n1_0, c1_0, A2_0, n2_0, c2_0, items_0, keys_0⟩ a1 W hok0 (by first | (dsimp only; omega) | omega) (by first | (dsimp only; omega) | omega) (by first | (dsimp only; omega) | omega)).mono fun e W' ⟨he, bel⟩ => ?_
  subst he
  exact ⟨_, rfl, _, _, _, [], _, [], hW', trodAll_mk1 (shut_bool Tryd.underlying4 _), (trodAll_cons_mk (Below.trod laidOut (by kernel_rfl) (of_decide_eq_true (by kernel_rfl)) k0 bel lt0) (trodAll_cons_mk (shut_int Tryd.underlying3 w1) trodAll_mk0)), rfl, bel.frame _, fun h => by cases h⟩

/-- A world for the witness: the settled one, the tables as their initialisers lay them. -/
def tab (b : Nat) (cs : Array Value) (h : Array Obj) : Array Obj := h.modify b fun
  | .cells _ t frozen => .cells cs t frozen
  | o => o
def ints (k : IntKind) (l : List Int) : Array Value := (l.map (Value.int k)).toArray
def accepts : List Int := [128, 191, 160, 191, 128, 159, 144, 191, 128, 143, 0, 0, 0, 0, 0, 0, 0, 0, 0, 0, 0, 0, 0, 0, 0, 0, 0, 0, 0, 0, 0, 0]
def nilVal : Value := .agg #[.int .i64 0, .bool false, .int .i64 0, .string .empty, .slice none 0 0, .slice none 0 0]
noncomputable def laidWorld (os : Os) : World :=
  { World.settled Tryd.prog os with heap := tab 1 (ints .u8 accepts) (tab 0 (ints .u8 (Go.Pinned.utf8FirstZ.map Int.ofNat)) (World.settled Tryd.prog os).heap) }
theorem laid_met (os : Os) : laidMet Tryd.prog Rows.treeHidesUptoRow.laid ((laidWorld os).forCall (fun _ _ => 0) ⟨#[], #[nilVal, .int .i64 0], []⟩).memory :=
  laidMet_of_run' 8 (by kernel_rfl) (by kernel_rfl)
theorem reads (os : Os) {H : Type} (enc : TypeId × Value → H) : ∃ places, DataW.whole enc Tryd.prog ((laidWorld os).forCall (fun _ _ => 0) ⟨#[], #[nilVal, .int .i64 0], []⟩).memory Tryd.f3.params.toList Rows.treeHidesSpec.vars false (#[nilVal, .int .i64 0] : Array Value).toList 8 = some ([.agg [.lit (.int .i64 0), .lit (.bool false), .lit (.int .i64 0), .lit (.string []), .nil, .nil], .lit (.int .i64 0)], [], places) :=
  ⟨[], by kernel_rfl⟩

set_option maxRecDepth 100000 in
theorem lifted (os : Os) (started : os.Started) (H : Type) (enc : TypeId × Value → H) (F : Stop.Interp) :
    ReturnsInHanded {} Tryd.checked os 3 .any ((Rows.OpenSpec.upto Rows.treeHidesSpec).preRow enc Tryd.prog Tryd.f3 Rows.treeHidesUptoRow.domain false Rows.treeHidesUptoRow.laid) (((Rows.OpenSpec.upto Rows.treeHidesSpec).at F).post enc Tryd.prog Tryd.f3 false true false false) := by
  obtain ⟨places, hx⟩ := reads os enc
  refine returnsInHanded_of_row (C := Tryd.checked) (s := Rows.OpenSpec.upto Rows.treeHidesSpec) own started (by kernel_rfl) Tryd.func3
    (witness_row_at (enc := enc) (C := Tryd.checked) (s := Rows.OpenSpec.upto Rows.treeHidesSpec) false (laidWorld os) #[nilVal, .int .i64 0] rfl (by kernel_rfl) (by kernel_rfl) (by kernel_rfl)
      (OpenSpec.preRow_of_cond (s := Rows.OpenSpec.upto Rows.treeHidesSpec) 8 hx (by kernel_rfl) (fun k hk => by cases hk; exact of_decide_eq_true rfl) (by kernel_rfl) (laid_met os))) ?_
  intro W base args ds gs before hval hW _ hk _ hL _ _
  exact contract H enc W base args ds gs before hval hW (hk _ rfl)

theorem said : Rows.TreeHidesUptoSaid :=
  OpenClaim.holds_of_cond 3 Tryd.f3 rfl rfl rfl rfl rfl rfl rfl ⟨rfl, rfl, rfl, rfl, rfl⟩ rfl rfl rfl rfl rfl (by kernel_rfl) Tryd.func3 (by kernel_rfl)
    (of_decide_eq_true (by kernel_rfl)) (by unfold Func.isWrapper; first | (rw [if_pos (by decide +kernel)]; kernel_rfl) | (rw [if_neg (by decide +kernel)]; exact ⟨rfl, rfl⟩))
    (fun os started H enc _ F => by rw [OpenClaim.pre_eq_preRow]; exact lifted os started H enc F)
theorem plain (f : FuncId) (fn : Func) (hf : Tryd.pinned.checked.prog.funcNamed "masthead/mastlaw2.TreeHides" = some f) (hfn : Tryd.pinned.checked.prog.funcs[f]? = some fn) :
    false = Tryd.pinned.checked.prog.looks [] ∧ ∀ (j : Nat) t, fn.params[j]? = some t → Tryd.pinned.checked.prog.wantsStandIn t = false := by
  obtain rfl : f = 3 := Option.some.inj ((show Tryd.prog.funcNamed "masthead/mastlaw2.TreeHides" = some 3 by kernel_rfl).symm.trans hf) |>.symm
  obtain rfl : fn = Tryd.f3 := (Option.some.inj (Tryd.func3.symm.trans hfn)).symm
  refine ⟨by kernel_rfl, fun j t ht => ?_⟩
  rw [Tryd.params3] at ht
  have hm := Array.mem_of_getElem? ht
  simp at hm
  rcases hm with rfl | rfl
  · exact (show Tryd.prog.wantsStandIn 25 = false by kernel_rfl)
  · exact (show Tryd.prog.wantsStandIn 3 = false by kernel_rfl)
theorem proved : Rows.TreeHidesUptoCardSaid :=
  Claim7.holds_tied_plain_at .later [] _ _ _ _ said (fun _ h => by cases h) (by kernel_rfl) (fun _ h => by cases h) treeHidesUpto_row_tie rfl ⟨rfl, rfl⟩ (by kernel_rfl) rfl plain (by kernel_rfl)
#print axioms proved
end Go.Proofs.YtohkdckllmmfhaaDoor.treeHidesDone
