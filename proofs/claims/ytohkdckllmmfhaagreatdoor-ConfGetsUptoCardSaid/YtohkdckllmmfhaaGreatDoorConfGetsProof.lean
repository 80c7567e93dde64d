/- DERIVED. THE CARD ConfGetsUptoCardSaid: for every value and route of bulk at most 1048576 ConfGets returns true, and the arguments read afterwards as they read before. The variables of the library that the row lists are tied to the program's text. No condition of ours. -/
import Derived.Test.YtohkdckllmmfhaaGreatDoorGetR
import Derived.Test.YtohkdckllmmfhaaGreatDoorConfCmpR
import Derived.Test.YtohkdckllmmfhaaGreatDoorConfOrd
import Derived.Test.YtohkdckllmmfhaaGreatDoorCards
import Derived.Test.YtohkdckllmmfhaaGreatDoorTie
import Derived.ProofKit
import Derived.OpenShut
import Derived.ShutString
import Derived.ChangeOld
import Derived.JoinedCond
import Derived.Deep.DeepHandedRow
import Derived.ChangeMaps
import Derived.Stop.LaidErr
import Derived.LaidSub
import Derived.Deep.RegionHeld3
namespace Go.Proofs.YtohkdckllmmfhaaGreatDoor.confGetsDone
open Go.ChangeMaps (open_string shut_string)
open Go.ChangeShapes Go.WideShapes Go.ChangeAt Go.RowKit Go.Deep
set_option linter.unusedVariables false
theorem own : ownKnob Tryz.prog.godebug = none := by kernel_rfl
theorem laidOut : laidOutB Tryz.prog = true := by kernel_rfl
theorem svStay' {w1 w2 : World} {N : Nat} {o : Obj} (h : w1.heap[N]? = some o) (hb : Below w1.heap.size w1 w2) : w2.heap[N]? = some o := (hb.block _ (Array.getElem?_eq_some_iff.1 h).1).trans h
theorem svHere' {w1 : World} {N : Nat} {o : Obj} (h : w1.heap[N]? = some o) : N < w1.heap.size := (Array.getElem?_eq_some_iff.1 h).1
/-- What SameOf returns for two values that are the same. -/
theorem same_any (a b : Sv) (w : World) (ha : a.okB w w.heap.size) (hb : b.okB w w.heap.size) (hrow : a.row = b.row) (hn : a.items.nodes ≤ 1099511627776) (hl : a.items.letters ≤ 1099511627776) (hk : a.n2 ≤ 1099511627776) :
    Calls Tryz.prog 9 #[a.val, b.val] w fun e w' => e = .returned (.bool true) ∧ Below w.heap.size w w' := by
  obtain ⟨r1, r2, r3, r4, r5, r6⟩ := Sv.inj hrow
  have hk' : b.n2 ≤ 1099511627776 := by rw [hb.ks.1, ← r6, ← ha.ks.1]; exact hk
  have h0 : cOne a.k a.bo a.i a.t a.items a.keys b.k b.bo b.i b.t b.items b.keys = 0 := by rw [← r1, ← r2, ← r3, ← r4, ← r5, ← r6]; exact cOne_self ..
  have H1 := Lib.hid (fun wX (hX : Below w.heap.size w wX) => compareOf_any a.items.nodes a.k a.bo a.i a.t a.A1 a.n1 a.c1 a.A2 a.n2 a.c2 a.items a.keys b.k b.bo b.i b.t b.A1 b.n1 b.c1 b.A2 b.n2 b.c2 b.items b.keys wX (ha.keep hX) (hb.keep hX) (Nat.le_refl _) hn hl (by rw [← r5]; exact hn) (by rw [← r5]; exact hl) hk hk')
  rw [h0] at H1
  have HT := svTwo1 (Below.refl _ ((w.alloc a.box).alloc b.box))
  have HB := Lib.hid HT.1
  obtain ⟨y0, y1, y2, y3, y4, y5⟩ := svCells HT.2.2.1
  obtain ⟨z0, z1, z2, z3, z4, z5⟩ := svCells HT.2.2.2
  clear r1 r2 r3 r4 r5 r6 ha hb hrow hn hl hk hk' h0 HT
  unfold Sv.box at HB y0 y1 y2 y3 y4 y5 z0 z1 z2 z3 z4 z5
  unfold Sv.val
  go_enter Tryz.func9, Tryz.ntmps9
  go_wp2_with fail
  refine (H1.out _ HB.out).mono ?_
  rintro e w1 ⟨rfl, hb1⟩
  have HB1 := Lib.hid (HB.out.trans (hb1.mono HB.out.size))
  clear hb1 y0 y1 y2 y3 y4 y5 z0 z1 z2 z3 z4 z5
  go_wp2_with fail
  go_ret
  exact ⟨rfl, HB1.out⟩
theorem step_nodes (v : Vals) (p : ByteArray) : (stepV v p).nodes ≤ v.nodes := by
  cases v with
  | nil => exact Nat.le_refl _
  | cons k bo i t it ks r =>
    show (if 0 ≤ stepI k it ks p then it.one (stepI k it ks p).toNat else .nil : Vals).nodes ≤ _
    by_cases h0 : 0 ≤ stepI k it ks p
    · rw [if_pos h0]
      have := nodes_one (stepI k it ks p).toNat it
      simp only [Vals.nodes]
      omega
    · rw [if_neg h0]
      exact Nat.zero_le _
theorem follow_nodes : ∀ (l : List ByteArray) (v : Vals), (followV v l).nodes ≤ v.nodes
  | [], v => Nat.le_refl _
  | x :: r, v => Nat.le_trans (follow_nodes r (stepV v x)) (step_nodes v x)
theorem orZero_small (v : Vals) : v.orZero.nodes ≤ v.nodes + 1 ∧ v.orZero.letters ≤ v.letters := by
  cases v with
  | nil => exact ⟨by decide, by decide⟩
  | cons k bo i t it ks r => exact ⟨by simp only [Vals.orZero, Vals.nodes]; omega, by simp only [Vals.orZero, Vals.letters]; omega⟩
theorem getV_small (s : Sv) (r : ByteArray) : (getV s r).nodes ≤ s.items.nodes + 1 ∧ (getV s r).letters ≤ s.t.size + kz s.keys + s.items.letters := by
  have h1 : s.row.nodes = s.items.nodes + 1 := by simp [Sv.row, Vals.nodes]
  have h2 : s.row.letters = s.t.size + kz s.keys + s.items.letters := by simp [Sv.row, Vals.letters]
  have h3 := follow_nodes (routeL r) s.row
  have h4 := follow_letters (routeL r) s.row
  unfold getV
  split
  · exact ⟨Nat.zero_le _, Nat.zero_le _⟩
  · split
    · exact ⟨Nat.zero_le _, Nat.zero_le _⟩
    · omega
set_option maxRecDepth 100000 in
set_option maxHeartbeats 1600000 in
theorem walk (s : Sv) (r : ByteArray) (w : World) (hs : s.okB w w.heap.size) (hbig : s.items.nodes ≤ 1048576) (hl : s.t.size + kz s.keys + s.items.letters ≤ 1048576) (hn2 : s.n2 ≤ 1048576) (hr : r.size ≤ maxLen) (hm : MaxL w) (hv : ErrV w) :
    Calls Tryz.prog 3 #[s.val, .string r] w fun e w' => e = .returned (.bool true) ∧ Below w.heap.size w w' := by
  have H1 := Lib.hid (fun wX (hX : Behind s w wX) => get_any s r wX (hs.keep hX.old) (by omega) (by omega) (by omega) (hm.below hX.old) (hv.below hX.old))
  have H2 := Lib.hid (fun wX (hX : Behind s w wX) => getR_any s r wX (hs.keep hX.old) (by omega) (by omega) (by omega) (hm.below hX.old) (hv.below hX.old))
  have hg := getV_small s r
  have hz := orZero_small (getV s r)
  have HSM := Lib.hid (show (getV s r).orZero.nodes ≤ 1048578 ∧ (getV s r).orZero.letters ≤ 1048576 by omega)
  generalize getV s r = v at H1 H2 HSM
  generalize getE s r = x at H1 H2
  clear hs hbig hl hn2 hr hm hv hg hz
  have HI := Lib.hid (Behind.start s w)
  obtain ⟨y0, y1, y2, y3, y4, y5⟩ := HI.out.cells
  unfold Sv.box at y0 y1 y2 y3 y4 y5
  unfold Sv.val
  go_enter Tryz.func3, Tryz.ntmps3
  go_wp2_with fail
  refine (H1.out _ HI.out).mono ?_
  rintro e w1 ⟨a, rfl, hrow1, hok1, hb1⟩
  have HI1 := Lib.hid ((HI.out.call hb1).alloc a.box)
  have HA := Lib.hid (svNew w1 a)
  have HOA := Lib.hid (hok1.keep ((Below.refl _ _).alloc (Nat.le_refl _) a.box))
  have HR1 := Lib.hid hrow1
  clear y0 y1 y2 y3 y4 y5 hb1 hok1 hrow1
  obtain ⟨y0, y1, y2, y3, y4, y5⟩ := HI1.out.cells
  unfold Sv.box at y0 y1 y2 y3 y4 y5
  unfold Sv.val
  go_wp2_with fail
  refine (H2.out _ HI1.out).mono ?_
  rintro e w2 ⟨b, rfl, hrow2, hok2, hb2⟩
  have HI2 := Lib.hid ((HI1.out.call hb2).alloc b.box)
  have ha2 := (Below.heap_alloc w2 b.box w1.heap.size (Nat.lt_of_lt_of_le (svHere' HA.out) hb2.size)).trans (svStay' HA.out hb2)
  obtain ⟨z0, z1, z2, z3, z4, z5⟩ := svCells ha2
  obtain ⟨x0, x1, x2, x3, x4, x5⟩ := svCells (svNew w2 b)
  have hoa2 := HOA.out.keep (hb2.trans ((Below.refl _ _).alloc hb2.size b.box))
  have hob2 := hok2.keep ((Below.refl _ _).alloc (Nat.le_refl _) b.box)
  have hra : a.row = b.row := HR1.out.trans hrow2.symm
  have hra1 := HR1.out
  have hnl : a.items.nodes ≤ 1099511627776 ∧ a.items.letters ≤ 1099511627776 ∧ a.n2 ≤ 1099511627776 := by
    have g1 := HSM.out
    rw [← hra1] at g1
    simp only [Sv.row, Vals.nodes, Vals.letters] at g1
    have g2 := kz_len a.keys
    have g3 := HOA.out.ks.1
    omega
  have HSAME := Lib.hid (same_any a b _ hoa2 hob2 hra hnl.1 hnl.2.1 hnl.2.2)
  clear y0 y1 y2 y3 y4 y5 hb2 hok2 hrow2 ha2 hoa2 hob2 hra hra1 hnl
  unfold Sv.box at z0 z1 z2 z3 z4 z5 x0 x1 x2 x3 x4 x5
  unfold Sv.box Sv.val at HSAME
  unfold Sv.val
  go_wp2_with fail
  refine HSAME.out.mono ?_
  rintro e w3 ⟨rfl, hb3⟩
  have HBF := Lib.hid (HI2.out.call hb3).old
  clear hb3 z0 z1 z2 z3 z4 z5 x0 x1 x2 x3 x4 x5
  go_wp2_with fail
  go_ret
  exact ⟨rfl, HBF.out⟩
theorem maxL {W : World} (h : W.ShapedOpen Tryz.prog) : MaxL W := by
  obtain ⟨m, hm⟩ := Tryz.laysM146.s1_3 W h
  exact ⟨World.block_lt_of_cell? W _ hm, m, hm⟩
theorem laid_iface {P : Program} {n nm : String} {d : DataW Unit} {r : List (String × DataW Unit)} {W : World} {g : Nat} {ti : TypeId} {ms : Array (String × TypeId)}
    (h : laidMet P ((n, .iface nm d) :: r) W) (hg : P.globalNamed n = some g) (ht : (P.globals[g]?).map (·.type) = some ti) (hi : P.underlying ti = some (.interface ms)) : ∃ u v, W.cell? ⟨g, 0, none⟩ = some (.iface u v) := by
  obtain ⟨ps, ⟨g0, t0, cs0, f0, p0, q0, hg0, ht0, hv0, hd0, _, e0⟩, _, hrows⟩ := h
  obtain rfl := Option.some.inj (hg.symm.trans hg0)
  obtain rfl := Option.some.inj (ht.symm.trans ht0)
  obtain ⟨l0⟩ := cs0
  obtain ⟨f1, u, v, rfl, _, _⟩ := iface_of_trod hi hd0
  exact ⟨u, v, by simpa using World.var?_cell hg0 hv0 0⟩
theorem errV {W : World} (h : laidMetH Tryz.prog Rows.confGetsUptoRow.laid W) : ErrV W := by
  have h1 := laidMetH.filter (fun x => x.1 == "strconv.ErrSyntax") h
  have e1 : Rows.confGetsUptoRow.laid.filter (fun x => x.1 == "strconv.ErrSyntax") = [("strconv.ErrSyntax", Rows.laid_strconv_ErrSyntax)] := by kernel_rfl
  rw [e1] at h1
  have h2 := (laidMetH_iff.1 h1).1
  have e2 : ([("strconv.ErrSyntax", Rows.laid_strconv_ErrSyntax)] : List (String × DataW Unit)).filter (fun x => x.2.handleName?.isNone) = [("strconv.ErrSyntax", Rows.laid_strconv_ErrSyntax)] := by kernel_rfl
  rw [e2] at h2
  obtain ⟨u, v, hc⟩ := laid_iface h2 (by kernel_rfl) (by kernel_rfl) Tryz.underlying213
  exact ⟨World.block_lt_of_cell? W _ hc, _, hc, .inr ⟨u, v, rfl⟩⟩
set_option maxRecDepth 100000 in
theorem valTypes : ∃ f0 f1 f2 f3 f4 f5, ValTypes Tryz.prog 3 4 9 22 23 25 f0 f1 f2 f3 f4 f5 :=
  ⟨_, _, _, _, _, _, Tryz.underlying3, Tryz.underlying4, Tryz.underlying9, Tryz.underlying22, Tryz.underlying23, Tryz.underlying25, rfl, rfl, rfl, rfl, rfl, rfl, by kernel_rfl, by kernel_rfl, by kernel_rfl⟩
theorem bulky {H : Type} : Bulky (H := H) Rows.uptoBulk Rows.uptoBulkAll :=
  ⟨fun l => by simp [Rows.uptoBulk], fun e s => by simp [Rows.uptoBulk], fun p => by simp [Rows.uptoBulk], fun y r => by simp [Rows.uptoBulkAll]⟩

set_option maxRecDepth 100000 in
theorem contract (H : Type) (enc : TypeId × Value → H) (W : World) (base : Nat) (args : Array Value) (ds gs : List (DataW H)) (before : List MemPlace)
    (hval0 : ∀ (j : Nat) t v, Tryz.f3.params[j]? = some t → args[j]? = some v → Value.okWide Tryz.prog W .any base t v)
    (hW : DataW.Whole enc Tryz.prog Tryz.f3.params.toList Rows.confGetsSpec.vars false W args.toList ds gs before) (hk : Rows.uptoSmall H (ds ++ gs) = true)
    (hL : laidMetH Tryz.prog Rows.confGetsUptoRow.laid W) (hSh : W.ShapedOpen Tryz.prog) :
    Calls Tryz.prog 3 args W fun e W' => ∃ v, e = .returned v ∧ Rows.confGetsSpec.post enc Tryz.prog Tryz.f3 false true false false W args v W' := by
  have hval : ∀ (j : Nat) t v, Tryz.f3.params[j]? = some t → args[j]? = some v → Value.okWide Tryz.prog W .any base t v := hval0
  have hW' := hW
  obtain ⟨p, q, hA0, hV, rfl, hfz, hnd⟩ := hW
  have hA : DataW.TrodAll enc Tryz.prog W 0 (fun _ => true) true Tryz.f3.params.toList args.toList ds p := hA0
  rw [Tryz.params3] at hA hval
  obtain ⟨v0, vs0, d0, ds0, p0, q0, hargs, rfl, rfl, h0, r0⟩ := trodAll_cons hA
  obtain ⟨v1, vs1, d1, ds1, p1, q1, rfl, rfl, rfl, h1, r1⟩ := trodAll_cons r0
  obtain ⟨rfl, rfl, rfl⟩ := trodAll_nil r1
  obtain rfl : args = #[v0, v1] := by cases args; simp_all
  obtain ⟨rfl, rfl⟩ := trodVars_none hV
  obtain ⟨f0, f1, f2, f3, f4, f5, T⟩ := valTypes
  have k0 := h0
  have lt0 : ∀ x ∈ p0, x.block < W.heap.size := by obtain ⟨m, hm⟩ := k0; exact DataW.trod_lt m _ _ _ hm
  obtain ⟨k_0, bo_0, i_0, t_0, A1_0, n1_0, c1_0, A2_0, n2_0, c2_0, items_0, keys_0, rfl, hok0, hle0⟩ := open_val_trod T bulky (hval 0 25 v0 rfl rfl) k0 lt0
  obtain ⟨s1, rfl, rfl, rfl, w1⟩ := open_string Tryz.underlying9 (hval 1 9 v1 rfl rfl) h1
  have hsum : Rows.uptoBulk d0 ≤ 1048576 := by
    have h : Rows.uptoBulkAll ([d0, .lit (.string s1.data.toList)] ++ []) ≤ 1048576 := of_decide_eq_true hk
    simp only [List.append_nil, Rows.uptoBulkAll] at h
    omega
  have hkz0 := kz_len keys_0
  have hks0 := hok0.ks.1
  clear hA0 hval0
  simp only [List.append_nil] at hW'
  refine (walk ⟨k_0, bo_0, i_0, t_0, A1_0, n1_0, c1_0, A2_0, n2_0, c2_0, items_0, keys_0⟩ s1 W hok0 (by first | (dsimp only; omega) | omega) (by first | (dsimp only; omega) | omega) (by first | (dsimp only; omega) | omega) w1 (maxL hSh) (errV hL)).mono fun e W' ⟨he, bel⟩ => ?_
  subst he
  exact ⟨_, rfl, _, _, _, [], _, [], hW', trodAll_mk1 (shut_bool Tryz.underlying4 _), (trodAll_cons_mk (Below.trod laidOut (by kernel_rfl) (of_decide_eq_true (by kernel_rfl)) k0 bel lt0) (trodAll_cons_mk (shut_string Tryz.underlying9 w1) trodAll_mk0)), rfl, bel.frame _, fun h => by cases h⟩

/-- A world for the witness: the settled one, the tables as their initialisers lay them. -/
def tab (b : Nat) (cs : Array Value) (h : Array Obj) : Array Obj := h.modify b fun
  | .cells _ t frozen => .cells cs t frozen
  | o => o
def ints (k : IntKind) (l : List Int) : Array Value := (l.map (Value.int k)).toArray
def accepts : List Int := [128, 191, 160, 191, 128, 159, 144, 191, 128, 143, 0, 0, 0, 0, 0, 0, 0, 0, 0, 0, 0, 0, 0, 0, 0, 0, 0, 0, 0, 0, 0, 0]
def nilVal : Value := .agg #[.int .i64 0, .bool false, .int .i64 0, .string .empty, .slice none 0 0, .slice none 0 0]
def de32 : List Int := [0, 1, 28, 2, 29, 14, 24, 3, 30, 22, 20, 15, 25, 17, 4, 8, 31, 27, 13, 23, 21, 19, 16, 7, 26, 12, 18, 6, 11, 5, 10, 9]
def de64 : List Int := [0, 1, 56, 2, 57, 49, 28, 3, 61, 58, 42, 50, 38, 29, 17, 4, 62, 47, 59, 36, 45, 43, 51, 22, 53, 39, 33, 30, 24, 18, 12, 5, 63, 55, 48, 27, 60, 41, 37, 16, 46, 35, 44, 21, 52, 32, 23, 11, 54, 26, 40, 15, 34, 20, 31, 10, 25, 14, 19, 9, 13, 8, 7, 6]
def setVar (h : Array Obj) (g : Nat) (v : Value) : Array Obj := h.modify g fun
  | .cells _ t frozen => .cells #[v] t frozen
  | o => o
noncomputable def N (os : Os) : Nat := (World.settled Tryz.prog os).heap.size
def blocks : Input := ⟨#[.cells #[.string ⟨#[105, 110, 118, 97, 108, 105, 100, 32, 115, 121, 110, 116, 97, 120]⟩] 275, .cells #[.string ⟨#[118, 97, 108, 117, 101, 32, 111, 117, 116, 32, 111, 102, 32, 114, 97, 110, 103, 101]⟩] 275], #[], []⟩
noncomputable def laidWorld (os : Os) : World :=
  { World.holding Tryz.prog os blocks with heap := tab 6 (ints .u8 de32) (tab 7 (ints .u8 de64) (tab 5 (ints .u64 Lib.pow10Tab) (tab 4 (ints .u8 accepts) (tab 3 (ints .u8 (Go.Pinned.utf8FirstZ.map Int.ofNat))
      (setVar (setVar (World.holding Tryz.prog os blocks).heap 1 (.iface 273 (.pointer (some ⟨N os, 0, none⟩)))) 2 (.iface 273 (.pointer (some ⟨N os + 1, 0, none⟩)))))))) }
theorem laid_met (os : Os) : laidMet Tryz.prog Rows.confGetsUptoRow.laid ((laidWorld os).forCall (fun _ _ => 0) ⟨#[], #[nilVal, .string .empty], []⟩).memory :=
  laidMet_of_run' 8 (by kernel_rfl) (by kernel_rfl)
theorem reads (os : Os) {H : Type} (enc : TypeId × Value → H) : ∃ places, DataW.whole enc Tryz.prog ((laidWorld os).forCall (fun _ _ => 0) ⟨#[], #[nilVal, .string .empty], []⟩).memory Tryz.f3.params.toList Rows.confGetsSpec.vars false (#[nilVal, .string .empty] : Array Value).toList 8 = some ([.agg [.lit (.int .i64 0), .lit (.bool false), .lit (.int .i64 0), .lit (.string []), .nil, .nil], .lit (.string [])], [], places) :=
  ⟨[], by kernel_rfl⟩

set_option maxRecDepth 100000 in
theorem lifted (os : Os) (started : os.Started) (H : Type) (enc : TypeId × Value → H) (F : Stop.Interp) :
    ReturnsInHanded {} Tryz.checked os 3 .any ((Rows.OpenSpec.upto Rows.confGetsSpec).preRow enc Tryz.prog Tryz.f3 Rows.confGetsUptoRow.domain false Rows.confGetsUptoRow.laid) (((Rows.OpenSpec.upto Rows.confGetsSpec).at F).post enc Tryz.prog Tryz.f3 false true false false) := by
  obtain ⟨places, hx⟩ := reads os enc
  refine returnsInHanded_of_row (C := Tryz.checked) (s := Rows.OpenSpec.upto Rows.confGetsSpec) own started (by kernel_rfl) Tryz.func3
    (witness_row_at (enc := enc) (C := Tryz.checked) (s := Rows.OpenSpec.upto Rows.confGetsSpec) false (laidWorld os) #[nilVal, .string .empty] rfl (by kernel_rfl) (by kernel_rfl) (by kernel_rfl)
      (OpenSpec.preRow_of_cond (s := Rows.OpenSpec.upto Rows.confGetsSpec) 8 hx (by kernel_rfl) (fun k hk => by cases hk; exact of_decide_eq_true rfl) (by kernel_rfl) (laid_met os))) ?_
  intro W base args ds gs before hval hW _ hk _ hL hSh _
  exact contract H enc W base args ds gs before hval hW (hk _ rfl) hL hSh

theorem said : Rows.ConfGetsUptoSaid :=
  OpenClaim.holds_of_cond 3 Tryz.f3 rfl rfl rfl rfl rfl rfl rfl ⟨rfl, rfl, rfl, rfl, rfl⟩ rfl rfl rfl rfl rfl (by kernel_rfl) Tryz.func3 (by kernel_rfl)
    (of_decide_eq_true (by kernel_rfl)) (by unfold Func.isWrapper; first | (rw [if_pos (by decide +kernel)]; kernel_rfl) | (rw [if_neg (by decide +kernel)]; exact ⟨rfl, rfl⟩))
    (fun os started H enc _ F => by rw [OpenClaim.pre_eq_preRow]; exact lifted os started H enc F)
theorem plain (f : FuncId) (fn : Func) (hf : Tryz.pinned.checked.prog.funcNamed "masthead/mastlaw2.ConfGets" = some f) (hfn : Tryz.pinned.checked.prog.funcs[f]? = some fn) :
    true = Tryz.pinned.checked.prog.looks [] ∧ ∀ (j : Nat) t, fn.params[j]? = some t → Tryz.pinned.checked.prog.wantsStandIn t = false := by
  obtain rfl : f = 3 := Option.some.inj ((show Tryz.prog.funcNamed "masthead/mastlaw2.ConfGets" = some 3 by kernel_rfl).symm.trans hf) |>.symm
  obtain rfl : fn = Tryz.f3 := (Option.some.inj (Tryz.func3.symm.trans hfn)).symm
  refine ⟨by kernel_rfl, fun j t ht => ?_⟩
  rw [Tryz.params3] at ht
  have hm := Array.mem_of_getElem? ht
  simp at hm
  rcases hm with rfl | rfl
  · exact (show Tryz.prog.wantsStandIn 25 = false by kernel_rfl)
  · exact (show Tryz.prog.wantsStandIn 9 = false by kernel_rfl)
theorem proved : Rows.ConfGetsUptoCardSaid :=
  Claim7.holds_tied_plain_at .later [] _ _ _ _ said (fun _ h => by cases h) (by kernel_rfl) (fun _ h => by cases h) confGetsUpto_row_tie rfl ⟨rfl, rfl⟩ (by kernel_rfl) rfl plain (by kernel_rfl)
#print axioms proved
end Go.Proofs.YtohkdckllmmfhaaGreatDoor.confGetsDone
