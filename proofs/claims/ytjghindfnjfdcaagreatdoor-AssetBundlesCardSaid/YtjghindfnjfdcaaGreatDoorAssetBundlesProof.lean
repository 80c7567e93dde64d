/- DERIVED. THE CARD AssetBundlesCardSaid: for every slice of files AssetBundles returns true, and the argument reads afterwards as it read before. The variables of the library that the row lists are tied to the program's text. -/
import Derived.Test.YtjghindfnjfdcaaGreatDoorBunR
import Derived.Test.YtjghindfnjfdcaaGreatDoorBunC
import Derived.Test.YtjghindfnjfdcaaGreatDoorBunAl
import Derived.Test.YtjghindfnjfdcaaGreatDoorBunO
import Derived.Test.YtjghindfnjfdcaaGreatDoorChecked
import Derived.Test.YtjghindfnjfdcaaGreatDoorCards
import Derived.Test.YtjghindfnjfdcaaGreatDoorTie
import Derived.ProofKit
import Derived.OpenShut
import Derived.ShutString
import Derived.ChangeOld
import Derived.JoinedCond
import Derived.Deep.DeepHandedRow
import Derived.ChangeMaps
import Derived.Lib.LaidTab
import Derived.Stop.LaidErr
import Derived.LaidSub
namespace Go.Proofs.YtjghindfnjfdcaaGreatDoor.assetBundlesDone
open Go.ChangeMaps (open_string shut_string)
open Go.ChangeShapes Go.WideShapes Go.ChangeAt Go.RowKit
set_option linter.unusedVariables false
theorem own : ownKnob Tryz.prog.godebug = none := by kernel_rfl
theorem laidOut : laidOutB Tryz.prog = true := by kernel_rfl
theorem maxT {W : World} (h : W.ShapedOpen Tryz.prog) : MaxT W := by
  obtain ⟨m, hm⟩ := Tryz.laysM146.s1_3 W h
  exact ⟨World.block_lt_of_cell? W _ hm, m, hm⟩
theorem boE_len {L : List (ByteArray × ByteArray)} : (boP L).length ≤ 1048576 ∧ (boZ L).length ≤ 1048576 := by
  by_cases h : boE L = 0
  · have h40 : L.length ≤ 40 := by
      unfold boE at h
      split at h
      · cases h
      · rename_i h1
        exact Nat.le_of_not_lt fun e => h1 (.inl e)
    unfold boP boZ
    rw [if_pos h, if_pos h, bends_len]
    unfold bpaths
    rw [List.length_map]
    omega
  · unfold boP boZ
    rw [if_neg h, if_neg h]
    exact ⟨Nat.zero_le _, Nat.zero_le _⟩
set_option maxRecDepth 100000 in
set_option maxHeartbeats 3200000 in
theorem walk (A : Option Addr) (n c : Nat) (L : List (ByteArray × ByteArray)) (w : World) (hl : L.length = n) (hn : n ≤ 4611686018427387904) (hF : FilesAt w w.heap.size A L) (hm : MaxT w) :
    Calls Tryz.prog 3 #[.slice A n c] w fun e w' => e = .returned (.bool true) ∧ Below w.heap.size w w' := by
  have H1 := Lib.hid (bundle_any A n c L w hl hn hF hm)
  have H2 := Lib.hid (fun wX (hX : Below w.heap.size w wX) => bundleOf_any A n c L wX hl hn ((hF.below hX (Nat.le_refl _)).more hX.size) (hm.below hX))
  obtain ⟨z1, z2⟩ := boE_len (L := L)
  have q1 : (boE L == boE L) = true := by simp
  have HQ1 := Lib.hid q1
  clear hl hF hm q1
  go_enter Tryz.func3, Tryz.ntmps3
  go_wp2_with fail
  refine H1.out.mono ?_
  rintro e w1 ⟨P1, E1, rfl, hp1, he1, hb1⟩
  obtain ⟨er, her⟩ : ∃ er, boE L = er := ⟨_, rfl⟩
  obtain ⟨s, hs⟩ : ∃ s, boB L = s := ⟨_, rfl⟩
  obtain ⟨ps, hps⟩ : ∃ ps, boP L = ps := ⟨_, rfl⟩
  obtain ⟨zs, hzs⟩ : ∃ zs, boZ L = zs := ⟨_, rfl⟩
  have H2' := H2.out
  unfold BunPost at H2'
  rw [her, hs, hps, hzs] at H2'
  rw [hps] at hp1 z1
  rw [hzs] at he1 z2
  rw [her, hs]
  clear HQ1 her hs hps hzs
  have qe : (er == er) = true := by simp
  obtain ⟨A1, c1, rfl, _, _, _⟩ := own_form_s hp1 rfl
  obtain ⟨A3, c3, rfl⟩ := own_form_i he1
  obtain ⟨W1, hW1⟩ : ∃ W1, w1.alloc (.cells #[.string s, .slice A1 ps.length c1, .slice A3 zs.length c3] 26) = W1 := ⟨_, rfl⟩
  have hk1 : W1.heap[w1.heap.size]? = some (.cells #[.string s, .slice A1 ps.length c1, .slice A3 zs.length c3] 26 (0, 0)) := by rw [← hW1]; exact heap_alloc_new _ _
  have HP1 := Lib.hid (show W1.ownsRow w.heap.size 9 1 (.slice A1 ps.length c1) ps.length (svs ps) by rw [← hW1]; exact hp1.alloc _)
  have HE1 := Lib.hid (show W1.ownsRow w.heap.size 3 1 (.slice A3 zs.length c3) zs.length (ivs zs) by rw [← hW1]; exact he1.alloc _)
  have HB1 := Lib.hid (show Below w.heap.size w W1 by rw [← hW1]; exact hb1.alloc hb1.size _)
  have HK1 := Lib.hid hk1
  have hlt1 := (Array.getElem?_eq_some_iff.1 hk1).1
  have H3 := Lib.hid (H2' W1 HB1.out)
  clear hp1 he1 hb1 hk1 H2'
  go_wp2_with fail
  refine H3.out.mono ?_
  rintro e w2 ⟨P2, E2, rfl, hp2, he2, hb2⟩
  obtain ⟨A2, c2, rfl, _, _, _⟩ := own_form_s hp2 rfl
  obtain ⟨A4, c4, rfl⟩ := own_form_i he2
  have hk1 := (hb2.block _ hlt1).trans HK1.out
  obtain ⟨W2, hW2⟩ : ∃ W2, w2.alloc (.cells #[.string s, .slice A2 ps.length c2, .slice A4 zs.length c4] 26) = W2 := ⟨_, rfl⟩
  have hk2 : W2.heap[w2.heap.size]? = some (.cells #[.string s, .slice A2 ps.length c2, .slice A4 zs.length c4] 26 (0, 0)) := by rw [← hW2]; exact heap_alloc_new _ _
  have hk12 : W2.heap[w1.heap.size]? = some (.cells #[.string s, .slice A1 ps.length c1, .slice A3 zs.length c3] 26 (0, 0)) := by rw [← hW2]; exact (Below.heap_alloc _ _ _ (Array.getElem?_eq_some_iff.1 hk1).1).trans hk1
  have hal : Below w.heap.size w W2 := by rw [← hW2]; exact (HB1.out.trans (hb2.mono HB1.out.size)).alloc (HB1.out.trans (hb2.mono HB1.out.size)).size _
  have hbb : ∀ (g : Nat) (x : Obj), W1.heap[g]? = some x → W2.heap[g]? = W1.heap[g]? := fun g x hx => by
    have hg := (Array.getElem?_eq_some_iff.1 hx).1
    rw [← hW2]
    exact (Below.heap_alloc _ _ _ (Nat.lt_of_lt_of_le hg hb2.size)).trans (hb2.block g hg)
  have HAL := Lib.hid (alike_bun s ps zs W2 z1 z2 (own_keep HP1.out fun g c hg => hbb g _ hg) (show W2.ownsRow _ 9 1 _ ps.length (svs ps) by rw [← hW2]; exact hp2.alloc _) (own_keep HE1.out fun g c hg => hbb g _ hg) (show W2.ownsRow _ 3 1 _ zs.length (ivs zs) by rw [← hW2]; exact he2.alloc _))
  have HB2 := Lib.hid hal
  obtain ⟨x0, x1, x2⟩ := zb_cells hk12
  obtain ⟨y0, y1, y2⟩ := zb_cells hk2
  clear hp2 he2 hb2 hk1 hk2 hk12 hal hbb z1 z2
  go_wp2_with fail
  refine HAL.out.mono ?_
  rintro e w3 ⟨rfl, hb3⟩
  have HB3 := Lib.hid (HB2.out.trans (hb3.mono HB2.out.size))
  clear hb3
  go_wp2_with fail
  go_ret
  exact ⟨by first | rfl | simp, HB3.out⟩
set_option maxRecDepth 100000 in
theorem contract (H : Type) (enc : TypeId × Value → H) (W : World) (base : Nat) (args : Array Value) (ds gs : List (DataW H)) (before : List MemPlace)
    (hval0 : ∀ (j : Nat) t v, Tryz.f3.params[j]? = some t → args[j]? = some v → Value.okWide Tryz.prog W .any base t v)
    (hW : DataW.Whole enc Tryz.prog Tryz.f3.params.toList Rows.assetBundlesSpec.vars false W args.toList ds gs before) (hz : (DataW.weightsEach Tryz.prog (Tryz.f3.params.toList ++ (OpenSpec.ofChange Rows.assetBundlesSpec).bare.plain.varTypes Tryz.prog) (ds ++ gs)).all (· ≤ reachBytes) = true)
    (hL : laidMetH Tryz.prog Rows.assetBundlesRow.laid W) (hSh : W.ShapedOpen Tryz.prog) :
    Calls Tryz.prog 3 args W fun e W' => ∃ v, e = .returned v ∧ Rows.assetBundlesSpec.post enc Tryz.prog Tryz.f3 false true false false W args v W' := by
  have hval : ∀ (j : Nat) t v, Tryz.f3.params[j]? = some t → args[j]? = some v → Value.okWide Tryz.prog W .any base t v := hval0
  have hW' := hW
  obtain ⟨p, q, hA0, hV, rfl, hfz, hnd⟩ := hW
  have hA : DataW.TrodAll enc Tryz.prog W 0 (fun _ => true) true Tryz.f3.params.toList args.toList ds p := hA0
  rw [Tryz.params3] at hA hval
  obtain ⟨v0, vs0, d0, ds0, p0, q0, hargs, rfl, rfl, h0, r0⟩ := trodAll_cons hA
  obtain ⟨rfl, rfl, rfl⟩ := trodAll_nil r0
  obtain rfl : args = #[v0] := by cases args; simp_all
  obtain ⟨rfl, rfl⟩ := trodVars_none hV
  have k0 := h0
  have lt0 : ∀ x ∈ p0, x.block < W.heap.size := by obtain ⟨m, hm⟩ := k0; exact DataW.trod_lt m _ _ _ hm
  obtain ⟨a0, len0, cap0, rfl⟩ := okWide_slice Tryz.underlying22 (hval 0 22 v0 rfl rfl)
  obtain ⟨A, n, cc, L, he, hL2, hP, hD⟩ : ∃ A n c L, Value.slice a0 len0 cap0 = .slice A n c ∧ List.length L = n ∧ FilesAt W W.heap.size A L ∧ (d0 = .nil ∧ n = 0 ∨ ∃ e s, d0 = .slice e s ∧ e.length = n) := by
    obtain ⟨fuel, hf⟩ := h0
    obtain ⟨A, n, c, l, hcs, hn, he, hz⟩ := open_files Tryz.underlying9 Tryz.underlying22 Tryz.underlying37 rfl rfl (by kernel_rfl) (by kernel_rfl) hf lt0
    simp [Value.cells] at hcs
    obtain ⟨rfl, rfl, rfl⟩ := hcs
    exact ⟨_, _, _, l, rfl, hn, he, hz⟩
  cases he
  have hbound : len0 ≤ 4611686018427387904 := by
    rcases hD with ⟨_, h0⟩ | ⟨e, s, rfl, he⟩
    · omega
    · have hz' : (DataW.weightsEach Tryz.prog (Tryz.f3.params.toList ++ (OpenSpec.ofChange Rows.assetBundlesSpec).bare.plain.varTypes Tryz.prog) ([.slice e s] ++ [] : List (DataW H))).all (· ≤ reachBytes) = true := hz
      rw [Tryz.params3] at hz'
      have h1 : (e.length + s.length) * Tryz.prog.bytesOf 37 ≤ reachBytes := of_decide_eq_true (List.all_eq_true.1 hz' _ (by simp [DataW.weightsEach, DataW.weights, Tryz.underlying22]))
      rw [show Tryz.prog.bytesOf 37 = 32 by kernel_rfl] at h1
      simp only [reachBytes] at h1
      omega
  clear hA0 hval0
  simp only [List.append_nil] at hW'
  refine (walk a0 len0 cap0 L W hL2 hbound hP (maxT hSh)).mono fun e W' ⟨he, bel⟩ => ?_
  subst he
  exact ⟨_, rfl, _, _, _, [], _, [], hW', trodAll_mk1 (shut_bool Tryz.underlying4 _), (trodAll_cons_mk (Below.trod laidOut (by kernel_rfl) (of_decide_eq_true (by kernel_rfl)) k0 bel lt0) trodAll_mk0), rfl, bel.frame _, fun h => by cases h⟩

/-- A world for the witness: the settled one, the tables as their initialisers lay them. -/
def tab (b : Nat) (cs : Array Value) (h : Array Obj) : Array Obj := h.modify b fun
  | .cells _ t frozen => .cells cs t frozen
  | o => o
def ints (k : IntKind) (l : List Int) : Array Value := (l.map (Value.int k)).toArray
def accepts : List Int := [128, 191, 160, 191, 128, 159, 144, 191, 128, 143, 0, 0, 0, 0, 0, 0, 0, 0, 0, 0, 0, 0, 0, 0, 0, 0, 0, 0, 0, 0, 0, 0]
noncomputable def laidWorld (os : Os) : World :=
  { World.settled Tryz.prog os with heap := tab 2 (ints .u8 accepts) (tab 1 (ints .u8 (Go.Pinned.utf8FirstZ.map Int.ofNat)) (World.settled Tryz.prog os).heap) }
theorem laid_met (os : Os) : laidMet Tryz.prog Rows.assetBundlesRow.laid ((laidWorld os).forCall (fun _ _ => 0) ⟨#[], #[.slice none 0 0], []⟩).memory :=
  laidMet_of_run' 8 (by kernel_rfl) (by kernel_rfl)
theorem reads (os : Os) {H : Type} (enc : TypeId × Value → H) : ∃ places, DataW.whole enc Tryz.prog ((laidWorld os).forCall (fun _ _ => 0) ⟨#[], #[.slice none 0 0], []⟩).memory Tryz.f3.params.toList Rows.assetBundlesSpec.vars false (#[.slice none 0 0] : Array Value).toList 8 = some ([.nil], [], places) :=
  ⟨[], by kernel_rfl⟩

set_option maxRecDepth 100000 in
theorem lifted (os : Os) (started : os.Started) (H : Type) (enc : TypeId × Value → H) (F : Stop.Interp) :
    ReturnsInHanded {} Tryz.checked os 3 .any ((OpenSpec.ofChange Rows.assetBundlesSpec).preRow enc Tryz.prog Tryz.f3 Rows.assetBundlesRow.domain false Rows.assetBundlesRow.laid) (((OpenSpec.ofChange Rows.assetBundlesSpec).at F).post enc Tryz.prog Tryz.f3 false true false false) := by
  obtain ⟨places, hx⟩ := reads os enc
  refine returnsInHanded_of_row (C := Tryz.checked) (s := OpenSpec.ofChange Rows.assetBundlesSpec) own started (by kernel_rfl) Tryz.func3
    (witness_row_at (enc := enc) (C := Tryz.checked) (s := OpenSpec.ofChange Rows.assetBundlesSpec) false (laidWorld os) #[.slice none 0 0] rfl (by kernel_rfl) (by kernel_rfl) (by kernel_rfl)
      (OpenSpec.preRow_of_cond (s := OpenSpec.ofChange Rows.assetBundlesSpec) 8 hx (by kernel_rfl) (fun k hk => by cases hk) (by kernel_rfl) (laid_met os))) ?_
  intro W base args ds gs before hval hW _ _ hz hL hSh _
  exact contract H enc W base args ds gs before hval hW hz hL hSh

theorem said : Rows.AssetBundlesSaid :=
  OpenClaim.holds_of_cond 3 Tryz.f3 rfl rfl rfl rfl rfl rfl rfl ⟨rfl, rfl, rfl, rfl, rfl⟩ rfl rfl rfl rfl rfl (by kernel_rfl) Tryz.func3 (by kernel_rfl)
    (of_decide_eq_true (by kernel_rfl)) (by unfold Func.isWrapper; first | (rw [if_pos (by decide +kernel)]; kernel_rfl) | (rw [if_neg (by decide +kernel)]; exact ⟨rfl, rfl⟩))
    (fun os started H enc _ F => by rw [OpenClaim.pre_eq_preRow]; exact lifted os started H enc F)
theorem plain (f : FuncId) (fn : Func) (hf : Tryz.pinned.checked.prog.funcNamed "masthead/mastlaw2.AssetBundles" = some f) (hfn : Tryz.pinned.checked.prog.funcs[f]? = some fn) :
    true = Tryz.pinned.checked.prog.looks [] ∧ ∀ (j : Nat) t, fn.params[j]? = some t → Tryz.pinned.checked.prog.wantsStandIn t = false := by
  obtain rfl : f = 3 := Option.some.inj ((show Tryz.prog.funcNamed "masthead/mastlaw2.AssetBundles" = some 3 by kernel_rfl).symm.trans hf) |>.symm
  obtain rfl : fn = Tryz.f3 := (Option.some.inj (Tryz.func3.symm.trans hfn)).symm
  refine ⟨by kernel_rfl, fun j t ht => ?_⟩
  rw [Tryz.params3] at ht
  have hm := Array.mem_of_getElem? ht
  simp at hm
  subst hm
  exact (show Tryz.prog.wantsStandIn 22 = false by kernel_rfl)
theorem proved : Rows.AssetBundlesCardSaid :=
  Claim7.holds_tied_plain_at .later [] _ _ _ _ said (fun _ h => by cases h) (by kernel_rfl) (fun _ h => by cases h) assetBundles_row_tie rfl ⟨rfl, rfl⟩ (by kernel_rfl) rfl plain (by kernel_rfl)
#print axioms proved
end Go.Proofs.YtjghindfnjfdcaaGreatDoor.assetBundlesDone
