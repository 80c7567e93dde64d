/- DERIVED. page.Resolve: what it returns. Condition: the library's variable MaxLen holds a number. -/
import Derived.Test.YtekgpimlanaokaaDoorAddrM
namespace Go.Proofs.YtekgpimlanaokaaDoor
set_option linter.unusedVariables false
open Go.RowKit Go.Shelf
attribute [local go_sem] Oper.semAt_some
/-- One part of a reference. -/
def stp1 (ps : List (List UInt8)) (p : List UInt8) : Int × List (List UInt8) :=
  if p = [] ∨ p = [46] then (0, ps)
  else if p = [46, 46] then (if ps = [] then (7, []) else (0, ps.dropLast))
  else if tpl p = true ∧ (adr (ps ++ [p])).length ≤ 200 then (0, ps ++ [p]) else (3, [])
def stpA : List (List UInt8) → List (List UInt8) → Int × List (List UInt8)
  | ps, [] => (0, ps)
  | ps, p :: r => if (stp1 ps p).1 = 0 then stpA (stp1 ps p).2 r else ((stp1 ps p).1, [])
def stF (ps0 : List (List UInt8)) (pre : List ByteArray) : Int × List (List UInt8) := stpA ps0 (pre.map fun b => b.data.toList)
theorem stpA_nil (ps : List (List UInt8)) : stpA ps [] = (0, ps) := by rw [stpA]
theorem stpA_cons (ps : List (List UInt8)) (p : List UInt8) (r : List (List UInt8)) : stpA ps (p :: r) = if (stp1 ps p).1 = 0 then stpA (stp1 ps p).2 r else ((stp1 ps p).1, []) := by rw [stpA]
theorem stpA_snoc (a : List (List UInt8)) : ∀ (ps : List (List UInt8)) (p : List UInt8), stpA ps (a ++ [p]) = if (stpA ps a).1 = 0 then (if (stp1 (stpA ps a).2 p).1 = 0 then (0, (stp1 (stpA ps a).2 p).2) else ((stp1 (stpA ps a).2 p).1, [])) else ((stpA ps a).1, []) := by
  induction a with
  | nil =>
    intro ps p
    rw [List.nil_append, stpA_nil, if_pos rfl, stpA_cons, stpA_nil]
  | cons q r ih =>
    intro ps p
    rw [List.cons_append, stpA_cons, stpA_cons]
    by_cases h : (stp1 ps q).1 = 0
    · rw [if_pos h, if_pos h]; exact ih _ p
    · rw [if_neg h, if_neg h, if_neg h]
theorem bP_data (p : List UInt8) : (bP p).data.toList = p := rfl
theorem stF_snoc (ps0 : List (List UInt8)) (pre : List ByteArray) (p : List UInt8) (ps : List (List UInt8)) (h : stF ps0 pre = (0, ps)) : stF ps0 (pre ++ [bP p]) = if (stp1 ps p).1 = 0 then (0, (stp1 ps p).2) else ((stp1 ps p).1, []) := by
  unfold stF at h ⊢
  rw [List.map_append, List.map_cons, List.map_nil, bP_data, stpA_snoc, h, if_pos rfl]
theorem bP_ne {p q : List UInt8} (h : ¬ p = q) : ((bP p).toList == q) = false := by simpa using h
theorem bP_join (a p : List UInt8) : bP a ++ (bP p ++ ⟨#[47]⟩) = bP (a ++ (p ++ [47])) := by
  apply ByteArray.ext
  apply Array.toList_inj.1
  simp [bP]
theorem stpA_stop (b : List (List UInt8)) : ∀ (a ps : List (List UInt8)), (stpA ps a).1 ≠ 0 → stpA ps (a ++ b) = ((stpA ps a).1, [])
  | [], ps, h => absurd (by rw [stpA_nil]) h
  | q :: r, ps, h => by
    rw [List.cons_append, stpA_cons, stpA_cons ps q r]
    rw [stpA_cons] at h
    by_cases h1 : (stp1 ps q).1 = 0
    · rw [if_pos h1] at h
      rw [if_pos h1, if_pos h1]
      exact stpA_stop b r _ h
    · rw [if_neg h1, if_neg h1]
theorem back_map (l : List (List UInt8)) : (l.map bP).map (fun b => b.data.toList) = l := by
  rw [List.map_map]
  exact List.map_id _
theorem below_put {w W : World} {n D : Nat} (h : Below n w W) (hD : n ≤ D) (hl : D < W.heap.size) (o : Obj) : Below n w (W.putObj D o) :=
  h.trans ((Below.refl n W).grown (grownBy_putObj' W D o) (by omega) (fun k e => by cases e; omega))
theorem flat_mem : ∀ (ps : List (List UInt8)) (p : List UInt8), p ∈ ps → p.length + 1 ≤ (flat ps).length
  | [], p, h => by simp at h
  | q :: r, p, h => by
    rcases List.mem_cons.1 h with rfl | h
    · simp [flat]
    · have := flat_mem r p h
      simp [flat]
      omega
theorem piece_le {l p : List UInt8} (h : p ∈ pieces l) : p.length ≤ l.length := by
  have h1 := flat_mem _ p h
  rw [pieces_flat] at h1
  simp at h1
  omega
theorem keeps_below {W W' : World} (h : Below W.heap.size W W') : KeepsOthers W W' := ⟨h.size, fun k o hk _ => (h.block k (Array.getElem?_eq_some_iff.1 hk).1).trans hk⟩
/-- Between two rounds. -/
def RI (w : World) (ba : Nat) (ps0 : List (List UInt8)) (pre : List ByteArray) (W : World) : Prop :=
  ∃ ps, stF ps0 pre = (0, ps) ∧ (∀ p ∈ ps, (47 : UInt8) ∉ p) ∧ ps.all tpl = true ∧ (adr ps).length ≤ 200 ∧ Boxed W ba 9 (.string (bP (adr ps))) ∧ Boxed W w.heap.size 9 (.string ⟨#[]⟩) ∧ Boxed W (w.heap.size + 1) 22 (.int .i64 0) ∧ Below w.heap.size w W
def RX (w : World) (ps0 : List (List UInt8)) (c : Code) (pre : List ByteArray) (W : World) : Prop :=
  c = .ret ∧ ∃ er : Int, er ≠ 0 ∧ (stF ps0 pre).1 = er ∧ Boxed W w.heap.size 9 (.string ⟨#[]⟩) ∧ Boxed W (w.heap.size + 1) 22 (.int .i64 er) ∧ Below w.heap.size w W
theorem boxed_turn {A B : World} {b : Nat} {t : TypeId} {v : Value} {row : Option Nat} {n : Nat} (h : Boxed A b t v) (hg : A.grownBy B row) (hr : ∀ r, row = some r → n ≤ r ∧ ∃ o : Obj, A.heap[r]? = some o ∧ o.isCells = false) : Boxed B b t v :=
  (boxed_own b t (fun _ : Unit => v)) () A B row h hg (fun r e => (hr r e).2)
theorem RI.own (w : World) (ba : Nat) (ps0 : List (List UInt8)) (n : Nat) (hn : w.heap.size ≤ n) : OwnFrom n (RI w ba ps0) := fun s A B row ⟨ps, h1, h2, h3, h4, h5, h6, h7, h8⟩ hg hr =>
  ⟨ps, h1, h2, h3, h4, boxed_turn h5 hg hr, boxed_turn h6 hg hr, boxed_turn h7 hg hr, (ownFrom_below (β := Unit) (Nat.le_refl _) hn) () A B row h8 hg hr⟩
theorem RX.own (w : World) (ps0 : List (List UInt8)) (c : Code) (n : Nat) (hn : w.heap.size ≤ n) : OwnFrom n (RX w ps0 c) := fun s A B row ⟨h0, er, h1, h2, h3, h4, h5⟩ hg hr =>
  ⟨h0, er, h1, h2, boxed_turn h3 hg hr, boxed_turn h4 hg hr, (ownFrom_below (β := Unit) (Nat.le_refl _) hn) () A B row h5 hg hr⟩
theorem boxed_ts {A B : World} {b b2 : Nat} {t : TypeId} {v : Value} (h : Boxed A b t v) (hT : TS b2 A B) (hb : b ≠ b2) : Boxed B b t v := (hT.2.2 b h.lt hb).trans h
theorem below_ts {w A B : World} {b2 : Nat} (h : Below w.heap.size w A) (hT : TS b2 A B) (hb : w.heap.size ≤ b2) : Below w.heap.size w B :=
  h.trans ⟨hT.1.1, hT.1.2.1, hT.1.2.2, hT.2.1, fun k hk => hT.2.2 k (Nat.lt_of_lt_of_le hk h.size) (by omega)⟩
def refB (ref : ByteArray) : Bool := Lib.hasPrefix ref.data.toList [47]
set_option maxRecDepth 100000 in
set_option maxHeartbeats 2000000 in
theorem resolve_try (fr : ByteArray) (ref : List UInt8) (w : World) (hm : MaxT w) (ps0 : List (List UInt8)) (hf : fr = bP (adr ps0)) (hsf : ∀ p ∈ ps0, (47 : UInt8) ∉ p) (hal : ps0.all tpl = true) (h200 : (adr ps0).length ≤ 200) (hr : ref.length ≤ 200)
    (hpre : refB (bP ref) = false) (x : Int) (o : ByteArray) (hx : (stpA ps0 (pieces ref)).1 = x) (ho : o = if x = 0 then bP (adr (stpA ps0 (pieces ref)).2) else ⟨#[]⟩) :
    Calls Tryd.prog 5 #[.string fr, .string (bP ref)] w fun e w' => e = .returned (.tuple #[.string o, .int .i64 x]) ∧ Below w.heap.size w w' := by
  have hpad : padB fr = true := by rw [hf, padB_adr _ hsf, decide_eq_true h200, hal]; rfl
  have h1 := fun wX (hX : Below w.heap.size w wX) => pIsAddr_any fr wX (hm.below hX) (by rw [hf, bP_size]; omega)
  rw [hpad] at h1
  have H1 := Lib.hid h1
  have hz := bP_size ref
  obtain ⟨R, hR⟩ : ∃ R, bP ref = R := ⟨_, rfl⟩
  have h2 := fun wX => Tryd.strings_HasPrefix R ⟨#[47]⟩ wX
  have hpx : Lib.hasPrefix R.data.toList (ByteArray.mk #[47]).data.toList = false := by rw [← hR]; exact hpre
  rw [hpx] at h2
  have H2 := Lib.hid h2
  rw [hR] at hz ⊢
  have h3 := fun wX => splitSeq_any R wX
  have H3 := Lib.hid h3
  have i0 : ¬ (200 : Int) < (R.size : Int) := by omega
  have i00 : decide ((200 : Int) < (R.size : Int)) = false := decide_eq_false i0
  have HZ := Lib.hid hz
  have HF := Lib.hid hf
  have HSF := Lib.hid hsf
  have HAL := Lib.hid hal
  have HO := Lib.hid (And.intro hx ho)
  have HRR := Lib.hid hR
  clear h1 h2 h3 hpx hz hpad hf hsf hal hpre hx ho hR
  refine (callsIn_wide (n := 4)).1 ?_
  refine callsIn_of_wp_marks Tryd.func5 rfl trivial ?_ rfl
  simp only [Tryd.ntmps5, List.size_toArray, List.length_cons, List.length_nil, Nat.reduceAdd, Nat.reduceSub, Array.replicate_succ, Array.replicate_zero, List.push_toArray, List.append_toArray, List.nil_append, List.cons_append]
  gi_wp2
  refine ⟨trivial, (callsIn_wide.2 (H1.out _ (((Below.refl _ w).alloc (Nat.le_refl _) _).alloc (by simp) _))).mono ?_⟩
  rintro e w1 ⟨rfl, hb1⟩
  gi_wp2
  refine ⟨trivial, (callsIn_wide.2 (H2.out _)).mono ?_⟩
  rintro e w' ⟨rfl, rfl⟩
  gi_wp2
  refine ⟨trivial, (callsIn_wide.2 (H3.out _)).mono ?_⟩
  rintro e w' ⟨rfl, rfl⟩
  unfold spF
  gi_wp2
  obtain ⟨W1, hW1⟩ : ∃ W1, w1.alloc (.cells #[.string fr] 9) = W1 := ⟨_, rfl⟩
  have hsp := spW_boxes R W1
  have hsz : W1.heap.size = w1.heap.size + 1 := by rw [← hW1]; simp
  have hbf : Boxed W1 w1.heap.size 9 (.string fr) := by rw [← hW1]; exact Boxed.new _ _ _
  rw [hW1]
  rw [← hsz]
  obtain ⟨q1, q2, q3, q4, q5⟩ := hsp
  obtain ⟨WS, hWS⟩ : ∃ WS, spW R W1 = WS := ⟨_, rfl⟩
  rw [hWS] at q1 q2 q3 q4 q5 ⊢
  have r4 : Boxed ((w.alloc (.cells #[.string ⟨#[]⟩] 9)).alloc (.cells #[.int .i64 0] 22)) w.heap.size 9 (.string ⟨#[]⟩) := (Boxed.new _ _ _).alloc _
  have r5 : Boxed ((w.alloc (.cells #[.string ⟨#[]⟩] 9)).alloc (.cells #[.int .i64 0] 22)) (w.heap.size + 1) 22 (.int .i64 0) := by
    have := Boxed.new (w.alloc (.cells #[.string ⟨#[]⟩] 9)) 22 (.int .i64 0)
    rwa [World.size_alloc] at this
  have hw1 : w.heap.size + 2 ≤ w1.heap.size := by have := hb1.size; simpa using this
  have hbw1 : Below w.heap.size w w1 := (((Below.refl _ w).alloc (Nat.le_refl _) _).alloc (by simp) _).trans (hb1.mono (by simp; omega))
  have hbWS : Below w.heap.size w WS := (hbw1.trans (by rw [← hW1]; exact (Below.refl _ _).alloc (by omega) _)).trans (q5.mono (by omega))
  refine range_box rfl (by omega) (gf := 39) (lb := #[.pointer (some ⟨W1.heap.size + 1, 0, none⟩), .pointer (some ⟨W1.heap.size, 0, none⟩), .pointer (some ⟨W1.heap.size + 2, 0, none⟩)]) rfl trivial (enters_of Tryd.func39 (by kernel_rfl) rfl)
    (split_stops _ (by omega) (W1.heap.size + 1) W1.heap.size (W1.heap.size + 2) (by omega) (by omega) ref (by omega) WS (by omega) (by omega) (by omega) q1 (by rw [HRR.out]; exact q2) q3)
    ?hT ?hKt ?hKb (fun _ => rfl) (RI w w1.heap.size ps0) (RX w ps0) (RI.own _ _ _ _ ?hn) (fun c => RX.own _ _ _ _ ?hn2) ?hIT ?hIxT ?h0 ?a1 ?assign ?body ?done ?stop
  case hT =>
    rintro A B k hAB (rfl | rfl) hk
    · exact hAB.2.2 _ hk (by omega)
    · exact hAB.2.2 _ hk (by omega)
  case hKt =>
    intro A B C h h'
    exact ⟨Nat.le_trans h.1 h'.1, fun k hk hA => (h'.2 k hk (Nat.lt_of_lt_of_le hA h.1)).trans (h.2 k hk hA)⟩
  case hKb =>
    intro W l o o' hl ho _ _
    exact ⟨by simp [World.putObj], fun k hk hA => World.putObj_heap_other (by omega)⟩
  case hn => exact hbWS.size
  case hn2 => exact hbWS.size
  case hIT =>
    rintro s A B ⟨ps, h1, h2, h3, h4, h5, h6, h7, h8⟩ hAB
    exact ⟨ps, h1, h2, h3, h4, boxed_ts h5 hAB (by omega), boxed_ts h6 hAB (by omega), boxed_ts h7 hAB (by omega), below_ts h8 hAB (by omega)⟩
  case hIxT =>
    rintro c s A B ⟨h0, er, h1, h2, h3, h4, h5⟩ hAB
    exact ⟨h0, er, h1, h2, boxed_ts h3 hAB (by omega), boxed_ts h4 hAB (by omega), below_ts h5 hAB (by omega)⟩
  case h0 =>
    refine ⟨ps0, rfl, HSF.out, HAL.out, h200, ?_, ?_, ?_, hbWS⟩
    · rw [← HF.out]
      exact (q5.block _ (by omega)).trans hbf
    · refine (q5.block _ (by omega)).trans ?_
      rw [← hW1]
      exact (Below.heap_alloc _ _ _ (by omega)).trans ((hb1.block _ (by simp; omega)).trans r4)
    · refine (q5.block _ (by omega)).trans ?_
      rw [← hW1]
      exact (Below.heap_alloc _ _ _ (by omega)).trans ((hb1.block _ (by simp)).trans r5)
  case a1 => exact fun x => { tmps := #[.string fr, .string R, undef, undef, .pointer (some ⟨w.heap.size, 0, none⟩), .pointer (some ⟨w.heap.size + 1, 0, none⟩), .pointer (some ⟨w1.heap.size, 0, none⟩), .string x, .string fr, .bool true, .bool false, .bool false, .string R, .int .i64 R.size, .bool false, .bool false, .string fr, .string R, .bool false, .string R, Value.func (.func 39) #[] #[.pointer (some ⟨w1.heap.size + 1 + 1, 0, none⟩), .pointer (some ⟨w1.heap.size + 1, 0, none⟩), .pointer (some ⟨w1.heap.size + 1 + 2, 0, none⟩)], .string x, undef, undef, undef, undef, undef, undef, undef, undef, undef, undef, undef, undef, undef, undef, undef, undef, undef, undef], defers := [] }
  case assign =>
    intro l x W K hK
    gi_wp2
    exact hK
  case body =>
    rintro l pre xx W ⟨ps, e1, e2, e3, e4, x5, x6, x7, x8⟩ hok
    obtain ⟨p, hp, hpx⟩ : ∃ p, p ∈ pieces ref ∧ bP p = xx := by
      have : xx ∈ (pieces ref).map bP := hok.subset (by simp)
      simpa using this
    have hpn := pieces_no ref p hp
    have hpl := piece_le hp
    have hnx := stF_snoc ps0 pre p ps e1
    clear hok hp
    by_cases k0 : p = []
    · obtain rfl : xx = ⟨#[]⟩ := by rw [← hpx, k0]
      have hst : stp1 ps p = (0, ps) := by unfold stp1; rw [if_pos (.inl k0)]
      rw [hst, if_pos rfl, hpx] at hnx
      have HI := Lib.hid (⟨ps, hnx, e2, e3, e4, x5, x6, x7, x8⟩ : RI w w1.heap.size ps0 (pre ++ [⟨#[]⟩]) W)
      clear e1 e2 e3 e4 x5 x6 x7 x8 hst hnx hpx hpn hpl k0
      gi_wp2
      exact ⟨KeepsOthers.refl _, ⟨Nat.le_refl _, fun _ _ _ => rfl⟩, HI.out⟩
    by_cases k1 : p = [46]
    · obtain rfl : xx = ⟨#[46]⟩ := by rw [← hpx, k1]
      have hst : stp1 ps p = (0, ps) := by unfold stp1; rw [if_pos (.inr k1)]
      rw [hst, if_pos rfl, hpx] at hnx
      have HI := Lib.hid (⟨ps, hnx, e2, e3, e4, x5, x6, x7, x8⟩ : RI w w1.heap.size ps0 (pre ++ [⟨#[46]⟩]) W)
      clear e1 e2 e3 e4 x5 x6 x7 x8 hst hnx hpx hpn hpl k0 k1
      gi_wp2
      exact ⟨KeepsOthers.refl _, ⟨Nat.le_refl _, fun _ _ _ => rfl⟩, HI.out⟩
    have c5 := x5.cell
    have f5 := x5.frozen
    have c6 := x6.cell
    have f6 := x6.frozen
    have c7 := x7.cell
    have f7 := x7.frozen
    obtain ⟨AD, hAD⟩ : ∃ AD, bP (adr ps) = AD := ⟨_, rfl⟩
    have hroot := adr_root ps
    rw [hAD] at hroot c5
    have HI := Lib.hid (And.intro e1 (And.intro e2 (And.intro e3 (And.intro e4 (And.intro x5 (And.intro x6 (And.intro x7 x8)))))))
    by_cases k2 : p = [46, 46]
    · obtain rfl : xx = ⟨#[46, 46]⟩ := by rw [← hpx, k2]
      by_cases hps : ps = []
      · have hst : stp1 ps p = (7, []) := by unfold stp1; rw [if_neg (by rintro (h | h); exact k0 h; exact k1 h), if_pos k2, if_pos hps]
        rw [hst, if_neg (by decide), hpx] at hnx
        rw [show ps.isEmpty = true by rw [hps]; rfl] at hroot
        have HN := Lib.hid hnx
        clear e1 e2 e3 e4 x5 x6 x7 x8 hst hnx hpx hpn hpl k0 k1 k2 hAD hps
        gi_wp2
        refine ⟨(KeepsOthers.setCell _ _ _).trans (KeepsOthers.setCell _ _ _), rfl, 7, by decide, by rw [HN.out], ?_, ?_, ?_⟩
        · exact (HI.out.2.2.2.2.2.1.set _).other (by omega) _
        · exact (HI.out.2.2.2.2.2.2.1.other (by omega) _).set _
        · exact (HI.out.2.2.2.2.2.2.2.setCell (p := ⟨w.heap.size, 0, none⟩) (Nat.le_refl _) _).setCell (p := ⟨w.heap.size + 1, 0, none⟩) (Nat.le_succ _) _
      · obtain ⟨qs, q, hq⟩ : ∃ qs q, ps = qs ++ [q] := ⟨ps.dropLast, ps.getLast hps, (List.dropLast_concat_getLast hps).symm⟩
        have hst : stp1 ps p = (0, qs) := by unfold stp1; rw [if_neg (by rintro (h | h); exact k0 h; exact k1 h), if_pos k2, if_neg hps, hq, List.dropLast_concat]
        rw [hst, if_pos rfl, hpx] at hnx
        rw [show ps.isEmpty = false by rw [hq]; simp] at hroot
        have hqn : (47 : UInt8) ∉ q := e2 q (by rw [hq]; simp)
        have hup : upB AD = bP (adr qs) := by rw [← hAD, hq]; exact upB_adr qs q hqn
        have hsz : AD.size ≤ 200 := by rw [← hAD, bP_size]; exact e4
        have HAB := Lib.hid (fun wX => above_any AD wX hsz (by rw [← hAD, bP_data]; exact adr_suffix ps))
        rw [hup] at HAB
        have hlen : (adr qs).length ≤ 200 := by have := adr_snoc qs q; rw [hq, this] at e4; simp at e4; omega
        have HN := Lib.hid (And.intro hnx (And.intro (fun a ha => e2 a (by rw [hq]; exact List.mem_append_left _ ha) : ∀ a ∈ qs, (47 : UInt8) ∉ a) (And.intro (by rw [hq, List.all_append, Bool.and_eq_true] at e3; exact e3.1 : qs.all tpl = true) hlen)))
        clear e1 e2 e3 e4 x5 x6 x7 x8 hst hnx hpx hpn hpl k0 k1 k2 hAD hps hq hqn hup hsz hlen
        gi_wp2
        refine ⟨trivial, (CallsIn.inRound l (callsIn_wide.2 (HAB.out _))).mono ?_⟩
        rintro e w' ⟨rfl, rfl⟩
        gi_wp2
        refine ⟨KeepsOthers.setCell _ _ _, ⟨by simp, fun k hk hA => heap_setCell_other _ _ _ _ (by show k ≠ w1.heap.size; omega)⟩, qs, HN.out.1, HN.out.2.1, HN.out.2.2.1, HN.out.2.2.2, ?_, ?_, ?_, ?_⟩
        · exact HI.out.2.2.2.2.1.set _
        · exact HI.out.2.2.2.2.2.1.other (by omega) _
        · exact HI.out.2.2.2.2.2.2.1.other (by omega) _
        · exact HI.out.2.2.2.2.2.2.2.setCell (p := ⟨w1.heap.size, 0, none⟩) (by show w.heap.size ≤ w1.heap.size; omega) _
    · have n0 : (xx.toList == []) = false := by rw [← hpx]; exact bP_ne k0
      have n1 : (xx.toList == [46]) = false := by rw [← hpx]; exact bP_ne k1
      have n2 : (xx.toList == [46, 46]) = false := by rw [← hpx]; exact bP_ne k2
      have hjo : AD ++ (xx ++ ⟨#[47]⟩) = bP (adr (ps ++ [p])) := by rw [← hAD, ← hpx, bP_join, ← adr_snoc]
      have hpd : padB (bP (adr (ps ++ [p]))) = (decide ((adr (ps ++ [p])).length ≤ 200) && tpl p) := by
        rw [padB_adr _ (by intro a ha; rcases List.mem_append.1 ha with h | h; exact e2 a h; rw [List.mem_singleton.1 h]; exact hpn), List.all_append, e3]
        simp
      have hxz : xx.size ≤ 200 := by rw [← hpx, bP_size]; omega
      have haz : AD.size ≤ 200 := by rw [← hAD, bP_size]; exact e4
      have HP := Lib.hid (fun wX (hX : Below w.heap.size w wX) => pIsAddr_any (AD ++ (xx ++ ⟨#[47]⟩)) wX (hm.below hX) (by
        have hz : (AD ++ (xx ++ ⟨#[47]⟩)).size = AD.size + (xx.size + 1) := by rw [ByteArray.size_append, ByteArray.size_append]; rfl
        omega))
      rw [hjo, hpd] at HP
      have HJ := Lib.hid hjo
      by_cases hgood : tpl p = true ∧ (adr (ps ++ [p])).length ≤ 200
      · have hst : stp1 ps p = (0, ps ++ [p]) := by unfold stp1; rw [if_neg (by rintro (h | h); exact k0 h; exact k1 h), if_neg k2, if_pos hgood]
        rw [hst, if_pos rfl, hpx] at hnx
        rw [hgood.1, decide_eq_true hgood.2, ← hjo] at HP
        have HN := Lib.hid (And.intro hnx (And.intro (by intro a ha; rcases List.mem_append.1 ha with h | h; exact e2 a h; rw [List.mem_singleton.1 h]; exact hpn : ∀ a ∈ ps ++ [p], (47 : UInt8) ∉ a) (And.intro (by rw [List.all_append, e3]; simp [hgood.1] : (ps ++ [p]).all tpl = true) hgood.2)))
        have hbx := x8.setCell (p := ⟨w1.heap.size, 0, none⟩) (by show w.heap.size ≤ w1.heap.size; omega) (.string (AD ++ (xx ++ ⟨#[47]⟩)))
        have HB := Lib.hid hbx
        clear e1 e2 e3 e4 x5 x6 x7 x8 hst hnx hpx hpn hpl k0 k1 k2 hAD hgood hjo hpd hroot hbx
        gi_wp2
        refine ⟨trivial, (CallsIn.inRound l (callsIn_wide.2 (HP.out _ HB.out))).mono ?_⟩
        rintro e w' ⟨rfl, hbc⟩
        gi_wp2
        refine ⟨(KeepsOthers.setCell _ _ _).trans (keeps_below hbc), ?_, ps ++ [p], HN.out.1, HN.out.2.1, HN.out.2.2.1, HN.out.2.2.2, ?_, ?_, ?_, ?_⟩
        · refine ⟨Nat.le_trans (by simp) hbc.size, fun k hk hA => (hbc.block k (by simpa using hA)).trans (heap_setCell_other _ _ _ _ (by show k ≠ w1.heap.size; omega))⟩
        · rw [← HJ.out]
          exact (hbc.block _ (by simpa using HI.out.2.2.2.2.1.lt)).trans (HI.out.2.2.2.2.1.set _)
        · exact (hbc.block _ (by simpa using HI.out.2.2.2.2.2.1.lt)).trans (HI.out.2.2.2.2.2.1.other (by omega) _)
        · exact (hbc.block _ (by simpa using HI.out.2.2.2.2.2.2.1.lt)).trans (HI.out.2.2.2.2.2.2.1.other (by omega) _)
        · exact HB.out.trans (hbc.mono HB.out.size)
      · have hst : stp1 ps p = (3, []) := by unfold stp1; rw [if_neg (by rintro (h | h); exact k0 h; exact k1 h), if_neg k2, if_neg hgood]
        rw [hst, if_neg (by decide), hpx] at hnx
        rw [show (decide ((adr (ps ++ [p])).length ≤ 200) && tpl p) = false by rw [Bool.and_eq_false_iff]; by_cases hq : tpl p = true; exact .inl (decide_eq_false fun h => hgood ⟨hq, h⟩); exact .inr (by simpa using hq), ← hjo] at HP
        have HN := Lib.hid hnx
        have hbx := x8.setCell (p := ⟨w1.heap.size, 0, none⟩) (by show w.heap.size ≤ w1.heap.size; omega) (.string (AD ++ (xx ++ ⟨#[47]⟩)))
        have HB := Lib.hid hbx
        clear e1 e2 e3 e4 x5 x6 x7 x8 hst hnx hpx hpn hpl k0 k1 k2 hAD hgood hjo hpd hroot hbx
        gi_wp2
        refine ⟨trivial, (CallsIn.inRound l (callsIn_wide.2 (HP.out _ HB.out))).mono ?_⟩
        rintro e w' ⟨rfl, hbc⟩
        have y6 : Boxed w' w.heap.size 9 (.string ⟨#[]⟩) := (hbc.block _ (by simpa using HI.out.2.2.2.2.2.1.lt)).trans (HI.out.2.2.2.2.2.1.other (by omega) _)
        have y7 : Boxed w' (w.heap.size + 1) 22 (.int .i64 0) := (hbc.block _ (by simpa using HI.out.2.2.2.2.2.2.1.lt)).trans (HI.out.2.2.2.2.2.2.1.other (by omega) _)
        have c6 := y6.cell
        have f6 := y6.frozen
        have c7 := y7.cell
        have f7 := y7.frozen
        have hko := (KeepsOthers.setCell W ⟨w1.heap.size, 0, none⟩ (.string (AD ++ (xx ++ ⟨#[47]⟩)))).trans (keeps_below hbc)
        have HY := Lib.hid (And.intro y6 (And.intro y7 (And.intro hko (HB.out.trans (hbc.mono HB.out.size)))))
        clear y6 y7 hbc hko
        gi_wp2
        refine ⟨HY.out.2.2.1.trans ((KeepsOthers.setCell _ _ _).trans (KeepsOthers.setCell _ _ _)), rfl, 3, by decide, by rw [HN.out], ?_, ?_, ?_⟩
        · exact (HY.out.1.set _).other (by omega) _
        · exact (HY.out.2.1.other (by omega) _).set _
        · exact (HY.out.2.2.2.setCell (p := ⟨w.heap.size, 0, none⟩) (Nat.le_refl _) _).setCell (p := ⟨w.heap.size + 1, 0, none⟩) (Nat.le_succ _) _
  case done =>
    rintro D xs W hD rfl ⟨ps, e1, e2, e3, e4, x5, x6, x7, x8⟩ hK
    have c5 := x5.cell
    have c6 := x6.cell
    have f6 := x6.frozen
    have c7 := x7.cell
    have f7 := x7.frozen
    have HE := Lib.hid e1
    have HK := Lib.hid hK
    have HX := Lib.hid (And.intro x6 (And.intro x7 x8))
    clear e1 e2 e3 e4 hK x5 x6 x7 x8
    obtain ⟨AD, hAD⟩ : ∃ AD, bP (adr ps) = AD := ⟨_, rfl⟩
    rw [hAD] at c5
    have HAD := Lib.hid hAD
    clear hAD
    gi_wp2
    have hDl := (Array.getElem?_eq_some_iff.1 HK.out).1
    have hst : stpA ps0 (pieces ref) = (0, ps) := by have := HE.out; unfold stF at this; rwa [back_map] at this
    obtain ⟨hx, ho⟩ := HO.out
    rw [hst] at hx ho
    have hx' : (0 : Int) = x := hx
    subst hx'
    rw [if_pos rfl, HAD.out] at ho
    refine ⟨by simp, .inl ⟨_, _, rfl, run_takeDeferred (((KeepsOthers.setCell _ _ _).trans (KeepsOthers.setCell _ _ _)).same D _ HK.out rfl), ?_⟩⟩
    have y6 : Boxed (((W.setCell ⟨w.heap.size, 0, none⟩ (.string AD)).setCell ⟨w.heap.size + 1, 0, none⟩ (.int .i64 0)).putObj D (.deferred none)) w.heap.size 9 (.string AD) := (World.putObj_heap_other (by omega)).trans ((HX.out.1.set (.string AD)).other (by omega) _)
    have y7 : Boxed (((W.setCell ⟨w.heap.size, 0, none⟩ (.string AD)).setCell ⟨w.heap.size + 1, 0, none⟩ (.int .i64 0)).putObj D (.deferred none)) (w.heap.size + 1) 22 (.int .i64 0) := (World.putObj_heap_other (by omega)).trans ((HX.out.2.1.other (by omega) _).set _)
    have y8 := below_put ((HX.out.2.2.setCell (p := ⟨w.heap.size, 0, none⟩) (Nat.le_refl _) (.string AD)).setCell (p := ⟨w.heap.size + 1, 0, none⟩) (Nat.le_succ _) (.int .i64 0)) (D := D) (by omega) (by simpa using hDl) (.deferred none)
    have z6 := y6.cell
    have z7 := y7.cell
    exact ⟨_, (by simp [results, Tryd.results5, go_sem, z6, z7] : (results _ _).run _ _ = .ok (.tuple #[.string AD, .int .i64 0]) _), by rw [ho], y8⟩
  case stop =>
    rintro D c pre W hD hpre ⟨rfl, er, e1, e2, x6, x7, x8⟩ hK
    have c6 := x6.cell
    have c7 := x7.cell
    have HK := Lib.hid hK
    have HX := Lib.hid (And.intro e1 (And.intro e2 (And.intro x6 (And.intro x7 x8))))
    clear e1 e2 hK x6 x7 x8
    gi_wp2
    have hDl := (Array.getElem?_eq_some_iff.1 HK.out).1
    have hst : (stpA ps0 (pieces ref)).1 = er := by
      obtain ⟨rest, hrest⟩ := hpre
      have h1 := congrArg (List.map fun b => b.data.toList) hrest
      rw [List.map_append, back_map] at h1
      have h2 : (stpA ps0 (pre.map fun b => b.data.toList)).1 = er := HX.out.2.1
      rw [← h1, stpA_stop _ _ _ (by rw [h2]; exact HX.out.1)]
      exact h2
    obtain ⟨hx, ho⟩ := HO.out
    have hx' : er = x := hst.symm.trans hx
    subst hx'
    rw [if_neg HX.out.1] at ho
    refine ⟨by simp, .inl ⟨_, _, rfl, run_takeDeferred HK.out, ?_⟩⟩
    have y6 : Boxed (W.putObj D (.deferred none)) w.heap.size 9 (.string ⟨#[]⟩) := (World.putObj_heap_other (by omega)).trans HX.out.2.2.1
    have y7 : Boxed (W.putObj D (.deferred none)) (w.heap.size + 1) 22 (.int .i64 er) := (World.putObj_heap_other (by omega)).trans HX.out.2.2.2.1
    have y8 := below_put HX.out.2.2.2.2 (D := D) (by omega) hDl (.deferred none)
    have z6 := y6.cell
    have z7 := y7.cell
    exact ⟨_, (by simp [results, Tryd.results5, go_sem, z6, z7] : (results _ _).run _ _ = .ok (.tuple #[.string ⟨#[]⟩, .int .i64 er]) _), by rw [ho], y8⟩
end Go.Proofs.YtekgpimlanaokaaDoor
