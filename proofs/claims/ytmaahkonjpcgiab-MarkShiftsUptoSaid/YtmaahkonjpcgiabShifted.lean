/- DERIVED. What the reference's Shifted returns: by induction over the document. Condition: at most 2^40 nodes, levels from 1 to 6, a shift from -5 to 5. -/
import Derived.Test.YtmaahkonjpcgiabShiftWalk
import Derived.Deep.AppendLies
set_option linter.unusedSimpArgs false
set_option linter.unusedVariables false
namespace Go.Proofs.Ytmaahkonjpcgiab
open Go.RowKit

/-- Six cells of a row that is put together are a node's. -/
def ElX (w : World) (rb : Option Nat) (lo : Nat) (ys : List Value) (a : Doc) : Prop :=
  ∃ k lv t d ti kids rest A' n' c', a = .cons k lv t d ti kids rest ∧ ys.take 6 = ndCells k lv t d ti A' n' c' ∧ n' ≤ c' ∧ c' ≤ maxLen ∧
      (Lit.int .i64 k).wf = true ∧ (Lit.int .i64 lv).wf = true ∧ t.size ≤ maxLen ∧ d.size ≤ maxLen ∧ ti.size ≤ maxLen ∧ kids.AtP w (fun q => lo ≤ q ∧ q < w.heap.size ∧ some q ≠ rb) A' n'
theorem ElX.keep {w w' : World} {rb rb' : Option Nat} {lo : Nat} {ys ys' : List Value} {a : Doc} (hy : ys'.take 6 = ys.take 6) (hc : ∀ q, q < w.heap.size → some q ≠ rb → w'.heap[q]? = w.heap[q]? ∧ some q ≠ rb') (hs : w.heap.size ≤ w'.heap.size) (h : ElX w rb lo ys a) : ElX w' rb' lo ys' a := by
  obtain ⟨k, lv, t, d, ti, kids, rest, A', n', c', h1, h2, h3, h4, h5, h6, h7, h8, h9, hk⟩ := h
  exact ⟨k, lv, t, d, ti, kids, rest, A', n', c', h1, hy.trans h2, h3, h4, h5, h6, h7, h8, h9, hk.keep (fun x hx => World.cell?_of_block (hc x.block hx.2.1 hx.2.2).1) (fun q hq => ⟨hq.1, Nat.lt_of_lt_of_le hq.2.1 hs, (hc q hq.2.1 hq.2.2).2⟩)⟩
theorem own_val {w : World} {base : Nat} {e : TypeId} {size : Nat} {v : Value} {n : Nat} {xs : List Value} (h : w.ownsRow base e size v n xs) : ∃ A c, v = .slice A n c := by
  rcases h.2 with ⟨rfl, rfl⟩ | ⟨g, cap, cur, rfl, _⟩
  · exact ⟨_, _, rfl⟩
  · exact ⟨_, _, rfl⟩
theorem own_below {w w' : World} {base : Nat} {e : TypeId} {size : Nat} {v : Value} {n : Nat} {xs : List Value} (h : w.ownsRow base e size v n xs) (hb : Below w.heap.size w w') : w'.ownsRow base e size v n xs := by
  refine h.kept (row := none) ⟨hb.os, hb.tape, hb.output, hb.size, fun q hq _ => hb.block q hq⟩ ?_
  cases hv : v.ownBlock with
  | none => exact .inl rfl
  | some g => exact .inr (by simp)
theorem shift_drop : ∀ (i : Nat) (a : Doc) (b : Int), (a.shift b).drop i = (a.drop i).shift b
  | 0, a, b => by rw [Doc.drop_zero', Doc.drop_zero']
  | i + 1, .nil, b => rfl
  | i + 1, .cons _ _ _ _ _ _ r, b => shift_drop i r b
/-- A row that holds a document's nodes. -/
theorem row_doc {w : World} {lo g cap : Nat} {a : Doc} {n : Nat} {xs : List Value} (h : w.ownsRow lo 47 6 (.slice (some ⟨g, 0, none⟩) n cap) n xs) (hn : n = a.len) (hg : lo ≤ g ∧ g < w.heap.size)
    (hel : ∀ j, j < n → ElX w (some g) lo (xs.drop (j * 6)) (a.drop j)) : a.AtP w (fun q => lo ≤ q ∧ q < w.heap.size) (some ⟨g, 0, none⟩) n := by
  rw [hn]
  refine Doc.AtP.of_els (p := fun q => lo ≤ q ∧ q < w.heap.size ∧ some q ≠ some g) hg (fun q hq => ⟨hq.1, hq.2.1⟩) a 0 fun j hj => ?_
  rw [← hn] at hj
  obtain ⟨k, lv, t, d, ti, kids, rest, A', n', c', h1, h2, h3, h4, h5, h6, h7, h8, h9, hk⟩ := hel j hj
  refine ⟨k, lv, t, d, ti, kids, rest, A', n', c', h1, fun i v hv => ?_, h3, h4, h5, h6, h7, h8, h9, hk⟩
  have hi : i < 6 := (List.getElem?_eq_some_iff.1 hv).1
  rw [h.cellAt (0 + j * 6 + i) (by omega)]
  rw [← h2, List.getElem?_take, if_pos hi, List.getElem?_drop] at hv
  rw [show 0 + j * 6 + i = j * 6 + i by omega]
  exact hv
theorem six_info : (Try.prog.info? 47).map (fun i => (i.zero, i.size, i.bytes)) = some (some (Value.agg #[.int .i64 0, .int .i64 0, .string ⟨#[]⟩, .string ⟨#[]⟩, .string ⟨#[]⟩, .slice none 0 0]), 6, 88) := by kernel_rfl
theorem new_node (w : World) (a : Addr) (u : Value) (cs : Array Value) (t : TypeId) : ((w.setCell a u).alloc (.cells cs t)).heap[w.heap.size]? = some (.cells cs t) := by
  have h : (w.setCell a u).heap.size = w.heap.size := by simp
  rw [← h]
  show ((w.setCell a u).heap.push (.cells cs t))[(w.setCell a u).heap.size]? = _
  exact Array.getElem?_push_size

def ShiftedPost (a : Doc) (b : Int) (n : Nat) (w : World) (e : Ending) (w' : World) : Prop :=
  ∃ (A' : Option Addr) (c' : Nat), e = .returned (.slice A' n c') ∧ n ≤ c' ∧ c' ≤ maxLen ∧ (a.shift b).AtP w' (fun q => w.heap.size ≤ q ∧ q < w'.heap.size) A' n ∧ Below w.heap.size w w'

set_option maxRecDepth 100000 in
set_option maxHeartbeats 1600000 in
theorem shifted_any (b : Int) (hb0 : -5 ≤ b) (hb1 : b ≤ 5) (N : Nat) : ∀ (a : Doc) (A : Option Addr) (n c : Nat) (w : World), a.nodes ≤ N → a.nodes ≤ 1099511627776 → a.lvOk → a.At w w.heap.size A n →
    Calls Try.prog 14 #[.slice A n c, .int .i64 b] w (ShiftedPost a b n w) := by
  induction N with
  | zero =>
    intro a A n c w hN _ _ ha
    have h0 : a = .nil := by
      cases a with
      | nil => rfl
      | cons => simp [Doc.nodes] at hN
    subst h0
    obtain rfl : n = 0 := ha.len_eq
    clear ha hN
    go_enter Try.func14, Try.ntmps14
    go_wp2_with fail
    refine wp_loop_rounds 1 ?_
    rw [rounds_succ]
    go_wp2_with fail
    go_ret
    exact ⟨none, 0, rfl, Nat.le_refl _, Nat.zero_le _, rfl, Below.refl _ _⟩
  | succ N ih =>
    intro a A n c w hN hbig hlv ha
    obtain ⟨i0, hi, hz0, hz1, hz2⟩ := info_parts six_info
    have IH := Lib.hid ih; clear ih
    have hnl := ha.len_eq
    have hn : n ≤ 1099511627776 := Nat.le_trans (by rw [hnl]; exact Doc.len_le a) hbig
    have HNL := Lib.hid hnl; clear hnl
    have HA := Lib.hid ha; clear ha
    have HLV := Lib.hid hlv; clear hlv
    go_enter Try.func14, Try.ntmps14
    go_wp2_with fail
    go_loopw [5, 10] (fun v i wr => ∃ (k : Nat) (xs : List Value), k ≤ n ∧ i = .int .i64 k ∧ wr.ownsRow w.heap.size 47 6 v k xs ∧ (∀ j, j < k → ElX wr v.ownBlock w.heap.size (xs.drop (j * 6)) ((a.shift b).drop j)) ∧ Below w.heap.size w wr) (fun _ i _ => n - (intOf i).toNat)
    case atStart => exact ⟨0, [], Nat.zero_le _, rfl, World.ownsRow_nil _ _ _ _, fun j hj => absurd hj (Nat.not_lt_zero _), Below.refl _ _⟩
    case round =>
      obtain ⟨k, xs, hk, rfl, hown, hel, hbw⟩ := hrel
      have hOW := Lib.hid hown
      obtain ⟨Av, cv, rfl⟩ := own_val hown
      clear hown
      have HEL := Lib.hid hel; clear hel
      by_cases hlt : k < n
      · obtain ⟨bb, off, k1, l1, t1, d1, i1, A1, n1, c1, kd, r, rfl, e1, e2, E⟩ := HA.out.el k hlt
        have E' := E.below hbw
        obtain ⟨hlb, x0, x1, x2, x3, x4, x5, hnc, hcm, hkw, hlw, hts, hds, htis, hat⟩ := E'
        clear E
        have hsb : bb < wr.heap.size := Nat.lt_of_lt_of_le hlb hbw.size
        have hlv1 := Doc.lvOk_drop k a HLV.out
        rw [e1] at hlv1
        have hkn : kd.nodes ≤ N ∧ kd.nodes ≤ 1099511627776 := by
          have h1 := Doc.nodes_drop' k a
          rw [e1] at h1
          simp only [Doc.nodes] at h1
          omega
        have hcall : ∀ wX, Below w.heap.size wr wX → Calls Try.prog 14 #[.slice A1 n1 c1, .int .i64 b] wX (ShiftedPost kd b n1 wX) := fun wX hX =>
          IH.out kd A1 n1 c1 wX hkn.1 hkn.2 hlv1.2.1 ((hat.below hX).more (Nat.le_trans hbw.size hX.size))
        have HC := Lib.hid hcall; clear hcall
        have hsd : (a.shift b).drop k = .cons k1 (Doc.lev k1 l1 b) t1 d1 i1 (kd.shift b) (r.shift b) := by rw [shift_drop, e1]; rfl
        have HSD := Lib.hid hsd; clear hsd
        have hlev := hlv1.1
        have HFA := Lib.hid (And.intro hkw (And.intro (lev_wf (k := k1) (b := b) hlw) (And.intro hts (And.intro hds htis))))
        clear e1 e2 hat hkn hkw hlw hts hds htis hnc hcm hlv1
        have hw0 : Below wr.heap.size wr (wr.alloc (.cells #[.int .i64 k1, .int .i64 l1, .string t1, .string d1, .string i1, .slice A1 n1 c1] 47)) := (Below.refl _ _).alloc (Nat.le_refl _) _
        have hs0 : (wr.alloc (.cells #[.int .i64 k1, .int .i64 l1, .string t1, .string d1, .string i1, .slice A1 n1 c1] 47)).heap.size = wr.heap.size + 1 := by simp
        have H0 := Lib.hid hw0; clear hw0
        have HS0 := Lib.hid hs0; clear hs0
        by_cases g1 : k1 = 1
        · subst g1
          obtain ⟨hl0, hl1⟩ := hlev rfl
          have hlx : Doc.lev 1 l1 b = min (max (l1 + b) 1) 6 := rfl
          obtain ⟨lx, hlxe⟩ : ∃ lx, min (max (l1 + b) 1) 6 = lx := ⟨_, rfl⟩
          have HLX := Lib.hid (hlx.trans hlxe); clear hlx
          go_wp2_with fail
          have HY0 := Lib.hid (show Below wr.heap.size wr (wr.alloc (.cells #[.int .i64 1, .int .i64 lx, .string t1, .string d1, .string i1, .slice A1 n1 c1] 47)) from (Below.refl _ _).alloc (Nat.le_refl _) _)
          refine (HC.out _ (HY0.out.mono hbw.size)).mono ?_
          rintro e w1 ⟨A2, c2, rfl, hc2, hm2, hat2, hb2⟩
          have hsx : (wr.alloc (.cells #[.int .i64 1, .int .i64 lx, .string t1, .string d1, .string i1, .slice A1 n1 c1] 47)).heap.size = wr.heap.size + 1 := by simp
          rw [hsx] at hat2 hb2
          have y0 := hb2.cell (p := ⟨wr.heap.size, 0, none⟩) (Nat.lt_succ_self _)
          have y1 := hb2.cell (p := ⟨wr.heap.size, 1, none⟩) (Nat.lt_succ_self _)
          have y2 := hb2.cell (p := ⟨wr.heap.size, 2, none⟩) (Nat.lt_succ_self _)
          have y3 := hb2.cell (p := ⟨wr.heap.size, 3, none⟩) (Nat.lt_succ_self _)
          have y4 := hb2.cell (p := ⟨wr.heap.size, 4, none⟩) (Nat.lt_succ_self _)
          have y5 := hb2.cell (p := ⟨wr.heap.size, 5, none⟩) (Nat.lt_succ_self _)
          have f5 := hb2.frozen (p := ⟨wr.heap.size, 5, none⟩) (Nat.lt_succ_self _)
          simp at y0 y1 y2 y3 y4 y5 f5
          have hbr : Below wr.heap.size wr w1 := HY0.out.trans (hb2.mono (Nat.le_succ _))
          have hs1 : wr.heap.size < w1.heap.size := by have := hb2.size; rw [hsx] at this; exact this
          have hbs : Below wr.heap.size wr (w1.setCell ⟨wr.heap.size, 5, none⟩ (.slice A2 n1 c2)) := hbr.setCell (p := ⟨wr.heap.size, 5, none⟩) (Nat.le_refl _) _
          have HO1 := Lib.hid (own_below hOW.out hbs)
          have HBR := Lib.hid hbr; clear hbr
          have HBS := Lib.hid hbs; clear hbs
          have HAT := Lib.hid hat2; clear hat2
          have HCM := Lib.hid (And.intro hc2 hm2); clear hc2 hm2
          have HNW := Lib.hid (World.news_of_block (new_node w1 ⟨wr.heap.size, 5, none⟩ (.slice A2 n1 c2) #[.int .i64 1, .int .i64 lx, .string t1, .string d1, .string i1, .slice A2 n1 c2] 47))
          have hwb : w.heap.size ≤ w1.heap.size := Nat.le_trans hbw.size (Nat.le_of_lt hs1)
          clear hb2 hsx
          go_wp2_with (at_builtin; go_loud (refine wpList_append_lies _ rfl _ _ 22 rfl w.heap.size 47 i0 _ 6 88 Try.underlying22 hi hz0 hz1 hz2 rfl (by decide) (.slice Av k cv) k xs rfl (HO1.out.alloc _) ⟨w1.heap.size, 0, none⟩ 1 1 [.int .i64 1, .int .i64 lx, .string t1, .string d1, .string i1, .slice A2 n1 c2] rfl rfl HNW.out (by simp [Value.oneCell']) (by omega) (by unfold maxLen; omega) (by omega) (by simp; omega) (w1.heap.size + 1) (by simp) ?_; intro gg cap2 w2 hown' hgrow hat3 hlt2))
          go_roundw
          case rel =>
            have hxl : xs.length = k * 6 := hOW.out.1
            have hsz2 : w1.heap.size + 1 ≤ w2.heap.size := by have := hgrow.size; simpa using this
            have hob : ∀ q, (Value.slice Av k cv).ownBlock = some q → w.heap.size ≤ q ∧ q < wr.heap.size := fun q hq => hOW.out.lt q hq
            have hbY : Below wr.heap.size wr ((w1.setCell ⟨wr.heap.size, 5, none⟩ (.slice A2 n1 c2)).alloc (.cells #[.int .i64 1, .int .i64 lx, .string t1, .string d1, .string i1, .slice A2 n1 c2] 47)) := HBS.out.alloc (by simp; omega) _
            have hsY : ((w1.setCell ⟨wr.heap.size, 5, none⟩ (.slice A2 n1 c2)).alloc (.cells #[.int .i64 1, .int .i64 lx, .string t1, .string d1, .string i1, .slice A2 n1 c2] 47)).heap.size = w1.heap.size + 1 := by simp
            refine ⟨k + 1, xs ++ [.int .i64 1, .int .i64 lx, .string t1, .string d1, .string i1, .slice A2 n1 c2], by omega, by go_num, hown', fun j hj => ?_, ?_⟩
            · by_cases hjk : j = k
              · subst hjk
                rw [HSD.out, HLX.out]
                have hw := HFA.out.2.1
                rw [HLX.out] at hw
                refine ⟨1, lx, t1, d1, i1, kd.shift b, r.shift b, A2, n1, c2, rfl, ?_, HCM.out.1, HCM.out.2, HFA.out.1, hw, HFA.out.2.2.1, HFA.out.2.2.2.1, HFA.out.2.2.2.2, HAT.out.keep (fun x hx => ?_) (fun q hq => ⟨Nat.le_trans hbw.size (by omega), by omega, ?_⟩)⟩
                · rw [List.drop_append_of_le_length (by omega), List.drop_of_length_le (by omega)]; rfl
                · have hne : some x.block ≠ (Value.slice Av j cv).ownBlock := fun h => by have := hob _ h.symm; omega
                  refine (World.cell?_of_block (hgrow.block x.block (by rw [hsY]; omega) hne)).trans ?_
                  refine (World.cell?_of_block (Below.heap_alloc _ _ _ (by simp; omega))).trans ?_
                  exact World.cell?_of_block (Below.heap_setCell _ _ _ _ (by show x.block ≠ wr.heap.size; omega))
                · intro h
                  have hqg : q = gg := by simpa [Value.ownBlock] using h
                  rcases hat3 with h3 | h3
                  · have := hob gg h3; omega
                  · omega
              · have hjl : j < k := by omega
                refine (HEL.out j hjl).keep ?_ (fun q hq hne => ⟨?_, ?_⟩) (by omega)
                · rw [List.drop_append_of_le_length (by omega), List.take_append_of_le_length (by rw [List.length_drop]; omega)]
                · exact (hgrow.block q (by rw [hsY]; omega) hne).trans (hbY.block q hq)
                · intro h
                  have hqg : q = gg := by simpa [Value.ownBlock] using h
                  rcases hat3 with h3 | h3
                  · exact hne (by rw [h3, hqg])
                  · omega
            · exact (hbw.trans (hbY.mono hbw.size)).grown hgrow (by rw [hsY]; omega) (fun q hq => (hob q hq).1)
          case measure => simp [intOf]; omega
        · have HLX := Lib.hid (show Doc.lev k1 l1 b = l1 by unfold Doc.lev; rw [if_neg g1])
          go_wp2_with fail
          refine (HC.out _ (H0.out.mono hbw.size)).mono ?_
          rintro e w1 ⟨A2, c2, rfl, hc2, hm2, hat2, hb2⟩
          have hsx := HS0.out
          rw [hsx] at hat2 hb2
          have y0 := hb2.cell (p := ⟨wr.heap.size, 0, none⟩) (Nat.lt_succ_self _)
          have y1 := hb2.cell (p := ⟨wr.heap.size, 1, none⟩) (Nat.lt_succ_self _)
          have y2 := hb2.cell (p := ⟨wr.heap.size, 2, none⟩) (Nat.lt_succ_self _)
          have y3 := hb2.cell (p := ⟨wr.heap.size, 3, none⟩) (Nat.lt_succ_self _)
          have y4 := hb2.cell (p := ⟨wr.heap.size, 4, none⟩) (Nat.lt_succ_self _)
          have y5 := hb2.cell (p := ⟨wr.heap.size, 5, none⟩) (Nat.lt_succ_self _)
          have f5 := hb2.frozen (p := ⟨wr.heap.size, 5, none⟩) (Nat.lt_succ_self _)
          simp at y0 y1 y2 y3 y4 y5 f5
          have hbr : Below wr.heap.size wr w1 := H0.out.trans (hb2.mono (Nat.le_succ _))
          have hs1 : wr.heap.size < w1.heap.size := by have := hb2.size; rw [hsx] at this; exact this
          have hbs : Below wr.heap.size wr (w1.setCell ⟨wr.heap.size, 5, none⟩ (.slice A2 n1 c2)) := hbr.setCell (p := ⟨wr.heap.size, 5, none⟩) (Nat.le_refl _) _
          have HO1 := Lib.hid (own_below hOW.out hbs)
          have HBR := Lib.hid hbr; clear hbr
          have HBS := Lib.hid hbs; clear hbs
          have HAT := Lib.hid hat2; clear hat2
          have HCM := Lib.hid (And.intro hc2 hm2); clear hc2 hm2
          have HNW := Lib.hid (World.news_of_block (new_node w1 ⟨wr.heap.size, 5, none⟩ (.slice A2 n1 c2) #[.int .i64 k1, .int .i64 l1, .string t1, .string d1, .string i1, .slice A2 n1 c2] 47))
          have hwb : w.heap.size ≤ w1.heap.size := Nat.le_trans hbw.size (Nat.le_of_lt hs1)
          clear hb2 hsx
          go_wp2_with (at_builtin; go_loud (refine wpList_append_lies _ rfl _ _ 22 rfl w.heap.size 47 i0 _ 6 88 Try.underlying22 hi hz0 hz1 hz2 rfl (by decide) (.slice Av k cv) k xs rfl (HO1.out.alloc _) ⟨w1.heap.size, 0, none⟩ 1 1 [.int .i64 k1, .int .i64 l1, .string t1, .string d1, .string i1, .slice A2 n1 c2] rfl rfl HNW.out (by simp [Value.oneCell']) (by omega) (by unfold maxLen; omega) (by omega) (by simp; omega) (w1.heap.size + 1) (by simp) ?_; intro gg cap2 w2 hown' hgrow hat3 hlt2))
          go_roundw
          case rel =>
            have hxl : xs.length = k * 6 := hOW.out.1
            have hsz2 : w1.heap.size + 1 ≤ w2.heap.size := by have := hgrow.size; simpa using this
            have hob : ∀ q, (Value.slice Av k cv).ownBlock = some q → w.heap.size ≤ q ∧ q < wr.heap.size := fun q hq => hOW.out.lt q hq
            have hbY : Below wr.heap.size wr ((w1.setCell ⟨wr.heap.size, 5, none⟩ (.slice A2 n1 c2)).alloc (.cells #[.int .i64 k1, .int .i64 l1, .string t1, .string d1, .string i1, .slice A2 n1 c2] 47)) := HBS.out.alloc (by simp; omega) _
            have hsY : ((w1.setCell ⟨wr.heap.size, 5, none⟩ (.slice A2 n1 c2)).alloc (.cells #[.int .i64 k1, .int .i64 l1, .string t1, .string d1, .string i1, .slice A2 n1 c2] 47)).heap.size = w1.heap.size + 1 := by simp
            refine ⟨k + 1, xs ++ [.int .i64 k1, .int .i64 l1, .string t1, .string d1, .string i1, .slice A2 n1 c2], by omega, by go_num, hown', fun j hj => ?_, ?_⟩
            · by_cases hjk : j = k
              · subst hjk
                rw [HSD.out, HLX.out]
                have hw := HFA.out.2.1
                rw [HLX.out] at hw
                refine ⟨k1, l1, t1, d1, i1, kd.shift b, r.shift b, A2, n1, c2, rfl, ?_, HCM.out.1, HCM.out.2, HFA.out.1, hw, HFA.out.2.2.1, HFA.out.2.2.2.1, HFA.out.2.2.2.2, HAT.out.keep (fun x hx => ?_) (fun q hq => ⟨Nat.le_trans hbw.size (by omega), by omega, ?_⟩)⟩
                · rw [List.drop_append_of_le_length (by omega), List.drop_of_length_le (by omega)]; rfl
                · have hne : some x.block ≠ (Value.slice Av j cv).ownBlock := fun h => by have := hob _ h.symm; omega
                  refine (World.cell?_of_block (hgrow.block x.block (by rw [hsY]; omega) hne)).trans ?_
                  refine (World.cell?_of_block (Below.heap_alloc _ _ _ (by simp; omega))).trans ?_
                  exact World.cell?_of_block (Below.heap_setCell _ _ _ _ (by show x.block ≠ wr.heap.size; omega))
                · intro h
                  have hqg : q = gg := by simpa [Value.ownBlock] using h
                  rcases hat3 with h3 | h3
                  · have := hob gg h3; omega
                  · omega
              · have hjl : j < k := by omega
                refine (HEL.out j hjl).keep ?_ (fun q hq hne => ⟨?_, ?_⟩) (by omega)
                · rw [List.drop_append_of_le_length (by omega), List.take_append_of_le_length (by rw [List.length_drop]; omega)]
                · exact (hgrow.block q (by rw [hsY]; omega) hne).trans (hbY.block q hq)
                · intro h
                  have hqg : q = gg := by simpa [Value.ownBlock] using h
                  rcases hat3 with h3 | h3
                  · exact hne (by rw [h3, hqg])
                  · omega
            · exact (hbw.trans (hbY.mono hbw.size)).grown hgrow (by rw [hsY]; omega) (fun q hq => (hob q hq).1)
          case measure => simp [intOf]; omega
      · obtain rfl : k = n := by omega
        have hlen : (a.shift b).len = k := by rw [Doc.shift_len]; exact HNL.out.symm
        rcases hOW.out.2 with ⟨hv, h0⟩ | ⟨g, cap, cur, hv, hlo, hhp, hcap, hmx, _, _⟩
        · subst h0
          have hnil : a.shift b = .nil := by
            cases hh : a.shift b with
            | nil => rfl
            | cons => rw [hh] at hlen; simp [Doc.len] at hlen
          have HNI := Lib.hid hnil
          injection hv with e1 _ e3
          subst e1 e3
          clear hnil hlen
          go_wp2_with fail
          go_ret
          exact ⟨none, 0, rfl, Nat.le_refl _, Nat.zero_le _, by rw [HNI.out]; rfl, hbw⟩
        · injection hv with e1 _ e3
          subst e1 e3
          have hd := row_doc hOW.out hlen.symm ⟨hlo, (Array.getElem?_eq_some_iff.1 hhp).1⟩ (fun j hj => HEL.out j hj)
          have HD := Lib.hid hd
          clear hd hlen
          go_wp2_with fail
          go_ret
          exact ⟨_, _, rfl, hcap, hmx, HD.out, hbw⟩
end Go.Proofs.Ytmaahkonjpcgiab
