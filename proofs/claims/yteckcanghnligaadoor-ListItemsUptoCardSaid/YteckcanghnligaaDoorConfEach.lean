/- DERIVED. The error of a value and its items: what conf's checkEach returns, by induction over the value. Condition: at most 2^40 values and letters. -/
import Derived.Test.YteckcanghnligaaDoorConfCount
namespace Go.Proofs.YteckcanghnligaaDoor
set_option linter.unusedVariables false
open Go.RowKit
theorem oneErr_nz {k : Int} {bo : Bool} {i : Int} {t : ByteArray} {items : Vals} {keys : List ByteArray} {x : Int} (h : valErr leS k bo i t items.len keys = x) (hx : ¬ x = 0) : oneErr leS k bo i t items keys = x := by
  unfold oneErr
  rw [h, if_pos hx]
theorem oneErr_z {k : Int} {bo : Bool} {i : Int} {t : ByteArray} {items : Vals} {keys : List ByteArray} (h : valErr leS k bo i t items.len keys = 0) : oneErr leS k bo i t items keys = items.err leS := by
  unfold oneErr
  rw [h, if_neg (by simp)]
theorem err_cons_nz {k : Int} {bo : Bool} {i : Int} {t : ByteArray} {items r : Vals} {keys : List ByteArray} {x : Int} (h : oneErr leS k bo i t items keys = x) (hx : ¬ x = 0) : (Vals.cons k bo i t items keys r).err leS = x := by
  unfold oneErr at h
  simp only [Vals.err]
  by_cases h1 : valErr leS k bo i t items.len keys ≠ 0
  · rw [if_pos h1] at h ⊢; exact h
  · rw [if_neg h1] at h ⊢
    rw [if_pos (by rw [h]; exact hx)]; exact h
theorem err_cons_z {k : Int} {bo : Bool} {i : Int} {t : ByteArray} {items r : Vals} {keys : List ByteArray} (h : oneErr leS k bo i t items keys = 0) : (Vals.cons k bo i t items keys r).err leS = r.err leS := by
  unfold oneErr at h
  simp only [Vals.err]
  by_cases h1 : valErr leS k bo i t items.len keys ≠ 0
  · rw [if_pos h1] at h; exact absurd h h1
  · rw [if_neg h1] at h ⊢
    rw [if_neg (by simpa using h)]
theorem Vals.letters_at {j : Nat} {d : Vals} {k : Int} {bo : Bool} {i : Int} {t : ByteArray} {it : Vals} {ks : List ByteArray} {r : Vals} (e : d.drop j = .cons k bo i t it ks r) : it.letters ≤ d.letters ∧ ks.length ≤ d.letters ∧ it.nodes + 1 ≤ d.nodes := by
  have h1 := Vals.letters_drop j d
  have h2 := Vals.nodes_drop j d
  have h3 := kz_len ks
  rw [e] at h1 h2
  simp only [Vals.letters] at h1
  simp only [Vals.nodes] at h2
  omega

set_option maxRecDepth 100000 in
set_option maxHeartbeats 800000 in
theorem checkEach_gen (k : Int) (bo : Bool) (i : Int) (t : ByteArray) (A1 : Option Addr) (n1 c1 : Nat) (A2 : Option Addr) (n2 c2 : Nat) (items : Vals) (keys : List ByteArray) (w : World)
    (hv : VOk w w.heap.size k i t A1 n1 c1 A2 n2 c2 items keys) (hbig : items.nodes ≤ 1099511627776) (hn2 : n2 ≤ 1099511627776)
    (hc : AtItems 23 items n1 (fun k bo i t it ks => .int .i64 (oneErr leS k bo i t it ks))) :
    Calls Tryd.prog 23 #[.agg #[.int .i64 k, .bool bo, .int .i64 i, .string t, .slice A1 n1 c1, .slice A2 n2 c2]] w
      fun e w' => e = .returned (.int .i64 (oneErr leS k bo i t items keys)) ∧ Below w.heap.size w w' := by
  have HC := Lib.hid hc; clear hc
  have ha := hv.at_
  have hnl := ha.len_eq
  have hn : n1 ≤ items.nodes := by rw [hnl]; exact Vals.len_le items
  have hf := fun wX (hX : Below w.heap.size w wX) => checkFields_any k bo i t A1 n1 c1 A2 n2 c2 items keys wX ((hv.below hX).more hX.size) hn2
  have HX := Lib.hid (fun (w1 : World) (B : Nat) (hb : Below B (w.alloc (boxOf k bo i t A1 n1 c1 A2 n2 c2)) w1) (hB : w.heap.size < B) => box6 hb hB)
  unfold boxOf at HX
  obtain ⟨x, hx⟩ : ∃ x, valErr leS k bo i t n1 keys = x := ⟨_, rfl⟩
  rw [hx] at hf
  have hx2 : valErr leS k bo i t items.len keys = x := by rw [← hnl]; exact hx
  have HF := Lib.hid hf; clear hf
  have HXV := Lib.hid hx2; clear hx2 hx
  have HNL := Lib.hid hnl; clear hnl
  have HA := Lib.hid ha; clear ha hv
  go_enter Tryd.func23, Tryd.ntmps23
  go_wp2_with fail
  refine (HF.out _ ((Below.refl _ _).alloc (Nat.le_refl _) _)).mono ?_
  rintro e w1 ⟨rfl, hb1⟩
  have hb1' : Below (w.heap.size + 1) (w.alloc (.cells #[.int .i64 k, .bool bo, .int .i64 i, .string t, .slice A1 n1 c1, .slice A2 n2 c2] 25)) w1 := hb1.mono (by simp)
  clear hb1
  obtain ⟨y0, y1, y2, y3, y4, y5⟩ := HX.out _ _ hb1' (by omega)
  clear y0 y1 y2 y3 y5
  have hbw1 := (below_box hb1').1
  have hs1 := (below_box hb1').2
  have HB1 := Lib.hid hb1'; clear hb1'
  have hlt1 : w.heap.size < w1.heap.size := by omega
  by_cases hx0 : x = 0
  · subst hx0
    go_wp2_with fail
    go_loopw [15] (fun i' wr => ∃ j : Nat, j ≤ n1 ∧ i' = .int .i64 j ∧ items.err leS = (items.drop j).err leS ∧ Below w.heap.size w wr) (fun i' _ => n1 - (intOf i').toNat)
    case atStart => exact ⟨0, Nat.zero_le _, rfl, by rw [Vals.drop_zero], hbw1⟩
    case round =>
      obtain ⟨j, hj, rfl, hx, hbw⟩ := hrel
      clear hbw1 y4 hs1 hlt1 HB1
      have HXX := Lib.hid hx; clear hx
      by_cases hlt : j < n1
      · obtain ⟨b, off, k1, bo1, i1, t1, B1, m1, d1, B2, m2, d2, it, ks, r, rfl, e1, e2, E⟩ := HA.out.el j hlt
        have E' := E.below hbw
        obtain ⟨hlb, x0, x1, x2, x3, x4, x5, hok⟩ := E'
        clear E
        have hsb : b < wr.heap.size := Nat.lt_of_lt_of_le hlb hbw.size
        obtain ⟨y, hy⟩ : ∃ y, oneErr leS k1 bo1 i1 t1 it ks = y := ⟨_, rfl⟩
        have hcall : ∀ wX, Below w.heap.size wr wX → Calls Tryd.prog 23 #[.agg #[.int .i64 k1, .bool bo1, .int .i64 i1, .string t1, .slice B1 m1 d1, .slice B2 m2 d2]] wX fun e w' => e = .returned (.int .i64 y) ∧ Below wX.heap.size wX w' := fun wX hX => by
          rw [← hy]
          exact HC.out j k1 bo1 i1 t1 it ks r hlt e1 B1 m1 d1 B2 m2 d2 wX ((hok.below hX).more (Nat.le_trans hbw.size hX.size))
        have HCL := Lib.hid hcall; clear hcall
        have HY := Lib.hid hy; clear hy
        have HE1 := Lib.hid e1; clear e1
        have HE2 := Lib.hid e2; clear e2 hok
        go_wp2_with fail
        refine (HCL.out _ ((Below.refl _ _).alloc hbw.size _)).mono ?_
        rintro e w2 ⟨rfl, hb2⟩
        have hb3 := hbw.trans ((((Below.refl _ wr).alloc (Nat.le_refl _) _).trans (hb2.mono (by simp))).mono hbw.size)
        clear hb2
        by_cases hy0 : y = 0
        · subst hy0
          go_wp2_with fail
          go_roundw
          case rel => exact ⟨j + 1, by omega, by go_num, by rw [HXX.out, HE1.out, err_cons_z HY.out, HE2.out], hb3⟩
          case measure => simp [intOf]; omega
        · go_wp2_with fail
          go_ret
          exact ⟨retI (by rw [oneErr_z HXV.out, HXX.out, HE1.out, err_cons_nz HY.out hy0]), hb3⟩
      · obtain rfl : j = n1 := by omega
        have hd : (items.drop j).err leS = 0 := by rw [HNL.out, Vals.drop_len]; rfl
        have HD := Lib.hid hd; clear hd
        go_wp2_with fail
        go_ret
        exact ⟨retI (by rw [oneErr_z HXV.out, HXX.out, HD.out]), hbw⟩
  · go_wp2_with fail
    go_ret
    exact ⟨retI (oneErr_nz HXV.out hx0), hbw1⟩
theorem checkEach_any (N : Nat) : ∀ (k : Int) (bo : Bool) (i : Int) (t : ByteArray) (A1 : Option Addr) (n1 c1 : Nat) (A2 : Option Addr) (n2 c2 : Nat) (items : Vals) (keys : List ByteArray) (w : World),
    VOk w w.heap.size k i t A1 n1 c1 A2 n2 c2 items keys → items.nodes ≤ N → items.nodes ≤ 1099511627776 → items.letters ≤ 1099511627776 → n2 ≤ 1099511627776 →
    Calls Tryd.prog 23 #[.agg #[.int .i64 k, .bool bo, .int .i64 i, .string t, .slice A1 n1 c1, .slice A2 n2 c2]] w
      fun e w' => e = .returned (.int .i64 (oneErr leS k bo i t items keys)) ∧ Below w.heap.size w w' := by
  induction N with
  | zero =>
    intro k bo i t A1 n1 c1 A2 n2 c2 items keys w hv hN hbig hl hn2
    have h1 := Vals.len_le items
    have h2 := hv.at_.len_eq
    exact checkEach_gen k bo i t A1 n1 c1 A2 n2 c2 items keys w hv hbig hn2 fun _ _ _ _ _ _ _ _ h => absurd h (by omega)
  | succ N ih =>
    intro k bo i t A1 n1 c1 A2 n2 c2 items keys w hv hN hbig hl hn2
    refine checkEach_gen k bo i t A1 n1 c1 A2 n2 c2 items keys w hv hbig hn2 fun j k' bo' i' t' it ks r hj he A1' n1' c1' A2' n2' c2' wX hv' => ?_
    obtain ⟨g1, g2, g3⟩ := Vals.letters_at he
    have h2 := hv'.ks.1
    exact ih k' bo' i' t' A1' n1' c1' A2' n2' c2' it ks wX hv' (by omega) (by omega) (by omega) (by omega)
end Go.Proofs.YteckcanghnligaaDoor
