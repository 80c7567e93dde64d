/- DERIVED. What list's count, levels and checkEach return for a value: its number of values, of levels, its error. Condition: at most 2^40 values and letters. -/
import Derived.Test.YteckcanghnligaaDoorItemFields
import Derived.Test.YteckcanghnligaaDoorConfEach
namespace Go.Proofs.YteckcanghnligaaDoor
set_option linter.unusedVariables false
open Go.RowKit
theorem itemsOf_any (k : Int) (bo : Bool) (i : Int) (t : ByteArray) (A1 : Option Addr) (n1 c1 : Nat) (A2 : Option Addr) (n2 c2 : Nat) (w : World) :
    Calls Tryd.prog 7 #[.agg #[.int .i64 k, .bool bo, .int .i64 i, .string t, .slice A1 n1 c1, .slice A2 n2 c2]] w fun e w' => e = .returned (.slice A1 n1 c1) ∧ Below w.heap.size w w' := by
  have HB := Lib.hid (fun o => (Below.refl w.heap.size w).alloc (Nat.le_refl _) o)
  go_enter Tryd.func7, Tryd.ntmps7
  go_wp2_with fail
  go_ret
  exact ⟨rfl, HB.out _⟩
/-- What is asked of a function at the items of a value, with further arguments. -/
def AtItemsL (f : FuncId) (more : List Value) (items : Vals) (n : Nat) (r : Int → Bool → Int → ByteArray → Vals → List ByteArray → Value) : Prop :=
  ∀ (j : Nat) (k : Int) (bo : Bool) (i : Int) (t : ByteArray) (it : Vals) (ks : List ByteArray) (rest : Vals), j < n → items.drop j = .cons k bo i t it ks rest →
    ∀ (A1 : Option Addr) (n1 c1 : Nat) (A2 : Option Addr) (n2 c2 : Nat) (wX : World), VOk wX wX.heap.size k i t A1 n1 c1 A2 n2 c2 it ks →
      Calls Tryd.prog f (.agg #[.int .i64 k, .bool bo, .int .i64 i, .string t, .slice A1 n1 c1, .slice A2 n2 c2] :: more).toArray wX fun e w' => e = .returned (r k bo i t it ks) ∧ Below wX.heap.size wX w'
set_option maxRecDepth 100000 in
set_option maxHeartbeats 800000 in
theorem lLevels_gen (k : Int) (bo : Bool) (i : Int) (t : ByteArray) (A1 : Option Addr) (n1 c1 : Nat) (A2 : Option Addr) (n2 c2 : Nat) (items : Vals) (keys : List ByteArray) (w : World)
    (hv : VOk w w.heap.size k i t A1 n1 c1 A2 n2 c2 items keys) (hbig : items.nodes ≤ 1099511627776)
    (hc : AtItemsL 14 [.func (.func 7) #[] #[]] items n1 (fun _ _ _ _ it _ => .int .i64 ((it.levels + 1 : Nat) : Int))) :
    Calls Tryd.prog 14 #[.agg #[.int .i64 k, .bool bo, .int .i64 i, .string t, .slice A1 n1 c1, .slice A2 n2 c2], .func (.func 7) #[] #[]] w
      fun e w' => e = .returned (.int .i64 ((items.levels + 1 : Nat) : Int)) ∧ Below w.heap.size w w' := by
  have HC := Lib.hid hc; clear hc
  have ha := hv.at_
  have hnl := ha.len_eq
  have hn : n1 ≤ items.nodes := by rw [hnl]; exact Vals.len_le items
  have hll := Vals.levels_le items
  have HNL := Lib.hid hnl; clear hnl
  have HA := Lib.hid ha; clear ha hv
  have HI := Lib.hid (fun wX => itemsOf_any k bo i t A1 n1 c1 A2 n2 c2 wX)
  have HB0 := Lib.hid (fun o => (Below.refl w.heap.size w).alloc (Nat.le_refl _) o)
  have eg : ∀ args w, (callFunc 7 args).run Tryd.prog w = .ok (.enter 7 args) w := enters_of Tryd.func7 (by kernel_rfl) rfl
  go_enter Tryd.func14, Tryd.ntmps14
  go_wp2_with fail
  refine (HI.out _).mono ?_
  rintro e w1 ⟨rfl, hb1⟩
  have hb01 := (HB0.out (.cells #[.int .i64 k, .bool bo, .int .i64 i, .string t, .slice A1 n1 c1, .slice A2 n2 c2] 25)).trans (hb1.mono (by simp))
  clear hb1
  go_wp2_with fail
  go_loopw [5, 12] (fun v i' wr => ∃ j x : Nat, j ≤ n1 ∧ i' = .int .i64 j ∧ v = .int .i64 x ∧ max x (items.drop j).levels = items.levels ∧ Below w.heap.size w wr) (fun _ i' _ => n1 - (intOf i').toNat)
  case atStart => exact ⟨0, 0, Nat.zero_le _, rfl, rfl, by rw [Vals.drop_zero]; omega, hb01⟩
  case round =>
    obtain ⟨j, x, hj, rfl, rfl, hx, hbw⟩ := hrel
    clear hb01
    have hxle : x ≤ 1099511627776 := by omega
    by_cases hlt : j < n1
    · obtain ⟨b, off, k1, bo1, i1, t1, B1, m1, d1, B2, m2, d2, it, ks, r, rfl, e1, e2, E⟩ := HA.out.el j hlt
      have E' := E.below hbw
      obtain ⟨hlb, x0, x1, x2, x3, x4, x5, hok⟩ := E'
      clear E
      have hsb : b < wr.heap.size := Nat.lt_of_lt_of_le hlb hbw.size
      have hcall : ∀ wX, Below w.heap.size wr wX → Calls Tryd.prog 14 #[.agg #[.int .i64 k1, .bool bo1, .int .i64 i1, .string t1, .slice B1 m1 d1, .slice B2 m2 d2], .func (.func 7) #[] #[]] wX fun e w' => e = .returned (.int .i64 ((it.levels + 1 : Nat) : Int)) ∧ Below wX.heap.size wX w' := fun wX hX =>
        HC.out j k1 bo1 i1 t1 it ks r hlt e1 _ _ _ _ _ _ wX ((hok.below hX).more (Nat.le_trans hbw.size hX.size))
      have HCL := Lib.hid hcall; clear hcall
      rw [e1] at hx
      simp only [Vals.levels] at hx
      have HE2 := Lib.hid e2; clear e1 e2 hok
      have hil : it.levels ≤ 1099511627776 := by omega
      by_cases hmx : (x : Int) ≤ ((it.levels + 1 : Nat) : Int)
      · go_wp2_with fail
        refine (HCL.out _ ((Below.refl _ _).alloc hbw.size _)).mono ?_
        rintro e w2 ⟨rfl, hb2⟩
        have hb3 := hbw.trans ((((Below.refl _ wr).alloc (Nat.le_refl _) _).trans (hb2.mono (by simp))).mono hbw.size)
        clear hb2
        go_wp2_with fail
        go_roundw
        case rel => exact ⟨j + 1, it.levels + 1, by omega, by go_num, by go_num, by rw [HE2.out]; omega, hb3⟩
        case measure => simp [intOf]; omega
      · go_wp2_with fail
        refine (HCL.out _ ((Below.refl _ _).alloc hbw.size _)).mono ?_
        rintro e w2 ⟨rfl, hb2⟩
        have hb3 := hbw.trans ((((Below.refl _ wr).alloc (Nat.le_refl _) _).trans (hb2.mono (by simp))).mono hbw.size)
        clear hb2
        go_wp2_with fail
        go_roundw
        case rel => exact ⟨j + 1, x, by omega, by go_num, by go_num, by rw [HE2.out]; omega, hb3⟩
        case measure => simp [intOf]; omega
    · obtain rfl : j = n1 := by omega
      have hd : (items.drop j).levels = 0 := by rw [HNL.out, Vals.drop_len]; rfl
      have hxe : x = items.levels := by omega
      have HXE := Lib.hid hxe; clear hxe hx hd
      go_wp2_with fail
      go_ret
      exact ⟨by rw [HXE.out]; rfl, hbw⟩
theorem lLevels_any (N : Nat) : ∀ (k : Int) (bo : Bool) (i : Int) (t : ByteArray) (A1 : Option Addr) (n1 c1 : Nat) (A2 : Option Addr) (n2 c2 : Nat) (items : Vals) (keys : List ByteArray) (w : World),
    VOk w w.heap.size k i t A1 n1 c1 A2 n2 c2 items keys → items.nodes ≤ N → items.nodes ≤ 1099511627776 →
    Calls Tryd.prog 14 #[.agg #[.int .i64 k, .bool bo, .int .i64 i, .string t, .slice A1 n1 c1, .slice A2 n2 c2], .func (.func 7) #[] #[]] w
      fun e w' => e = .returned (.int .i64 ((items.levels + 1 : Nat) : Int)) ∧ Below w.heap.size w w' := by
  induction N with
  | zero =>
    intro k bo i t A1 n1 c1 A2 n2 c2 items keys w hv hN hbig
    have h1 := Vals.len_le items
    have h2 := hv.at_.len_eq
    exact lLevels_gen k bo i t A1 n1 c1 A2 n2 c2 items keys w hv hbig fun _ _ _ _ _ _ _ _ h => absurd h (by omega)
  | succ N ih =>
    intro k bo i t A1 n1 c1 A2 n2 c2 items keys w hv hN hbig
    refine lLevels_gen k bo i t A1 n1 c1 A2 n2 c2 items keys w hv hbig fun j k' bo' i' t' it ks r hj he A1' n1' c1' A2' n2' c2' wX hv' => ?_
    have h1 := Vals.nodes_drop j items
    rw [he] at h1
    simp only [Vals.nodes] at h1
    exact ih k' bo' i' t' A1' n1' c1' A2' n2' c2' it ks wX hv' (by omega) (by omega)
theorem sErr_nz {k : Int} {bo : Bool} {i : Int} {t : ByteArray} {items : Vals} {keys : List ByteArray} {x : Int} (h : valErr leS (sk k) bo i t items.len keys = x) (hx : ¬ x = 0) : oneErr leS (sk k) bo i t items.settle keys = x :=
  oneErr_nz (by rw [Vals.settle_len]; exact h) hx
theorem sErr_z {k : Int} {bo : Bool} {i : Int} {t : ByteArray} {items : Vals} {keys : List ByteArray} (h : valErr leS (sk k) bo i t items.len keys = 0) : oneErr leS (sk k) bo i t items.settle keys = items.settle.err leS :=
  oneErr_z (by rw [Vals.settle_len]; exact h)
set_option maxRecDepth 100000 in
set_option maxHeartbeats 800000 in
theorem lEach_gen (k : Int) (bo : Bool) (i : Int) (t : ByteArray) (A1 : Option Addr) (n1 c1 : Nat) (A2 : Option Addr) (n2 c2 : Nat) (items : Vals) (keys : List ByteArray) (w : World)
    (hv : VOk w w.heap.size k i t A1 n1 c1 A2 n2 c2 items keys) (hbig : items.nodes ≤ 1099511627776) (hn2 : n2 ≤ 1099511627776)
    (hc : AtItemsL 15 [.func (.func 7) #[] #[], .func (.func 8) #[] #[]] items n1 (fun k bo i t it ks => .int .i64 (oneErr leS (sk k) bo i t it.settle ks))) :
    Calls Tryd.prog 15 #[.agg #[.int .i64 k, .bool bo, .int .i64 i, .string t, .slice A1 n1 c1, .slice A2 n2 c2], .func (.func 7) #[] #[], .func (.func 8) #[] #[]] w
      fun e w' => e = .returned (.int .i64 (oneErr leS (sk k) bo i t items.settle keys)) ∧ Below w.heap.size w w' := by
  have HC := Lib.hid hc; clear hc
  have ha := hv.at_
  have hnl := ha.len_eq
  have hn : n1 ≤ items.nodes := by rw [hnl]; exact Vals.len_le items
  have hf := fun wX (hX : Below w.heap.size w wX) => lFields_any k bo i t A1 n1 c1 A2 n2 c2 items keys wX ((hv.below hX).more hX.size) hn2
  have HI := Lib.hid (fun wX => itemsOf_any k bo i t A1 n1 c1 A2 n2 c2 wX)
  have HX := Lib.hid (fun (w1 : World) (B : Nat) (hb : Below B (w.alloc (boxOf k bo i t A1 n1 c1 A2 n2 c2)) w1) (hB : w.heap.size < B) => box6 hb hB)
  unfold boxOf at HX
  obtain ⟨x, hx⟩ : ∃ x, valErr leS (sk k) bo i t n1 keys = x := ⟨_, rfl⟩
  rw [hx] at hf
  have hx2 : valErr leS (sk k) bo i t items.len keys = x := by rw [← hnl]; exact hx
  have HF := Lib.hid hf; clear hf
  have HXV := Lib.hid hx2; clear hx2 hx
  have HNL := Lib.hid hnl; clear hnl
  have HA := Lib.hid ha; clear ha hv
  have eg : ∀ args w, (callFunc 7 args).run Tryd.prog w = .ok (.enter 7 args) w := enters_of Tryd.func7 (by kernel_rfl) rfl
  have ec : ∀ args w, (callFunc 8 args).run Tryd.prog w = .ok (.enter 8 args) w := enters_of Tryd.func8 (by kernel_rfl) rfl
  go_enter Tryd.func15, Tryd.ntmps15
  go_wp2_with fail
  refine (HF.out _ ((Below.refl _ _).alloc (Nat.le_refl _) _)).mono ?_
  rintro e w1 ⟨rfl, hb1⟩
  have hb1' : Below (w.heap.size + 1) (w.alloc (.cells #[.int .i64 k, .bool bo, .int .i64 i, .string t, .slice A1 n1 c1, .slice A2 n2 c2] 25)) w1 := hb1.mono (by simp)
  clear hb1
  obtain ⟨y0, y1, y2, y3, y4, y5⟩ := HX.out _ _ hb1' (by omega)
  have hbw1 := (below_box hb1').1
  have hs1 := (below_box hb1').2
  have HB1 := Lib.hid hb1'; clear hb1'
  have hlt1 : w.heap.size < w1.heap.size := by omega
  by_cases hx0 : x = 0
  · subst hx0
    go_wp2_with fail
    refine (HI.out _).mono ?_
    rintro e w2 ⟨rfl, hb2⟩
    have hbw2 := hbw1.trans (hb2.mono hbw1.size)
    clear hb2
    go_wp2_with fail
    go_loopw [21] (fun i' wr => ∃ j : Nat, j ≤ n1 ∧ i' = .int .i64 j ∧ items.settle.err leS = (items.settle.drop j).err leS ∧ Below w.heap.size w wr) (fun i' _ => n1 - (intOf i').toNat)
    case atStart => exact ⟨0, Nat.zero_le _, rfl, by rw [Vals.drop_zero], hbw2⟩
    case round =>
      obtain ⟨j, hj, rfl, hx, hbw⟩ := hrel
      clear hbw1 hbw2 y0 y1 y2 y3 y4 y5 hs1 hlt1 HB1
      have HXX := Lib.hid hx; clear hx
      by_cases hlt : j < n1
      · obtain ⟨b, off, k1, bo1, i1, t1, B1, m1, d1, B2, m2, d2, it, ks, r, rfl, e1, e2, E⟩ := HA.out.el j hlt
        have E' := E.below hbw
        obtain ⟨hlb, x0, x1, x2, x3, x4, x5, hok⟩ := E'
        clear E
        have hsb : b < wr.heap.size := Nat.lt_of_lt_of_le hlb hbw.size
        obtain ⟨y, hy⟩ : ∃ y, oneErr leS (sk k1) bo1 i1 t1 it.settle ks = y := ⟨_, rfl⟩
        have hcall : ∀ wX, Below w.heap.size wr wX → Calls Tryd.prog 15 #[.agg #[.int .i64 k1, .bool bo1, .int .i64 i1, .string t1, .slice B1 m1 d1, .slice B2 m2 d2], .func (.func 7) #[] #[], .func (.func 8) #[] #[]] wX fun e w' => e = .returned (.int .i64 y) ∧ Below wX.heap.size wX w' := fun wX hX => by
          rw [← hy]
          exact HC.out j k1 bo1 i1 t1 it ks r hlt e1 B1 m1 d1 B2 m2 d2 wX ((hok.below hX).more (Nat.le_trans hbw.size hX.size))
        have HCL := Lib.hid hcall; clear hcall
        have HY := Lib.hid hy; clear hy
        have es1 : items.settle.drop j = .cons (sk k1) bo1 i1 t1 it.settle ks r.settle := by rw [← Vals.settle_drop, e1]; rfl
        have es2 : items.settle.drop (j + 1) = r.settle := by rw [← Vals.settle_drop, e2]
        have HE1 := Lib.hid es1; clear e1 es1
        have HE2 := Lib.hid es2; clear e2 es2 hok
        go_wp2_with fail
        refine (HCL.out _ ((Below.refl _ _).alloc hbw.size _)).mono ?_
        rintro e w2 ⟨rfl, hb2⟩
        have hb3 := hbw.trans ((((Below.refl _ wr).alloc (Nat.le_refl _) _).trans (hb2.mono (by simp))).mono hbw.size)
        clear hb2
        by_cases hy0 : y = 0
        · subst hy0
          go_wp2_with fail
          go_roundw
          case rel => exact ⟨j + 1, by omega, by go_num, by rw [HXX.out, HE1.out, err_cons_z HY.out, HE2.out], hb3⟩
          case measure => simp [intOf]; omega
        · go_wp2_with fail
          go_ret
          exact ⟨retI (by rw [sErr_z HXV.out, HXX.out, HE1.out, err_cons_nz HY.out hy0]), hb3⟩
      · obtain rfl : j = n1 := by omega
        have hd : (items.settle.drop j).err leS = 0 := by rw [HNL.out, ← Vals.settle_len, Vals.drop_len]; rfl
        have HD := Lib.hid hd; clear hd
        go_wp2_with fail
        go_ret
        exact ⟨retI (by rw [sErr_z HXV.out, HXX.out, HD.out]), hbw⟩
  · go_wp2_with fail
    go_ret
    exact ⟨retI (sErr_nz HXV.out hx0), hbw1⟩
theorem lEach_any (N : Nat) : ∀ (k : Int) (bo : Bool) (i : Int) (t : ByteArray) (A1 : Option Addr) (n1 c1 : Nat) (A2 : Option Addr) (n2 c2 : Nat) (items : Vals) (keys : List ByteArray) (w : World),
    VOk w w.heap.size k i t A1 n1 c1 A2 n2 c2 items keys → items.nodes ≤ N → items.nodes ≤ 1099511627776 → items.letters ≤ 1099511627776 → n2 ≤ 1099511627776 →
    Calls Tryd.prog 15 #[.agg #[.int .i64 k, .bool bo, .int .i64 i, .string t, .slice A1 n1 c1, .slice A2 n2 c2], .func (.func 7) #[] #[], .func (.func 8) #[] #[]] w
      fun e w' => e = .returned (.int .i64 (oneErr leS (sk k) bo i t items.settle keys)) ∧ Below w.heap.size w w' := by
  induction N with
  | zero =>
    intro k bo i t A1 n1 c1 A2 n2 c2 items keys w hv hN hbig hl hn2
    have h1 := Vals.len_le items
    have h2 := hv.at_.len_eq
    exact lEach_gen k bo i t A1 n1 c1 A2 n2 c2 items keys w hv hbig hn2 fun _ _ _ _ _ _ _ _ h => absurd h (by omega)
  | succ N ih =>
    intro k bo i t A1 n1 c1 A2 n2 c2 items keys w hv hN hbig hl hn2
    refine lEach_gen k bo i t A1 n1 c1 A2 n2 c2 items keys w hv hbig hn2 fun j k' bo' i' t' it ks r hj he A1' n1' c1' A2' n2' c2' wX hv' => ?_
    obtain ⟨g1, g2, g3⟩ := Vals.letters_at he
    have h2 := hv'.ks.1
    exact ih k' bo' i' t' A1' n1' c1' A2' n2' c2' it ks wX hv' (by omega) (by omega) (by omega) (by omega)
/-- What count returns: the number of values, or one beyond 'most' that is no greater. -/
def CountL (n : Nat) (most : Int) (e : Ending) : Prop :=
  ∃ r : Nat, e = .returned (.int .i64 r) ∧ ((r : Int) ≤ most → r = n) ∧ (most < r → most < n) ∧ r ≤ n
set_option maxRecDepth 100000 in
set_option maxHeartbeats 800000 in
theorem lCount_gen (most : Int) (k : Int) (bo : Bool) (i : Int) (t : ByteArray) (A1 : Option Addr) (n1 c1 : Nat) (A2 : Option Addr) (n2 c2 : Nat) (items : Vals) (keys : List ByteArray) (w : World)
    (hv : VOk w w.heap.size k i t A1 n1 c1 A2 n2 c2 items keys) (hbig : items.nodes ≤ 1099511627776) (hm0 : 0 ≤ most) (hm1 : most ≤ 5000)
    (hc : ∀ (j : Nat) (k : Int) (bo : Bool) (i : Int) (t : ByteArray) (it : Vals) (ks : List ByteArray) (rest : Vals), j < n1 → items.drop j = .cons k bo i t it ks rest →
      ∀ (m : Int) (A1 : Option Addr) (n1 c1 : Nat) (A2 : Option Addr) (n2 c2 : Nat) (wX : World), 0 ≤ m → m ≤ 5000 → VOk wX wX.heap.size k i t A1 n1 c1 A2 n2 c2 it ks →
        Calls Tryd.prog 13 #[.agg #[.int .i64 k, .bool bo, .int .i64 i, .string t, .slice A1 n1 c1, .slice A2 n2 c2], .func (.func 7) #[] #[], .int .i64 m] wX fun e w' => CountL (it.nodes + 1) m e ∧ Below wX.heap.size wX w') :
    Calls Tryd.prog 13 #[.agg #[.int .i64 k, .bool bo, .int .i64 i, .string t, .slice A1 n1 c1, .slice A2 n2 c2], .func (.func 7) #[] #[], .int .i64 most] w
      fun e w' => CountL (items.nodes + 1) most e ∧ Below w.heap.size w w' := by
  have HC := Lib.hid hc; clear hc
  have ha := hv.at_
  have hnl := ha.len_eq
  have hn : n1 ≤ items.nodes := by rw [hnl]; exact Vals.len_le items
  have HNL := Lib.hid hnl; clear hnl
  have HA := Lib.hid ha; clear ha hv
  have HI := Lib.hid (fun wX => itemsOf_any k bo i t A1 n1 c1 A2 n2 c2 wX)
  have HB0 := Lib.hid (fun o => (Below.refl w.heap.size w).alloc (Nat.le_refl _) o)
  have eg : ∀ args w, (callFunc 7 args).run Tryd.prog w = .ok (.enter 7 args) w := enters_of Tryd.func7 (by kernel_rfl) rfl
  go_enter Tryd.func13, Tryd.ntmps13
  go_wp2_with fail
  refine (HI.out _).mono ?_
  rintro e w1 ⟨rfl, hb1⟩
  have hb01 := (HB0.out (.cells #[.int .i64 k, .bool bo, .int .i64 i, .string t, .slice A1 n1 c1, .slice A2 n2 c2] 25)).trans (hb1.mono (by simp))
  clear hb1
  go_wp2_with fail
  go_loopw [7, 9] (fun v i' wr => ∃ j x : Nat, j ≤ n1 ∧ i' = .int .i64 j ∧ v = .int .i64 x ∧ (x + (items.drop j).nodes = items.nodes + 1 ∨ (most < x ∧ most < items.nodes + 1 ∧ x ≤ items.nodes + 1)) ∧ Below w.heap.size w wr) (fun _ i' _ => n1 - (intOf i').toNat)
  case atStart => exact ⟨0, 1, Nat.zero_le _, rfl, rfl, .inl (by rw [Vals.drop_zero]; omega), hb01⟩
  case round =>
    obtain ⟨j, x, hj, rfl, rfl, hx, hbw⟩ := hrel
    clear hb01
    have hld : n1 - j ≤ (items.drop j).nodes := by
      have h1 := Vals.len_le (items.drop j)
      rw [Vals.len_drop, ← HNL.out] at h1
      exact h1
    have hxle : x ≤ items.nodes + 1 := by rcases hx with h | h <;> omega
    by_cases hgo : j < n1 ∧ (x : Int) ≤ most
    · obtain ⟨hlt, hxm⟩ := hgo
      have hx1 : x + (items.drop j).nodes = items.nodes + 1 := by rcases hx with h | h <;> omega
      clear hx
      obtain ⟨b, off, k1, bo1, i1, t1, B1, m1, d1, B2, m2, d2, it, ks, r, rfl, e1, e2, E⟩ := HA.out.el j hlt
      have E' := E.below hbw
      obtain ⟨hlb, x0, x1, x2, x3, x4, x5, hok⟩ := E'
      clear E
      have hsb : b < wr.heap.size := Nat.lt_of_lt_of_le hlb hbw.size
      have hcall := fun wX (hX : Below w.heap.size wr wX) => HC.out j k1 bo1 i1 t1 it ks r hlt e1 (most - x) B1 m1 d1 B2 m2 d2 wX (by omega) (by omega) ((hok.below hX).more (Nat.le_trans hbw.size hX.size))
      have HCL := Lib.hid hcall; clear hcall
      have hrl : n1 - (j + 1) ≤ r.nodes := by
        have h1 := Vals.len_le (items.drop (j + 1))
        rw [Vals.len_drop, ← HNL.out, e2] at h1
        exact h1
      rw [e1] at hx1
      simp only [Vals.nodes] at hx1
      have HE2 := Lib.hid e2; clear e1 e2 hok hld
      go_wp2_with fail
      refine (HCL.out _ (Below.refl _ _)).mono ?_
      rintro e w2 ⟨⟨r1, rfl, g1, g2, g3⟩, hb1⟩
      have hb2 := hbw.trans (hb1.mono hbw.size)
      clear hb1
      have hrle : r1 ≤ 1099511627777 := by omega
      have G1 := Lib.hid g1; clear g1
      have G2 := Lib.hid g2; clear g2
      go_wp2_with fail
      go_roundw
      case rel =>
        refine ⟨j + 1, x + r1, by omega, by go_num, by go_num, ?_, hb2⟩
        have g1 := G1.out
        have g2 := G2.out
        rw [HE2.out]
        by_cases h : (r1 : Int) ≤ most - x
        · have := g1 h
          exact .inl (by omega)
        · have := g2 (by omega)
          exact .inr (by omega)
      case measure => simp [intOf]; omega
    · have fin : ((x : Int) ≤ most → x = items.nodes + 1) ∧ (most < x → most < ((items.nodes + 1 : Nat) : Int)) := by
        by_cases hlt : j < n1
        · refine ⟨fun h => absurd ⟨hlt, h⟩ hgo, fun h => ?_⟩
          omega
        · obtain rfl : j = n1 := by omega
          have hd : (items.drop j).nodes = 0 := by rw [HNL.out, Vals.drop_len]; rfl
          rcases hx with h | h
          · omega
          · omega
      have FIN := Lib.hid fin; clear fin hx hld
      by_cases hlt : j < n1
      · have hxm : most < x := by
          rcases Int.lt_or_le most x with h | h
          · exact h
          · exact absurd ⟨hlt, h⟩ hgo
        clear hgo
        go_wp2_with fail
        go_ret
        exact ⟨⟨x, rfl, FIN.out.1, FIN.out.2, hxle⟩, hbw⟩
      · clear hgo
        go_wp2_with fail
        go_ret
        exact ⟨⟨x, rfl, FIN.out.1, FIN.out.2, hxle⟩, hbw⟩
theorem lCount_any (N : Nat) : ∀ (most : Int) (k : Int) (bo : Bool) (i : Int) (t : ByteArray) (A1 : Option Addr) (n1 c1 : Nat) (A2 : Option Addr) (n2 c2 : Nat) (items : Vals) (keys : List ByteArray) (w : World),
    VOk w w.heap.size k i t A1 n1 c1 A2 n2 c2 items keys → items.nodes ≤ N → items.nodes ≤ 1099511627776 → 0 ≤ most → most ≤ 5000 →
    Calls Tryd.prog 13 #[.agg #[.int .i64 k, .bool bo, .int .i64 i, .string t, .slice A1 n1 c1, .slice A2 n2 c2], .func (.func 7) #[] #[], .int .i64 most] w
      fun e w' => CountL (items.nodes + 1) most e ∧ Below w.heap.size w w' := by
  induction N with
  | zero =>
    intro most k bo i t A1 n1 c1 A2 n2 c2 items keys w hv hN hbig hm0 hm1
    have h1 := Vals.len_le items
    have h2 := hv.at_.len_eq
    exact lCount_gen most k bo i t A1 n1 c1 A2 n2 c2 items keys w hv hbig hm0 hm1 fun _ _ _ _ _ _ _ _ h => absurd h (by omega)
  | succ N ih =>
    intro most k bo i t A1 n1 c1 A2 n2 c2 items keys w hv hN hbig hm0 hm1
    refine lCount_gen most k bo i t A1 n1 c1 A2 n2 c2 items keys w hv hbig hm0 hm1 fun j k' bo' i' t' it ks r hj he m A1' n1' c1' A2' n2' c2' wX q0 q1 hv' => ?_
    have h1 := Vals.nodes_drop j items
    rw [he] at h1
    simp only [Vals.nodes] at h1
    exact ih m k' bo' i' t' A1' n1' c1' A2' n2' c2' it ks wX hv' (by omega) (by omega) q0 q1
end Go.Proofs.YteckcanghnligaaDoor
