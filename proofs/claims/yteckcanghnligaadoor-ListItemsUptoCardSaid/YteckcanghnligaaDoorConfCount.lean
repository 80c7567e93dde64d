/- DERIVED. How many values and levels a value has: what ValuesOf, count, LevelsOf and levels return, by induction over the value. Condition: at most 2^40 values. -/
import Derived.Test.YteckcanghnligaaDoorConfFields
namespace Go.Proofs.YteckcanghnligaaDoor
set_option linter.unusedVariables false
open Go.RowKit
theorem below_box {w wr : World} {o : Obj} (hb : Below (w.heap.size + 1) (w.alloc o) wr) : Below w.heap.size w wr ∧ w.heap.size + 1 ≤ wr.heap.size := by
  have hs := hb.size
  simp at hs
  exact ⟨((Below.refl _ w).alloc (Nat.le_refl _) o).trans (hb.mono (by omega)), hs⟩
/-- What is asked of a function at the items of a value. -/
def AtItems (f : FuncId) (items : Vals) (n : Nat) (r : Int → Bool → Int → ByteArray → Vals → List ByteArray → Value) : Prop :=
  ∀ (j : Nat) (k : Int) (bo : Bool) (i : Int) (t : ByteArray) (it : Vals) (ks : List ByteArray) (rest : Vals), j < n → items.drop j = .cons k bo i t it ks rest →
    ∀ (A1 : Option Addr) (n1 c1 : Nat) (A2 : Option Addr) (n2 c2 : Nat) (wX : World), VOk wX wX.heap.size k i t A1 n1 c1 A2 n2 c2 it ks →
      Calls Tryd.prog f #[.agg #[.int .i64 k, .bool bo, .int .i64 i, .string t, .slice A1 n1 c1, .slice A2 n2 c2]] wX fun e w' => e = .returned (r k bo i t it ks) ∧ Below wX.heap.size wX w'

set_option maxRecDepth 100000 in
set_option maxHeartbeats 800000 in
theorem valuesOf_gen (k : Int) (bo : Bool) (i : Int) (t : ByteArray) (A1 : Option Addr) (n1 c1 : Nat) (A2 : Option Addr) (n2 c2 : Nat) (items : Vals) (keys : List ByteArray) (w : World)
    (hv : VOk w w.heap.size k i t A1 n1 c1 A2 n2 c2 items keys) (hbig : items.nodes ≤ 1099511627776)
    (hc : AtItems 9 items n1 (fun _ _ _ _ it _ => .int .i64 ((it.nodes + 1 : Nat) : Int))) :
    Calls Tryd.prog 9 #[.agg #[.int .i64 k, .bool bo, .int .i64 i, .string t, .slice A1 n1 c1, .slice A2 n2 c2]] w
      fun e w' => e = .returned (.int .i64 ((items.nodes + 1 : Nat) : Int)) ∧ Below w.heap.size w w' := by
  have HC := Lib.hid hc; clear hc
  have ha := hv.at_
  have hnl := ha.len_eq
  have hn : n1 ≤ items.nodes := by rw [hnl]; exact Vals.len_le items
  have HNL := Lib.hid hnl; clear hnl
  have HA := Lib.hid ha; clear ha hv
  have HR := Lib.hid (Below.refl (w.heap.size + 1) (w.alloc (boxOf k bo i t A1 n1 c1 A2 n2 c2)))
  unfold boxOf at HR
  go_enter Tryd.func9, Tryd.ntmps9
  go_wp2_with fail
  go_loopw [3, 9] (fun v i' wr => ∃ j x : Nat, j ≤ n1 ∧ i' = .int .i64 j ∧ v = .int .i64 x ∧ x + (items.drop j).nodes = items.nodes + 1 ∧ Below (w.heap.size + 1) (w.alloc (.cells #[.int .i64 k, .bool bo, .int .i64 i, .string t, .slice A1 n1 c1, .slice A2 n2 c2] 25)) wr) (fun _ i' _ => n1 - (intOf i').toNat)
  case atStart => exact ⟨0, 1, Nat.zero_le _, rfl, rfl, by rw [Vals.drop_zero]; omega, HR.out⟩
  case round =>
    obtain ⟨j, x, hj, rfl, rfl, hx, hbx⟩ := hrel
    obtain ⟨hbw, hsz⟩ := below_box hbx
    have hxle : x ≤ 2199023255552 := by omega
    by_cases hlt : j < n1
    · obtain ⟨b, off, k1, bo1, i1, t1, B1, m1, d1, B2, m2, d2, it, ks, r, rfl, e1, e2, E⟩ := HA.out.el j hlt
      have E' := E.below hbw
      obtain ⟨hlb, x0, x1, x2, x3, x4, x5, hok⟩ := E'
      clear E
      have hsb : b < wr.heap.size := Nat.lt_of_lt_of_le hlb hbw.size
      have hcall : ∀ wX, Below w.heap.size wr wX → Calls Tryd.prog 9 #[.agg #[.int .i64 k1, .bool bo1, .int .i64 i1, .string t1, .slice B1 m1 d1, .slice B2 m2 d2]] wX fun e w' => e = .returned (.int .i64 ((it.nodes + 1 : Nat) : Int)) ∧ Below wX.heap.size wX w' := fun wX hX =>
        HC.out j k1 bo1 i1 t1 it ks r hlt e1 _ _ _ _ _ _ wX ((hok.below hX).more (Nat.le_trans hbw.size hX.size))
      have HCL := Lib.hid hcall; clear hcall
      have hle := Vals.nodes_drop j items
      rw [e1] at hx hle
      simp only [Vals.nodes] at hx hle
      have HE2 := Lib.hid e2; clear e1 e2 hok
      have HBX := Lib.hid hbx; clear hbx
      go_wp2_with fail
      refine (HCL.out _ ((Below.refl _ _).alloc hbw.size _)).mono ?_
      rintro e w1 ⟨rfl, hb1⟩
      have hb2 := HBX.out.trans (((Below.refl _ wr).alloc (Nat.le_refl _) _).mono hsz |>.trans (hb1.mono (by simp; omega)))
      clear hb1
      have hii : ((it.nodes + 1 : Nat) : Int) ≤ 1099511627776 := by omega
      go_wp2_with fail
      go_roundw
      case rel => exact ⟨j + 1, x + (it.nodes + 1), by omega, by go_num, by go_num, by rw [HE2.out]; omega, hb2⟩
      case measure => simp [intOf]; omega
    · obtain rfl : j = n1 := by omega
      have hd : (items.drop j).nodes = 0 := by rw [HNL.out, Vals.drop_len]; rfl
      have hxe : x = items.nodes + 1 := by omega
      have HXE := Lib.hid hxe; clear hxe hx hd
      go_wp2_with fail
      go_ret
      exact ⟨by rw [HXE.out]; rfl, hbw⟩
theorem valuesOf_any (N : Nat) : ∀ (k : Int) (bo : Bool) (i : Int) (t : ByteArray) (A1 : Option Addr) (n1 c1 : Nat) (A2 : Option Addr) (n2 c2 : Nat) (items : Vals) (keys : List ByteArray) (w : World),
    VOk w w.heap.size k i t A1 n1 c1 A2 n2 c2 items keys → items.nodes ≤ N → items.nodes ≤ 1099511627776 →
    Calls Tryd.prog 9 #[.agg #[.int .i64 k, .bool bo, .int .i64 i, .string t, .slice A1 n1 c1, .slice A2 n2 c2]] w
      fun e w' => e = .returned (.int .i64 ((items.nodes + 1 : Nat) : Int)) ∧ Below w.heap.size w w' := by
  induction N with
  | zero =>
    intro k bo i t A1 n1 c1 A2 n2 c2 items keys w hv hN hbig
    have h1 := Vals.len_le items
    have h2 := hv.at_.len_eq
    exact valuesOf_gen k bo i t A1 n1 c1 A2 n2 c2 items keys w hv hbig fun _ _ _ _ _ _ _ _ h => absurd h (by omega)
  | succ N ih =>
    intro k bo i t A1 n1 c1 A2 n2 c2 items keys w hv hN hbig
    refine valuesOf_gen k bo i t A1 n1 c1 A2 n2 c2 items keys w hv hbig fun j k' bo' i' t' it ks r hj he A1' n1' c1' A2' n2' c2' wX hv' => ?_
    have h1 := Vals.nodes_drop j items
    rw [he] at h1
    simp only [Vals.nodes] at h1
    exact ih k' bo' i' t' A1' n1' c1' A2' n2' c2' it ks wX hv' (by omega) (by omega)

set_option maxRecDepth 100000 in
set_option maxHeartbeats 800000 in
theorem levelsR_gen (k : Int) (bo : Bool) (i : Int) (t : ByteArray) (A1 : Option Addr) (n1 c1 : Nat) (A2 : Option Addr) (n2 c2 : Nat) (items : Vals) (keys : List ByteArray) (w : World)
    (hv : VOk w w.heap.size k i t A1 n1 c1 A2 n2 c2 items keys) (hbig : items.nodes ≤ 1099511627776)
    (hc : AtItems 10 items n1 (fun _ _ _ _ it _ => .int .i64 ((it.levels + 1 : Nat) : Int))) :
    Calls Tryd.prog 10 #[.agg #[.int .i64 k, .bool bo, .int .i64 i, .string t, .slice A1 n1 c1, .slice A2 n2 c2]] w
      fun e w' => e = .returned (.int .i64 ((items.levels + 1 : Nat) : Int)) ∧ Below w.heap.size w w' := by
  have HC := Lib.hid hc; clear hc
  have ha := hv.at_
  have hnl := ha.len_eq
  have hn : n1 ≤ items.nodes := by rw [hnl]; exact Vals.len_le items
  have hll := Vals.levels_le items
  have HNL := Lib.hid hnl; clear hnl
  have HA := Lib.hid ha; clear ha hv
  have HR := Lib.hid (Below.refl (w.heap.size + 1) (w.alloc (boxOf k bo i t A1 n1 c1 A2 n2 c2)))
  unfold boxOf at HR
  go_enter Tryd.func10, Tryd.ntmps10
  go_wp2_with fail
  go_loopw [3, 9] (fun v i' wr => ∃ j x : Nat, j ≤ n1 ∧ i' = .int .i64 j ∧ v = .int .i64 x ∧ max x (items.drop j).levels = items.levels ∧ Below (w.heap.size + 1) (w.alloc (.cells #[.int .i64 k, .bool bo, .int .i64 i, .string t, .slice A1 n1 c1, .slice A2 n2 c2] 25)) wr) (fun _ i' _ => n1 - (intOf i').toNat)
  case atStart => exact ⟨0, 0, Nat.zero_le _, rfl, rfl, by rw [Vals.drop_zero]; omega, HR.out⟩
  case round =>
    obtain ⟨j, x, hj, rfl, rfl, hx, hbx⟩ := hrel
    obtain ⟨hbw, hsz⟩ := below_box hbx
    have hxle : x ≤ 1099511627776 := by omega
    by_cases hlt : j < n1
    · obtain ⟨b, off, k1, bo1, i1, t1, B1, m1, d1, B2, m2, d2, it, ks, r, rfl, e1, e2, E⟩ := HA.out.el j hlt
      have E' := E.below hbw
      obtain ⟨hlb, x0, x1, x2, x3, x4, x5, hok⟩ := E'
      clear E
      have hsb : b < wr.heap.size := Nat.lt_of_lt_of_le hlb hbw.size
      have hcall : ∀ wX, Below w.heap.size wr wX → Calls Tryd.prog 10 #[.agg #[.int .i64 k1, .bool bo1, .int .i64 i1, .string t1, .slice B1 m1 d1, .slice B2 m2 d2]] wX fun e w' => e = .returned (.int .i64 ((it.levels + 1 : Nat) : Int)) ∧ Below wX.heap.size wX w' := fun wX hX =>
        HC.out j k1 bo1 i1 t1 it ks r hlt e1 _ _ _ _ _ _ wX ((hok.below hX).more (Nat.le_trans hbw.size hX.size))
      have HCL := Lib.hid hcall; clear hcall
      rw [e1] at hx
      simp only [Vals.levels] at hx
      have HE2 := Lib.hid e2; clear e1 e2 hok
      have HBX := Lib.hid hbx; clear hbx
      have hil : it.levels ≤ 1099511627776 := by omega
      by_cases hmx : (x : Int) ≤ ((it.levels + 1 : Nat) : Int)
      · go_wp2_with fail
        refine (HCL.out _ ((Below.refl _ _).alloc hbw.size _)).mono ?_
        rintro e w1 ⟨rfl, hb1⟩
        have hb2 := HBX.out.trans (((Below.refl _ wr).alloc (Nat.le_refl _) _).mono hsz |>.trans (hb1.mono (by simp; omega)))
        clear hb1
        go_wp2_with fail
        go_roundw
        case rel => exact ⟨j + 1, it.levels + 1, by omega, by go_num, by go_num, by rw [HE2.out]; omega, hb2⟩
        case measure => simp [intOf]; omega
      · go_wp2_with fail
        refine (HCL.out _ ((Below.refl _ _).alloc hbw.size _)).mono ?_
        rintro e w1 ⟨rfl, hb1⟩
        have hb2 := HBX.out.trans (((Below.refl _ wr).alloc (Nat.le_refl _) _).mono hsz |>.trans (hb1.mono (by simp; omega)))
        clear hb1
        go_wp2_with fail
        go_roundw
        case rel => exact ⟨j + 1, x, by omega, by go_num, by go_num, by rw [HE2.out]; omega, hb2⟩
        case measure => simp [intOf]; omega
    · obtain rfl : j = n1 := by omega
      have hd : (items.drop j).levels = 0 := by rw [HNL.out, Vals.drop_len]; rfl
      have hxe : x = items.levels := by omega
      have HXE := Lib.hid hxe; clear hxe hx hd
      go_wp2_with fail
      go_ret
      exact ⟨by rw [HXE.out]; rfl, hbw⟩
theorem levelsR_any (N : Nat) : ∀ (k : Int) (bo : Bool) (i : Int) (t : ByteArray) (A1 : Option Addr) (n1 c1 : Nat) (A2 : Option Addr) (n2 c2 : Nat) (items : Vals) (keys : List ByteArray) (w : World),
    VOk w w.heap.size k i t A1 n1 c1 A2 n2 c2 items keys → items.nodes ≤ N → items.nodes ≤ 1099511627776 →
    Calls Tryd.prog 10 #[.agg #[.int .i64 k, .bool bo, .int .i64 i, .string t, .slice A1 n1 c1, .slice A2 n2 c2]] w
      fun e w' => e = .returned (.int .i64 ((items.levels + 1 : Nat) : Int)) ∧ Below w.heap.size w w' := by
  induction N with
  | zero =>
    intro k bo i t A1 n1 c1 A2 n2 c2 items keys w hv hN hbig
    have h1 := Vals.len_le items
    have h2 := hv.at_.len_eq
    exact levelsR_gen k bo i t A1 n1 c1 A2 n2 c2 items keys w hv hbig fun _ _ _ _ _ _ _ _ h => absurd h (by omega)
  | succ N ih =>
    intro k bo i t A1 n1 c1 A2 n2 c2 items keys w hv hN hbig
    refine levelsR_gen k bo i t A1 n1 c1 A2 n2 c2 items keys w hv hbig fun j k' bo' i' t' it ks r hj he A1' n1' c1' A2' n2' c2' wX hv' => ?_
    have h1 := Vals.nodes_drop j items
    rw [he] at h1
    simp only [Vals.nodes] at h1
    exact ih k' bo' i' t' A1' n1' c1' A2' n2' c2' it ks wX hv' (by omega) (by omega)

set_option maxRecDepth 100000 in
set_option maxHeartbeats 800000 in
theorem levels_gen (k : Int) (bo : Bool) (i : Int) (t : ByteArray) (A1 : Option Addr) (n1 c1 : Nat) (A2 : Option Addr) (n2 c2 : Nat) (items : Vals) (keys : List ByteArray) (w : World)
    (hv : VOk w w.heap.size k i t A1 n1 c1 A2 n2 c2 items keys) (hbig : items.nodes ≤ 1099511627776)
    (hc : AtItems 22 items n1 (fun _ _ _ _ it _ => .int .i64 ((it.levels + 1 : Nat) : Int))) :
    Calls Tryd.prog 22 #[.agg #[.int .i64 k, .bool bo, .int .i64 i, .string t, .slice A1 n1 c1, .slice A2 n2 c2]] w
      fun e w' => e = .returned (.int .i64 ((items.levels + 1 : Nat) : Int)) ∧ Below w.heap.size w w' := by
  have HC := Lib.hid hc; clear hc
  have ha := hv.at_
  have hnl := ha.len_eq
  have hn : n1 ≤ items.nodes := by rw [hnl]; exact Vals.len_le items
  have hll := Vals.levels_le items
  have HNL := Lib.hid hnl; clear hnl
  have HA := Lib.hid ha; clear ha hv
  have HR := Lib.hid (Below.refl (w.heap.size + 1) (w.alloc (boxOf k bo i t A1 n1 c1 A2 n2 c2)))
  unfold boxOf at HR
  go_enter Tryd.func22, Tryd.ntmps22
  go_wp2_with fail
  go_loopw [3, 9] (fun v i' wr => ∃ j x : Nat, j ≤ n1 ∧ i' = .int .i64 j ∧ v = .int .i64 x ∧ max x (items.drop j).levels = items.levels ∧ Below (w.heap.size + 1) (w.alloc (.cells #[.int .i64 k, .bool bo, .int .i64 i, .string t, .slice A1 n1 c1, .slice A2 n2 c2] 25)) wr) (fun _ i' _ => n1 - (intOf i').toNat)
  case atStart => exact ⟨0, 0, Nat.zero_le _, rfl, rfl, by rw [Vals.drop_zero]; omega, HR.out⟩
  case round =>
    obtain ⟨j, x, hj, rfl, rfl, hx, hbx⟩ := hrel
    obtain ⟨hbw, hsz⟩ := below_box hbx
    have hxle : x ≤ 1099511627776 := by omega
    by_cases hlt : j < n1
    · obtain ⟨b, off, k1, bo1, i1, t1, B1, m1, d1, B2, m2, d2, it, ks, r, rfl, e1, e2, E⟩ := HA.out.el j hlt
      have E' := E.below hbw
      obtain ⟨hlb, x0, x1, x2, x3, x4, x5, hok⟩ := E'
      clear E
      have hsb : b < wr.heap.size := Nat.lt_of_lt_of_le hlb hbw.size
      have hcall : ∀ wX, Below w.heap.size wr wX → Calls Tryd.prog 22 #[.agg #[.int .i64 k1, .bool bo1, .int .i64 i1, .string t1, .slice B1 m1 d1, .slice B2 m2 d2]] wX fun e w' => e = .returned (.int .i64 ((it.levels + 1 : Nat) : Int)) ∧ Below wX.heap.size wX w' := fun wX hX =>
        HC.out j k1 bo1 i1 t1 it ks r hlt e1 _ _ _ _ _ _ wX ((hok.below hX).more (Nat.le_trans hbw.size hX.size))
      have HCL := Lib.hid hcall; clear hcall
      rw [e1] at hx
      simp only [Vals.levels] at hx
      have HE2 := Lib.hid e2; clear e1 e2 hok
      have HBX := Lib.hid hbx; clear hbx
      have hil : it.levels ≤ 1099511627776 := by omega
      by_cases hmx : (x : Int) ≤ ((it.levels + 1 : Nat) : Int)
      · go_wp2_with fail
        refine (HCL.out _ ((Below.refl _ _).alloc hbw.size _)).mono ?_
        rintro e w1 ⟨rfl, hb1⟩
        have hb2 := HBX.out.trans (((Below.refl _ wr).alloc (Nat.le_refl _) _).mono hsz |>.trans (hb1.mono (by simp; omega)))
        clear hb1
        go_wp2_with fail
        go_roundw
        case rel => exact ⟨j + 1, it.levels + 1, by omega, by go_num, by go_num, by rw [HE2.out]; omega, hb2⟩
        case measure => simp [intOf]; omega
      · go_wp2_with fail
        refine (HCL.out _ ((Below.refl _ _).alloc hbw.size _)).mono ?_
        rintro e w1 ⟨rfl, hb1⟩
        have hb2 := HBX.out.trans (((Below.refl _ wr).alloc (Nat.le_refl _) _).mono hsz |>.trans (hb1.mono (by simp; omega)))
        clear hb1
        go_wp2_with fail
        go_roundw
        case rel => exact ⟨j + 1, x, by omega, by go_num, by go_num, by rw [HE2.out]; omega, hb2⟩
        case measure => simp [intOf]; omega
    · obtain rfl : j = n1 := by omega
      have hd : (items.drop j).levels = 0 := by rw [HNL.out, Vals.drop_len]; rfl
      have hxe : x = items.levels := by omega
      have HXE := Lib.hid hxe; clear hxe hx hd
      go_wp2_with fail
      go_ret
      exact ⟨by rw [HXE.out]; rfl, hbw⟩
theorem levels_any (N : Nat) : ∀ (k : Int) (bo : Bool) (i : Int) (t : ByteArray) (A1 : Option Addr) (n1 c1 : Nat) (A2 : Option Addr) (n2 c2 : Nat) (items : Vals) (keys : List ByteArray) (w : World),
    VOk w w.heap.size k i t A1 n1 c1 A2 n2 c2 items keys → items.nodes ≤ N → items.nodes ≤ 1099511627776 →
    Calls Tryd.prog 22 #[.agg #[.int .i64 k, .bool bo, .int .i64 i, .string t, .slice A1 n1 c1, .slice A2 n2 c2]] w
      fun e w' => e = .returned (.int .i64 ((items.levels + 1 : Nat) : Int)) ∧ Below w.heap.size w w' := by
  induction N with
  | zero =>
    intro k bo i t A1 n1 c1 A2 n2 c2 items keys w hv hN hbig
    have h1 := Vals.len_le items
    have h2 := hv.at_.len_eq
    exact levels_gen k bo i t A1 n1 c1 A2 n2 c2 items keys w hv hbig fun _ _ _ _ _ _ _ _ h => absurd h (by omega)
  | succ N ih =>
    intro k bo i t A1 n1 c1 A2 n2 c2 items keys w hv hN hbig
    refine levels_gen k bo i t A1 n1 c1 A2 n2 c2 items keys w hv hbig fun j k' bo' i' t' it ks r hj he A1' n1' c1' A2' n2' c2' wX hv' => ?_
    have h1 := Vals.nodes_drop j items
    rw [he] at h1
    simp only [Vals.nodes] at h1
    exact ih k' bo' i' t' A1' n1' c1' A2' n2' c2' it ks wX hv' (by omega) (by omega)

/-- What count returns: the number of values, or one beyond 'most' that is no greater. -/
def CountP (n : Nat) (most : Int) (e : Ending) : Prop :=
  ∃ r : Nat, e = .returned (.int .i64 r) ∧ ((r : Int) ≤ most → r = n) ∧ (most < r → most < n) ∧ r ≤ n
set_option maxRecDepth 100000 in
set_option maxHeartbeats 800000 in
theorem count_gen (most : Int) (k : Int) (bo : Bool) (i : Int) (t : ByteArray) (A1 : Option Addr) (n1 c1 : Nat) (A2 : Option Addr) (n2 c2 : Nat) (items : Vals) (keys : List ByteArray) (w : World)
    (hv : VOk w w.heap.size k i t A1 n1 c1 A2 n2 c2 items keys) (hbig : items.nodes ≤ 1099511627776) (hm0 : 0 ≤ most) (hm1 : most ≤ 1000)
    (hc : ∀ (j : Nat) (k : Int) (bo : Bool) (i : Int) (t : ByteArray) (it : Vals) (ks : List ByteArray) (rest : Vals), j < n1 → items.drop j = .cons k bo i t it ks rest →
      ∀ (m : Int) (A1 : Option Addr) (n1 c1 : Nat) (A2 : Option Addr) (n2 c2 : Nat) (wX : World), 0 ≤ m → m ≤ 1000 → VOk wX wX.heap.size k i t A1 n1 c1 A2 n2 c2 it ks →
        Calls Tryd.prog 21 #[.agg #[.int .i64 k, .bool bo, .int .i64 i, .string t, .slice A1 n1 c1, .slice A2 n2 c2], .int .i64 m] wX fun e w' => CountP (it.nodes + 1) m e ∧ Below wX.heap.size wX w') :
    Calls Tryd.prog 21 #[.agg #[.int .i64 k, .bool bo, .int .i64 i, .string t, .slice A1 n1 c1, .slice A2 n2 c2], .int .i64 most] w
      fun e w' => CountP (items.nodes + 1) most e ∧ Below w.heap.size w w' := by
  have HC := Lib.hid hc; clear hc
  have ha := hv.at_
  have hnl := ha.len_eq
  have hn : n1 ≤ items.nodes := by rw [hnl]; exact Vals.len_le items
  have HNL := Lib.hid hnl; clear hnl
  have HA := Lib.hid ha; clear ha hv
  have HR := Lib.hid (Below.refl (w.heap.size + 1) (w.alloc (boxOf k bo i t A1 n1 c1 A2 n2 c2)))
  have HX := Lib.hid (fun (w1 : World) (B : Nat) (hb : Below B (w.alloc (boxOf k bo i t A1 n1 c1 A2 n2 c2)) w1) (hB : w.heap.size < B) => box6 hb hB)
  unfold boxOf at HR HX
  go_enter Tryd.func21, Tryd.ntmps21
  go_wp2_with fail
  go_loopw [5, 6] (fun v i' wr => ∃ j x : Nat, j ≤ n1 ∧ i' = .int .i64 j ∧ v = .int .i64 x ∧ (x + (items.drop j).nodes = items.nodes + 1 ∨ (most < x ∧ most < items.nodes + 1 ∧ x ≤ items.nodes + 1)) ∧ Below (w.heap.size + 1) (w.alloc (.cells #[.int .i64 k, .bool bo, .int .i64 i, .string t, .slice A1 n1 c1, .slice A2 n2 c2] 25)) wr) (fun _ i' _ => n1 - (intOf i').toNat)
  case atStart => exact ⟨0, 1, Nat.zero_le _, rfl, rfl, .inl (by rw [Vals.drop_zero]; omega), HR.out⟩
  case round =>
    obtain ⟨j, x, hj, rfl, rfl, hx, hbx⟩ := hrel
    obtain ⟨hbw, hsz⟩ := below_box hbx
    obtain ⟨y0, y1, y2, y3, y4, y5⟩ := HX.out _ _ hbx (by omega)
    have hld : n1 - j ≤ (items.drop j).nodes := by
      have h1 := Vals.len_le (items.drop j)
      rw [Vals.len_drop, ← HNL.out] at h1
      exact h1
    have hxle : x ≤ items.nodes + 1 := by rcases hx with h | h <;> omega
    have HBX := Lib.hid hbx; clear hbx
    clear y0 y1 y2 y3 y5
    by_cases hgo : j < n1 ∧ (x : Int) ≤ most
    · obtain ⟨hlt, hxm⟩ := hgo
      have hx1 : x + (items.drop j).nodes = items.nodes + 1 := by rcases hx with h | h <;> omega
      clear hx
      obtain ⟨b, off, k1, bo1, i1, t1, B1, m1, d1, B2, m2, d2, it, ks, r, rfl, e1, e2, E⟩ := HA.out.el j hlt
      have E' := E.below hbw
      obtain ⟨hlb, x0, x1, x2, x3, x4, x5, hok⟩ := E'
      clear E
      have hsb : b < wr.heap.size := Nat.lt_of_lt_of_le hlb hbw.size
      have hcall := fun wX (hX : Below w.heap.size wr wX) => HC.out j k1 bo1 i1 t1 it ks r hlt e1 (most - x) B1 m1 d1 B2 m2 d2 wX (by omega) (by omega) ((hok.below hX).more (Nat.le_trans hbw.size hX.size))
      have HCL := Lib.hid hcall; clear hcall
      have hrl : n1 - (j + 1) ≤ r.nodes := by
        have h1 := Vals.len_le (items.drop (j + 1))
        rw [Vals.len_drop, ← HNL.out, e2] at h1
        exact h1
      rw [e1] at hx1
      simp only [Vals.nodes] at hx1
      have HE2 := Lib.hid e2; clear e1 e2 hok hld
      go_wp2_with fail
      refine (HCL.out _ (Below.refl _ _)).mono ?_
      rintro e w1 ⟨⟨r1, rfl, g1, g2, g3⟩, hb1⟩
      have hb2 := HBX.out.trans (hb1.mono hsz)
      clear hb1
      have hrle : r1 ≤ 1099511627777 := by omega
      have G1 := Lib.hid g1; clear g1
      have G2 := Lib.hid g2; clear g2
      go_wp2_with fail
      go_roundw
      case rel =>
        refine ⟨j + 1, x + r1, by omega, by go_num, by go_num, ?_, hb2⟩
        have g1 := G1.out
        have g2 := G2.out
        rw [HE2.out]
        by_cases h : (r1 : Int) ≤ most - x
        · have := g1 h
          exact .inl (by omega)
        · have := g2 (by omega)
          exact .inr (by omega)
      case measure => simp [intOf]; omega
    · have fin : ((x : Int) ≤ most → x = items.nodes + 1) ∧ (most < x → most < ((items.nodes + 1 : Nat) : Int)) := by
        by_cases hlt : j < n1
        · refine ⟨fun h => absurd ⟨hlt, h⟩ hgo, fun h => ?_⟩
          omega
        · obtain rfl : j = n1 := by omega
          have hd : (items.drop j).nodes = 0 := by rw [HNL.out, Vals.drop_len]; rfl
          rcases hx with h | h
          · omega
          · omega
      have FIN := Lib.hid fin; clear fin hx hld
      by_cases hlt : j < n1
      · have hxm : most < x := by
          rcases Int.lt_or_le most x with h | h
          · exact h
          · exact absurd ⟨hlt, h⟩ hgo
        clear hgo
        go_wp2_with fail
        go_ret
        exact ⟨⟨x, rfl, FIN.out.1, FIN.out.2, hxle⟩, hbw⟩
      · clear hgo
        go_wp2_with fail
        go_ret
        exact ⟨⟨x, rfl, FIN.out.1, FIN.out.2, hxle⟩, hbw⟩
theorem count_any (N : Nat) : ∀ (most k : Int) (bo : Bool) (i : Int) (t : ByteArray) (A1 : Option Addr) (n1 c1 : Nat) (A2 : Option Addr) (n2 c2 : Nat) (items : Vals) (keys : List ByteArray) (w : World),
    VOk w w.heap.size k i t A1 n1 c1 A2 n2 c2 items keys → items.nodes ≤ N → items.nodes ≤ 1099511627776 → 0 ≤ most → most ≤ 1000 →
    Calls Tryd.prog 21 #[.agg #[.int .i64 k, .bool bo, .int .i64 i, .string t, .slice A1 n1 c1, .slice A2 n2 c2], .int .i64 most] w
      fun e w' => CountP (items.nodes + 1) most e ∧ Below w.heap.size w w' := by
  induction N with
  | zero =>
    intro most k bo i t A1 n1 c1 A2 n2 c2 items keys w hv hN hbig hm0 hm1
    have h1 := Vals.len_le items
    have h2 := hv.at_.len_eq
    exact count_gen most k bo i t A1 n1 c1 A2 n2 c2 items keys w hv hbig hm0 hm1 fun _ _ _ _ _ _ _ _ h => absurd h (by omega)
  | succ N ih =>
    intro most k bo i t A1 n1 c1 A2 n2 c2 items keys w hv hN hbig hm0 hm1
    refine count_gen most k bo i t A1 n1 c1 A2 n2 c2 items keys w hv hbig hm0 hm1 fun j k' bo' i' t' it ks r hj he m A1' n1' c1' A2' n2' c2' wX q0 q1 hv' => ?_
    have h1 := Vals.nodes_drop j items
    rw [he] at h1
    simp only [Vals.nodes] at h1
    exact ih m k' bo' i' t' A1' n1' c1' A2' n2' c2' it ks wX hv' (by omega) (by omega) q0 q1
end Go.Proofs.YteckcanghnligaaDoor
