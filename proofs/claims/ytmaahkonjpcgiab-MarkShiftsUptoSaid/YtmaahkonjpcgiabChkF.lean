/- DERIVED. How many nodes a document has, and its first error: what Nodes, count, nodesError, checkNodes return, by induction over the document. Condition: at most 2^40 nodes. -/
import Derived.Test.YtmaahkonjpcgiabChkE
import Derived.Test.YtmaahkonjpcgiabElem
import Derived.WalkSmall
set_option linter.unusedSimpArgs false
set_option linter.unusedVariables false
namespace Go.Proofs.Ytmaahkonjpcgiab
open Go.RowKit

set_option maxRecDepth 100000 in
set_option maxHeartbeats 800000 in
theorem nodesR_any (N : Nat) : ∀ (a : Doc) (A : Option Addr) (n c : Nat) (w : World), a.nodes ≤ N → a.nodes ≤ 1099511627776 → a.At w w.heap.size A n →
    Calls Try.prog 25 #[.slice A n c] w fun e w' => e = .returned (.int .i64 a.nodes) ∧ Below w.heap.size w w' := by
  induction N with
  | zero =>
    intro a A n c w hN _ ha
    have h0 : a = .nil := by
      cases a with
      | nil => rfl
      | cons => simp [Doc.nodes] at hN
    subst h0
    obtain rfl : n = 0 := ha.len_eq
    clear ha hN
    go_enter Try.func25, Try.ntmps25
    go_wp2_with fail
    refine wp_loop_rounds 1 ?_
    rw [rounds_succ]
    go_wp2_with fail
    go_ret
    exact ⟨rfl, Below.refl _ _⟩
  | succ N ih =>
    intro a A n c w hN hbig ha
    have IH := Lib.hid ih; clear ih
    have hnl := ha.len_eq
    have hn : n ≤ a.nodes := by rw [hnl]; exact Doc.len_le a
    have HNL := Lib.hid hnl; clear hnl
    have HA := Lib.hid ha; clear ha
    go_enter Try.func25, Try.ntmps25
    go_wp2_with fail
    go_loopw [3, 10] (fun v i wr => ∃ k x : Nat, k ≤ n ∧ i = .int .i64 k ∧ v = .int .i64 x ∧ x + (a.drop k).nodes = a.nodes + (n - k) ∧ Below w.heap.size w wr) (fun _ i _ => n - (intOf i).toNat)
    case atStart => exact ⟨0, n, Nat.zero_le _, rfl, rfl, by rw [Doc.drop_zero']; omega, Below.refl _ _⟩
    case round =>
      obtain ⟨k, x, hk, rfl, rfl, hx, hbw⟩ := hrel
      have hxle : x ≤ 2199023255552 := by omega
      by_cases hlt : k < n
      · obtain ⟨b, off, k1, l1, t1, d1, i1, A1, n1, c1, kd, r, rfl, e1, e2, E⟩ := HA.out.el k hlt
        have E' := E.below hbw
        obtain ⟨hlb, x0, x1, x2, x3, x4, x5, _, _, _, _, _, _, _, hat⟩ := E'
        clear E
        have hsb : b < wr.heap.size := Nat.lt_of_lt_of_le hlb hbw.size
        have hkn : kd.nodes ≤ N ∧ kd.nodes ≤ 1099511627776 := by
          have h1 := Doc.nodes_drop' k a
          rw [e1] at h1
          simp only [Doc.nodes] at h1
          omega
        have hcall : ∀ wX, Below w.heap.size wr wX → Calls Try.prog 25 #[.slice A1 n1 c1] wX fun e w' => e = .returned (.int .i64 kd.nodes) ∧ Below wX.heap.size wX w' := fun wX hX =>
          IH.out kd A1 n1 c1 wX hkn.1 hkn.2 ((hat.below hX).more (Nat.le_trans hbw.size hX.size))
        have HC := Lib.hid hcall; clear hcall
        rw [e1] at hx
        simp only [Doc.nodes] at hx
        have HE2 := Lib.hid e2; clear e1 e2 hat
        have hkle := hkn.2
        clear hkn
        go_wp2_with fail
        refine (HC.out _ ((Below.refl _ _).alloc hbw.size _)).mono ?_
        rintro e w1 ⟨rfl, hb1⟩
        have hb2 := (hbw.alloc hbw.size _).trans (hb1.mono (by have := hbw.size; simp; omega))
        clear hb1
        go_wp2_with fail
        go_roundw
        case rel => exact ⟨k + 1, x + kd.nodes, by omega, by go_num, by go_num, by rw [HE2.out]; omega, hb2⟩
        case measure => simp [intOf]; omega
      · obtain rfl : k = n := by omega
        have hd : (a.drop k).nodes = 0 := by rw [HNL.out, Doc.drop_len']; rfl
        have hxe : x = a.nodes := by omega
        have HXE := Lib.hid hxe; clear hxe hx hd
        go_wp2_with fail
        go_ret
        exact ⟨by rw [HXE.out]; rfl, hbw⟩

/-- What count returns: the number of nodes, or one beyond 'most' that is no greater. -/
def CountPost (a : Doc) (most : Int) (B : Nat) (w : World) (e : Ending) (w' : World) : Prop :=
  ∃ r : Nat, e = .returned (.int .i64 r) ∧ ((r : Int) ≤ most → r = a.nodes) ∧ (most < r → most < a.nodes) ∧ r ≤ a.nodes ∧ Below B w w'

set_option maxRecDepth 100000 in
set_option maxHeartbeats 800000 in
theorem count_any (N : Nat) : ∀ (a : Doc) (A : Option Addr) (n c : Nat) (most : Int) (w : World), a.nodes ≤ N → a.nodes ≤ 1099511627776 → 0 ≤ most → most ≤ 4000 → a.At w w.heap.size A n →
    Calls Try.prog 30 #[.slice A n c, .int .i64 most] w (CountPost a most w.heap.size w) := by
  induction N with
  | zero =>
    intro a A n c most w hN _ hm0 hm1 ha
    have h0 : a = .nil := by
      cases a with
      | nil => rfl
      | cons => simp [Doc.nodes] at hN
    subst h0
    obtain rfl : n = 0 := ha.len_eq
    clear ha hN
    go_enter Try.func30, Try.ntmps30
    go_wp2_with fail
    refine wp_loop_rounds 1 ?_
    rw [rounds_succ]
    go_wp2_with fail
    go_ret
    exact ⟨0, rfl, fun _ => rfl, fun h => by omega, Nat.le_refl _, Below.refl _ _⟩
  | succ N ih =>
    intro a A n c most w hN hbig hm0 hm1 ha
    have IH := Lib.hid ih; clear ih
    have hnl := ha.len_eq
    have hn : n ≤ a.nodes := by rw [hnl]; exact Doc.len_le a
    have HNL := Lib.hid hnl; clear hnl
    have HA := Lib.hid ha; clear ha
    go_enter Try.func30, Try.ntmps30
    go_wp2_with fail
    go_loopw [5, 6] (fun v i wr => ∃ k x : Nat, k ≤ n ∧ i = .int .i64 k ∧ v = .int .i64 x ∧ (x + (a.drop k).nodes = a.nodes + (n - k) ∨ (most < x ∧ most < a.nodes ∧ x ≤ a.nodes)) ∧ Below w.heap.size w wr) (fun _ i _ => n - (intOf i).toNat)
    case atStart => exact ⟨0, n, Nat.zero_le _, rfl, rfl, .inl (by rw [Doc.drop_zero']; omega), Below.refl _ _⟩
    case round =>
      obtain ⟨k, x, hk, rfl, rfl, hx, hbw⟩ := hrel
      have hld : n - k ≤ (a.drop k).nodes := by
        have h1 := Doc.len_le (a.drop k)
        rw [Doc.len_drop, ← HNL.out] at h1
        exact h1
      have hxle : x ≤ a.nodes := by rcases hx with h | h <;> omega
      by_cases hgo : k < n ∧ (x : Int) ≤ most
      · obtain ⟨hlt, hxm⟩ := hgo
        have hx1 : x + (a.drop k).nodes = a.nodes + (n - k) := by rcases hx with h | h <;> omega
        clear hx
        obtain ⟨b, off, k1, l1, t1, d1, i1, A1, n1, c1, kd, r, rfl, e1, e2, E⟩ := HA.out.el k hlt
        have E' := E.below hbw
        obtain ⟨hlb, x0, x1, x2, x3, x4, x5, _, _, _, _, _, _, _, hat⟩ := E'
        clear E
        have hkn : kd.nodes ≤ N ∧ kd.nodes ≤ 1099511627776 := by
          have h1 := Doc.nodes_drop' k a
          rw [e1] at h1
          simp only [Doc.nodes] at h1
          omega
        have hkle := hkn.2
        have hrl : n - (k + 1) ≤ r.nodes := by
          have h1 := Doc.len_le (a.drop (k + 1))
          rw [Doc.len_drop, ← HNL.out, e2] at h1
          exact h1
        have hcall := fun wX (hX : Below w.heap.size wr wX) => IH.out kd A1 n1 c1 (most - x) wX hkn.1 hkn.2 (by omega) (by omega) ((hat.below hX).more (Nat.le_trans hbw.size hX.size))
        have HC := Lib.hid hcall; clear hcall
        rw [e1] at hx1
        simp only [Doc.nodes] at hx1
        have HE2 := Lib.hid e2; clear e1 e2 hat hld
        clear hkn
        go_wp2_with fail
        refine (HC.out _ (Below.refl _ _)).mono ?_
        rintro e w1 ⟨r1, rfl, g1, g2, g3, hb1⟩
        have hb2 := hbw.trans (hb1.mono hbw.size)
        clear hb1
        have hrle : r1 ≤ 1099511627776 := by omega
        have G1 := Lib.hid g1; clear g1
        have G2 := Lib.hid g2; clear g2
        go_wp2_with fail
        go_roundw
        case rel =>
          refine ⟨k + 1, x + r1, by omega, by go_num, by go_num, ?_, hb2⟩
          have g1 := G1.out
          have g2 := G2.out
          rw [HE2.out]
          by_cases h : (r1 : Int) ≤ most - x
          · have := g1 h
            exact .inl (by omega)
          · have := g2 (by omega)
            exact .inr (by omega)
        case measure => simp [intOf]; omega
      · have fin : ((x : Int) ≤ most → x = a.nodes) ∧ (most < x → most < a.nodes) := by
          by_cases hlt : k < n
          · refine ⟨fun h => absurd ⟨hlt, h⟩ hgo, fun h => ?_⟩
            omega
          · obtain rfl : k = n := by omega
            have hd : (a.drop k).nodes = 0 := by rw [HNL.out, Doc.drop_len']; rfl
            rcases hx with h | h
            · omega
            · omega
        have FIN := Lib.hid fin; clear fin hx hld
        by_cases hlt : k < n
        · have hxm : most < x := by
            rcases Int.lt_or_le most x with h | h
            · exact h
            · exact absurd ⟨hlt, h⟩ hgo
          clear hgo
          go_wp2_with fail
          go_ret
          exact ⟨x, rfl, FIN.out.1, FIN.out.2, hxle, hbw⟩
        · clear hgo
          go_wp2_with fail
          go_ret
          exact ⟨x, rfl, FIN.out.1, FIN.out.2, hxle, hbw⟩

set_option maxRecDepth 100000 in
set_option maxHeartbeats 800000 in
theorem nodesErrorR_any (N : Nat) : ∀ (a : Doc) (A : Option Addr) (n c : Nat) (p : Int) (w : World), a.nodes ≤ N → a.nodes ≤ 1099511627776 → a.At w w.heap.size A n →
    Calls Try.prog 27 #[.slice A n c, .int .i64 p] w fun e w' => e = .returned (.int .i64 (a.err p)) ∧ Below w.heap.size w w' := by
  induction N with
  | zero =>
    intro a A n c p w hN _ ha
    have h0 : a = .nil := by
      cases a with
      | nil => rfl
      | cons => simp [Doc.nodes] at hN
    subst h0
    obtain rfl : n = 0 := ha.len_eq
    clear ha hN
    go_enter Try.func27, Try.ntmps27
    go_wp2_with fail
    refine wp_loop_rounds 1 ?_
    rw [rounds_succ]
    go_wp2_with fail
    go_ret
    exact ⟨rfl, Below.refl _ _⟩
  | succ N ih =>
    intro a A n c p w hN hbig ha
    have IH := Lib.hid ih; clear ih
    have hnl := ha.len_eq
    have hn : n ≤ 1099511627776 := Nat.le_trans (by rw [hnl]; exact Doc.len_le a) hbig
    have HNL := Lib.hid hnl; clear hnl
    have HA := Lib.hid ha; clear ha
    go_enter Try.func27, Try.ntmps27
    go_wp2_with fail
    go_loopw [11] (fun i wr => ∃ k : Nat, k ≤ n ∧ i = .int .i64 k ∧ a.err p = (a.drop k).err p ∧ Below w.heap.size w wr) (fun i _ => n - (intOf i).toNat)
    case atStart => exact ⟨0, Nat.zero_le _, rfl, by rw [Doc.drop_zero'], Below.refl _ _⟩
    case round =>
      obtain ⟨k, hk, rfl, hx, hbw⟩ := hrel
      have HX := Lib.hid hx; clear hx
      by_cases hlt : k < n
      · obtain ⟨b, off, k1, l1, t1, d1, i1, A1, n1, c1, kd, r, rfl, e1, e2, E⟩ := HA.out.el k hlt
        have E' := E.below hbw
        obtain ⟨hlb, x0, x1, x2, x3, x4, x5, hnc, hcm, _, _, hts, hds, htis, hat⟩ := E'
        clear E
        have hsb : b < wr.heap.size := Nat.lt_of_lt_of_le hlb hbw.size
        have hkn : kd.nodes ≤ N ∧ kd.nodes ≤ 1099511627776 := by
          have h1 := Doc.nodes_drop' k a
          rw [e1] at h1
          simp only [Doc.nodes] at h1
          omega
        have hsh : Short t1 d1 i1 n1 := by
          unfold maxLen at hts hds htis hcm
          exact ⟨by omega, by omega, by omega, by omega⟩
        have hl1 : n1 = kd.len := hat.len_eq
        obtain ⟨z1, hz1⟩ : ∃ z1, nodeErr k1 l1 t1 d1 i1 n1 p = z1 := ⟨_, rfl⟩
        have hcn := fun wX => nodeErrorR_any k1 l1 p t1 d1 i1 A1 n1 c1 wX hsh
        rw [hz1] at hcn
        obtain ⟨z2, hz2⟩ : ∃ z2, kd.err k1 = z2 := ⟨_, rfl⟩
        have hcall : ∀ wX, Below w.heap.size wr wX → Calls Try.prog 27 #[.slice A1 n1 c1, .int .i64 k1] wX fun e w' => e = .returned (.int .i64 z2) ∧ Below wX.heap.size wX w' := fun wX hX => by
          have h := IH.out kd A1 n1 c1 k1 wX hkn.1 hkn.2 ((hat.below hX).more (Nat.le_trans hbw.size hX.size))
          rw [hz2] at h
          exact h
        have hcons : a.err p = if z1 ≠ 0 then z1 else if z2 ≠ 0 then z2 else r.err p := by
          rw [HX.out, e1, ← hz1, ← hz2, hl1]; rfl
        have HC := Lib.hid hcall; clear hcall
        have HN := Lib.hid hcn; clear hcn
        have HCO := Lib.hid hcons; clear hcons
        have HE2 := Lib.hid e2; clear e1 e2 hat hkn hsh hl1 hz1 hz2 hnc hcm hts hds htis
        have hw0 : Below w.heap.size wr (wr.alloc (.cells #[.int .i64 k1, .int .i64 l1, .string t1, .string d1, .string i1, .slice A1 n1 c1] 47)) := (Below.refl _ _).alloc hbw.size _
        have H0 := Lib.hid hw0; clear hw0
        go_wp2_with fail
        refine (HN.out _).mono ?_
        rintro e w1 ⟨rfl, hb1⟩
        have y0 := hb1.cell (p := ⟨wr.heap.size, 0, none⟩) (by simp)
        have y5 := hb1.cell (p := ⟨wr.heap.size, 5, none⟩) (by simp)
        simp at y0 y5
        have hb2 := H0.out.trans (hb1.mono (by have := hbw.size; simp; omega))
        have H2 := Lib.hid hb2; clear hb2 hb1
        by_cases hq1 : z1 = 0
        · subst hq1
          go_wp2_with fail
          refine (HC.out _ H2.out).mono ?_
          rintro e w2 ⟨rfl, hb3⟩
          have hb4 := hbw.trans (H2.out.trans (hb3.mono (Nat.le_trans hbw.size H2.out.size)))
          clear hb3
          by_cases hq2 : z2 = 0
          · subst hq2
            go_wp2_with fail
            go_roundw
            case rel => exact ⟨k + 1, by omega, by go_num, by rw [HCO.out, HE2.out]; simp, hb4⟩
            case measure => simp [intOf]; omega
          · go_wp2_with fail
            go_ret
            exact ⟨retI (by rw [HCO.out]; simp [hq2]), hb4⟩
        · go_wp2_with fail
          go_ret
          exact ⟨retI (by rw [HCO.out]; simp [hq1]), hbw.trans H2.out⟩
      · obtain rfl : k = n := by omega
        have hd : a.drop k = .nil := by rw [HNL.out, Doc.drop_len']
        have HD := Lib.hid hd; clear hd
        go_wp2_with fail
        go_ret
        exact ⟨retI (by rw [HX.out, HD.out]; rfl), hbw⟩

set_option maxRecDepth 100000 in
set_option maxHeartbeats 800000 in
theorem checkNodes_any (N : Nat) : ∀ (a : Doc) (A : Option Addr) (n c : Nat) (p : Int) (w : World), a.nodes ≤ N → a.nodes ≤ 1099511627776 → a.At w w.heap.size A n →
    Calls Try.prog 32 #[.slice A n c, .int .i64 p] w fun e w' => e = .returned (.int .i64 (a.err p)) ∧ Below w.heap.size w w' := by
  induction N with
  | zero =>
    intro a A n c p w hN _ ha
    have h0 : a = .nil := by
      cases a with
      | nil => rfl
      | cons => simp [Doc.nodes] at hN
    subst h0
    obtain rfl : n = 0 := ha.len_eq
    clear ha hN
    go_enter Try.func32, Try.ntmps32
    go_wp2_with fail
    refine wp_loop_rounds 1 ?_
    rw [rounds_succ]
    go_wp2_with fail
    go_ret
    exact ⟨rfl, Below.refl _ _⟩
  | succ N ih =>
    intro a A n c p w hN hbig ha
    have IH := Lib.hid ih; clear ih
    have hnl := ha.len_eq
    have hn : n ≤ 1099511627776 := Nat.le_trans (by rw [hnl]; exact Doc.len_le a) hbig
    have HNL := Lib.hid hnl; clear hnl
    have HA := Lib.hid ha; clear ha
    go_enter Try.func32, Try.ntmps32
    go_wp2_with fail
    go_loopw [11] (fun i wr => ∃ k : Nat, k ≤ n ∧ i = .int .i64 k ∧ a.err p = (a.drop k).err p ∧ Below w.heap.size w wr) (fun i _ => n - (intOf i).toNat)
    case atStart => exact ⟨0, Nat.zero_le _, rfl, by rw [Doc.drop_zero'], Below.refl _ _⟩
    case round =>
      obtain ⟨k, hk, rfl, hx, hbw⟩ := hrel
      have HX := Lib.hid hx; clear hx
      by_cases hlt : k < n
      · obtain ⟨b, off, k1, l1, t1, d1, i1, A1, n1, c1, kd, r, rfl, e1, e2, E⟩ := HA.out.el k hlt
        have E' := E.below hbw
        obtain ⟨hlb, x0, x1, x2, x3, x4, x5, hnc, hcm, _, _, hts, hds, htis, hat⟩ := E'
        clear E
        have hsb : b < wr.heap.size := Nat.lt_of_lt_of_le hlb hbw.size
        have hkn : kd.nodes ≤ N ∧ kd.nodes ≤ 1099511627776 := by
          have h1 := Doc.nodes_drop' k a
          rw [e1] at h1
          simp only [Doc.nodes] at h1
          omega
        have hsh : Short t1 d1 i1 n1 := by
          unfold maxLen at hts hds htis hcm
          exact ⟨by omega, by omega, by omega, by omega⟩
        have hl1 : n1 = kd.len := hat.len_eq
        obtain ⟨z1, hz1⟩ : ∃ z1, nodeErr k1 l1 t1 d1 i1 n1 p = z1 := ⟨_, rfl⟩
        have hcn := fun wX => checkNode_any k1 l1 p t1 d1 i1 A1 n1 c1 wX hsh
        rw [hz1] at hcn
        obtain ⟨z2, hz2⟩ : ∃ z2, kd.err k1 = z2 := ⟨_, rfl⟩
        have hcall : ∀ wX, Below w.heap.size wr wX → Calls Try.prog 32 #[.slice A1 n1 c1, .int .i64 k1] wX fun e w' => e = .returned (.int .i64 z2) ∧ Below wX.heap.size wX w' := fun wX hX => by
          have h := IH.out kd A1 n1 c1 k1 wX hkn.1 hkn.2 ((hat.below hX).more (Nat.le_trans hbw.size hX.size))
          rw [hz2] at h
          exact h
        have hcons : a.err p = if z1 ≠ 0 then z1 else if z2 ≠ 0 then z2 else r.err p := by
          rw [HX.out, e1, ← hz1, ← hz2, hl1]; rfl
        have HC := Lib.hid hcall; clear hcall
        have HN := Lib.hid hcn; clear hcn
        have HCO := Lib.hid hcons; clear hcons
        have HE2 := Lib.hid e2; clear e1 e2 hat hkn hsh hl1 hz1 hz2 hnc hcm hts hds htis
        have hw0 : Below w.heap.size wr (wr.alloc (.cells #[.int .i64 k1, .int .i64 l1, .string t1, .string d1, .string i1, .slice A1 n1 c1] 47)) := (Below.refl _ _).alloc hbw.size _
        have H0 := Lib.hid hw0; clear hw0
        go_wp2_with fail
        refine (HN.out _).mono ?_
        rintro e w1 ⟨rfl, hb1⟩
        have y0 := hb1.cell (p := ⟨wr.heap.size, 0, none⟩) (by simp)
        have y5 := hb1.cell (p := ⟨wr.heap.size, 5, none⟩) (by simp)
        simp at y0 y5
        have hb2 := H0.out.trans (hb1.mono (by have := hbw.size; simp; omega))
        have H2 := Lib.hid hb2; clear hb2 hb1
        by_cases hq1 : z1 = 0
        · subst hq1
          go_wp2_with fail
          refine (HC.out _ H2.out).mono ?_
          rintro e w2 ⟨rfl, hb3⟩
          have hb4 := hbw.trans (H2.out.trans (hb3.mono (Nat.le_trans hbw.size H2.out.size)))
          clear hb3
          by_cases hq2 : z2 = 0
          · subst hq2
            go_wp2_with fail
            go_roundw
            case rel => exact ⟨k + 1, by omega, by go_num, by rw [HCO.out, HE2.out]; simp, hb4⟩
            case measure => simp [intOf]; omega
          · go_wp2_with fail
            go_ret
            exact ⟨retI (by rw [HCO.out]; simp [hq2]), hb4⟩
        · go_wp2_with fail
          go_ret
          exact ⟨retI (by rw [HCO.out]; simp [hq1]), hbw.trans H2.out⟩
      · obtain rfl : k = n := by omega
        have hd : a.drop k = .nil := by rw [HNL.out, Doc.drop_len']
        have HD := Lib.hid hd; clear hd
        go_wp2_with fail
        go_ret
        exact ⟨retI (by rw [HX.out, HD.out]; rfl), hbw⟩
end Go.Proofs.Ytmaahkonjpcgiab
