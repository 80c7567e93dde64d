/- DERIVED. MarkNests returns true, and leaves what was there as it was, for every list of entries that lies in memory: by a walk of its text over the contract of mark.Nested. No condition. -/
import Derived.Test.YtmaahkonjpcgiaaNestsWalk
import Derived.Laws.OwnMore
import Derived.BigQuiet
import Derived.Deep.QuietTactic
import Derived.Deep.Draws
import Derived.WalkSmall
namespace Go.Proofs.Ytmaahkonjpcgiaa
open Go.RowKit
open NestsPlain

/-- An owned row of integers: its value's shape, and each cell. -/
theorem own_shape {w : World} {base n : Nat} {v : Value} {xs : List Int} {e : TypeId} (h : w.ownsRow base e 1 v n (xs.map (Value.int .i64))) :
    ∃ A c, v = .slice A n c ∧ n = xs.length ∧ ∀ i (hi : i < xs.length), ∃ g, A = some ⟨g, 0, none⟩ ∧ base ≤ g ∧ g < w.heap.size ∧ w.cell? ⟨g, i, none⟩ = some (.int .i64 xs[i]) := by
  have hl : n = xs.length := by have := h.1; simp at this; omega
  rcases h.2 with ⟨rfl, h0⟩ | ⟨g, cap, cur, rfl, hg, _⟩
  · refine ⟨none, 0, by rw [h0], hl, fun i hi => absurd hi (by omega)⟩
  · refine ⟨some ⟨g, 0, none⟩, cap, rfl, hl, fun i hi => ⟨g, rfl, hg, (h.lt g rfl).2, ?_⟩⟩
    have := h.cells (g := g) rfl i (.int .i64 xs[i]) (by simp [hi])
    simpa [Addr.add] using (by by_cases h0 : i = 0 <;> simp [Addr.add, h0] at this ⊢ <;> exact this : w.cell? ⟨g, i, none⟩ = some (.int .i64 xs[i]))

/-- Two rows of integers in memory that read the same. -/
def TwoRows (w : World) (A A' : Option Addr) (xs : List Int) : Prop :=
  ∀ i (h : i < xs.length), ∃ b b' : Nat, A = some ⟨b, 0, none⟩ ∧ A' = some ⟨b', 0, none⟩ ∧ w.cell? ⟨b, i, none⟩ = some (.int .i64 xs[i]) ∧ w.cell? ⟨b', i, none⟩ = some (.int .i64 xs[i])

set_option maxRecDepth 100000 in
set_option maxHeartbeats 400000 in
theorem equal_same (A A' : Option Addr) (n c c' : Nat) (xs : List Int) (w : World) (hn : n ≤ 4000) (hx : n = xs.length) (h : TwoRows w A A' xs) :
    Calls Try.prog 21 #[.slice A n c, .slice A' n c'] w fun e w' => e = .returned (.bool true) ∧ ∃ q, w' = w.drewN q := by
  have HT := Lib.hid h; clear h
  have HX := Lib.hid hx; clear hx
  have hne : (!((n : Int) == (n : Int))) = false := by simp
  go_enter Try.func21, Try.ntmps21
  go_wp2
  go_loopw [13] (fun i wr => ∃ k q : Nat, k ≤ n ∧ i = .int .i64 k ∧ wr = w.drewN q) (fun i _ => n - (intOf i).toNat)
  case atStart => exact ⟨0, 0, Nat.zero_le _, rfl, rfl⟩
  case round =>
    obtain ⟨k, q, hk, rfl, rfl⟩ := hrel
    by_cases hlt : k < n
    · obtain ⟨b, b', rfl, rfl, h1, h2⟩ := HT.out k (by have := HX.out; omega)
      generalize xs[k]'(by have := HX.out; omega) = z at h1 h2
      go_wp2
      go_quiet (fail)
      go_wp2
      go_roundw
      case rel => exact ⟨k + 1, _, by omega, by go_num, rfl⟩
      case measure => simp [intOf]; omega
    · go_wp2
      go_ret
      exact ⟨rfl, _, rfl⟩

theorem new_cell (w : World) (b : Nat) (v : Value) (e : TypeId) (h : b = w.heap.size) : ∀ j u, [v][j]? = some u → (w.alloc (.cells #[v] e)).cell? ((⟨b, 0, none⟩ : Addr).add j) = some u := by
  intro j u hj
  subst h
  match j, hj with
  | 0, hj => simp at hj; subst hj; simp [Addr.add]
  | j + 1, hj => simp at hj
theorem want_behind {w1 wo w2 : World} {u : Value} {k q : Nat} {xs : List Value} {o1 o2 : Obj} {e : TypeId} (hbr : Below w1.heap.size w1 wo) (hown : wo.ownsRow w1.heap.size e 1 u k xs)
    (hgrow : (((wo.alloc o1).drewN q).alloc o2).grownBy w2 u.ownBlock) : Below w1.heap.size w1 w2 := by
  have hs := hbr.size
  exact ((below_drewN (hbr.alloc hs o1) q).alloc (by simp; omega) o2).grown hgrow (by simp; omega) (fun j hj => (hown.lt j hj).1)

set_option maxRecDepth 100000 in
set_option maxHeartbeats 800000 in
theorem law_any (A : Option Addr) (n c : Nat) (lv : Nat → Int) (w : World) (hm : n ≤ 9223372036854775807) (hents : EntsAt w w.heap.size A n lv) :
    Calls Try.prog 6 #[.slice A n c] w fun e w' => e = .returned (.bool true) ∧ Below w.heap.size w w' := by
  have HE := Lib.hid hents
  by_cases hbig : 4000 < n
  · clear hents
    go_enter Try.func6, Try.ntmps6
    go_wp2_with fail
    go_ret
    exact ⟨rfl, Below.refl _ _⟩
  have hn : n ≤ 4000 := by omega
  have HC := Lib.hid (nested_any A n c lv w hn hents)
  clear hents
  obtain ⟨i0, hi, hz0, hz1, hz2⟩ := info_parts nests_info
  go_enter Try.func6, Try.ntmps6
  go_wp2_with fail
  refine HC.out.mono ?_
  intro e w1 hp
  rcases hp with ⟨v, hgood, rfl, hown, hb1⟩ | ⟨hbad, rfl, hb1⟩
  · have HG := Lib.hid hgood; clear hgood
    have HO := Lib.hid hown; clear hown
    go_wp2_with fail
    go_loopw [5, 19] (fun u i wr => ∃ k : Nat, k ≤ n ∧ i = .int .i64 k ∧ wr.ownsRow w1.heap.size 3 1 u k ((outs lv k).map (Value.int .i64)) ∧ Below w1.heap.size w1 wr) (fun _ i _ => n - (intOf i).toNat)
    case atStart => exact ⟨0, Nat.zero_le _, rfl, World.ownsRow_nil _ _ _ _, Below.refl _ _⟩
    case round =>
      obtain ⟨wo, rfl⟩ : ∃ wo : World, wo = wr := ⟨_, rfl⟩
      obtain ⟨k, hk, rfl, hown, hbr⟩ := hrel
      have hbw : Below w.heap.size w wo := hb1.trans (hbr.mono hb1.size)
      have HOW := Lib.hid hown; clear hown
      by_cases hlt : k < n
      · obtain ⟨b, off, s, t, rfl, hb, hc0, hc1, hc2⟩ := HE.out k hlt
        have g0 : wo.cell? ⟨b, off + k * 3, none⟩ = some (.int .i64 (lv k)) := (hbw.cell hb).trans hc0
        have g1 : wo.cell? ⟨b, off + k * 3 + 1, none⟩ = some (.string s) := (hbw.cell hb).trans hc1
        have g2 : wo.cell? ⟨b, off + k * 3 + 2, none⟩ = some (.string t) := (hbw.cell hb).trans hc2
        have cells : ∀ m, m < n → wo.cell? ⟨b, off + m * 3, none⟩ = some (.int .i64 (lv m)) := fun m hm => by
          obtain ⟨b', off', s', t', e, hb', hc', _⟩ := HE.out m hm
          cases e
          exact (hbw.cell hb').trans hc'
        have HCE := Lib.hid cells; clear cells
        clear hc0 hc1 hc2
        have hsz : b < wo.heap.size := Nat.lt_of_lt_of_le hb hbw.size
        have hxr := HG.out k hlt
        obtain ⟨x, hx⟩ : ∃ x, x = lv k := ⟨_, rfl⟩
        rw [← hx] at g0 hxr
        have HX := Lib.hid hx; clear hx
        obtain ⟨h1, h6⟩ := hxr
        go_wp2
        go_loopw [8] (fun j wi => ∃ (jj : Int) (q : Nat), -1 ≤ jj ∧ jj < k ∧ j = .int .i64 jj ∧ prev lv x k = prev lv x (jj + 1).toNat ∧ wi = (wo.alloc (.cells #[.int .i64 x, .string s, .string t] 42)).drewN q) (fun j _ => (intOf j + 1).toNat)
        case atStart => exact ⟨(k : Int) - 1, 0, by omega, by omega, rfl, by congr 1; omega, rfl⟩
        case round =>
          obtain ⟨jj, q, hj1, hjk, rfl, hpj, rfl⟩ := hrel
          have HP := Lib.hid hpj; clear hpj
          by_cases hneg : jj < 0
          · obtain rfl : jj = -1 := by omega
            have hd : decide ((0 : Int) ≤ -1) = false := by decide
            go_wp2
            go_quiet (fail)
            go_wp2_with (at_builtin; refine wpList_append_own _ rfl _ _ 38 rfl w1.heap.size 3 i0 (.int .i64 0) 1 8 Try.underlying38 hi hz0 hz1 hz2 rfl (by decide) _ k ((outs lv k).map (Value.int .i64)) rfl ?own1 ⟨wo.heap.size + 1, 0, none⟩ 1 1 [.int .i64 (-1)] rfl rfl ?c1 ?c2 ?c3 ?c4 ?c5 ?_)
            case own1 => exact (HOW.out.alloc _).alloc _
            case c1 => exact new_cell _ _ _ _ (by simp)
            case c2 => intro u hu; simp at hu; subst hu; rfl
            case c3 => unfold maxLen; omega
            case c4 => omega
            case c5 => have := hbr.size; simp; omega
            intro v' w2 hown' hgrow _
            have hb2 := want_behind hbr HOW.out hgrow
            clear hgrow
            have HO2 := Lib.hid hown'; clear hown'
            go_wp2
            go_roundw
            case rel =>
              refine ⟨k + 1, by omega, by go_num, ?_, hb2⟩
              have := HO2.out
              rw [outs_succ, ← HX.out, HP.out, List.map_append]
              exact this
            case measure => simp [intOf]; omega
          · obtain ⟨m, rfl⟩ : ∃ m : Nat, jj = m := ⟨jj.toNat, by omega⟩
            have hd : decide (0 ≤ (m : Int)) = true := by simp
            have gm := HCE.out m (by omega)
            obtain ⟨y, hy⟩ : ∃ y, y = lv m := ⟨_, rfl⟩
            rw [← hy] at gm
            have HY := Lib.hid hy; clear hy
            by_cases hge : x ≤ y
            · go_wp2
              go_quiet (fail)
              go_wp2
              go_roundw
              case rel => exact ⟨(m : Int) - 1, _, by omega, by omega, rfl, by rw [HP.out, show ((m : Int) + 1).toNat = m + 1 by omega, show ((m : Int) - 1 + 1).toNat = m by omega]; exact prev_back lv x m (by have := HY.out; omega), rfl⟩
              case measure => simp [intOf]
            · go_wp2
              go_quiet (fail)
              go_wp2_with (at_builtin; refine wpList_append_own _ rfl _ _ 38 rfl w1.heap.size 3 i0 (.int .i64 0) 1 8 Try.underlying38 hi hz0 hz1 hz2 rfl (by decide) _ k ((outs lv k).map (Value.int .i64)) rfl ?own2 ⟨wo.heap.size + 1, 0, none⟩ 1 1 [.int .i64 m] rfl rfl ?d1 ?d2 ?d3 ?d4 ?d5 ?_)
              case own2 => exact (HOW.out.alloc _).alloc _
              case d1 => exact new_cell _ _ _ _ (by simp)
              case d2 => intro u hu; simp at hu; subst hu; rfl
              case d3 => unfold maxLen; omega
              case d4 => omega
              case d5 => have := hbr.size; simp; omega
              intro v' w2 hown' hgrow _
              have hb2 := want_behind hbr HOW.out hgrow
              clear hgrow
              have HO2 := Lib.hid hown'; clear hown'
              go_wp2
              go_roundw
              case rel =>
                refine ⟨k + 1, by omega, by go_num, ?_, hb2⟩
                have := HO2.out
                rw [outs_succ, ← HX.out, HP.out, List.map_append, show ((m : Int) + 1).toNat = m + 1 by omega, prev_found lv x m (by have := HY.out; omega)]
                exact this
              case measure => simp [intOf]; omega
      · obtain rfl : k = n := by omega
        obtain ⟨A1, c1, rfl, hl1, hs1⟩ := own_shape HO.out
        obtain ⟨A2, c2, rfl, hl2, hs2⟩ := own_shape HOW.out
        have two : TwoRows wo A1 A2 (outs lv k) := fun i hi => by
          obtain ⟨g, e1, _, hg, hc1⟩ := hs1 i hi
          obtain ⟨g', e2, _, _, hc2⟩ := hs2 i hi
          exact ⟨g, g', e1, e2, (hbr.cell hg).trans hc1, hc2⟩
        have HEQ := Lib.hid (equal_same A1 A2 k c1 c2 (outs lv k) wo hn hl1 two)
        clear two hs1 hs2 hl1 hl2
        go_wp2_with (go_at_call 21; refine HEQ.out.mono ?_; rintro e w' ⟨rfl, q, rfl⟩)
        go_ret
        exact ⟨rfl, below_drewN hbw q⟩
  · have HB := Lib.hid hbad; clear hbad
    go_wp2_with fail
    go_loopw [5, 19] (fun u i wr => ∃ k : Nat, k ≤ n ∧ i = .int .i64 k ∧ Good lv k ∧ wr.ownsRow w1.heap.size 3 1 u k ((outs lv k).map (Value.int .i64)) ∧ Below w1.heap.size w1 wr) (fun _ i _ => n - (intOf i).toNat)
    case atStart => exact ⟨0, Nat.zero_le _, rfl, fun i hi => absurd hi (by omega), World.ownsRow_nil _ _ _ _, Below.refl _ _⟩
    case round =>
      obtain ⟨wo, rfl⟩ : ∃ wo : World, wo = wr := ⟨_, rfl⟩
      obtain ⟨k, hk, rfl, hgk, hown, hbr⟩ := hrel
      have HGK := Lib.hid hgk; clear hgk
      have hbw : Below w.heap.size w wo := hb1.trans (hbr.mono hb1.size)
      have HOW := Lib.hid hown; clear hown
      by_cases hlt : k < n
      · obtain ⟨b, off, s, t, rfl, hb, hc0, hc1, hc2⟩ := HE.out k hlt
        have g0 : wo.cell? ⟨b, off + k * 3, none⟩ = some (.int .i64 (lv k)) := (hbw.cell hb).trans hc0
        have g1 : wo.cell? ⟨b, off + k * 3 + 1, none⟩ = some (.string s) := (hbw.cell hb).trans hc1
        have g2 : wo.cell? ⟨b, off + k * 3 + 2, none⟩ = some (.string t) := (hbw.cell hb).trans hc2
        have cells : ∀ m, m < n → wo.cell? ⟨b, off + m * 3, none⟩ = some (.int .i64 (lv m)) := fun m hm => by
          obtain ⟨b', off', s', t', e, hb', hc', _⟩ := HE.out m hm
          cases e
          exact (hbw.cell hb').trans hc'
        have HCE := Lib.hid cells; clear cells
        clear hc0 hc1 hc2
        have hsz : b < wo.heap.size := Nat.lt_of_lt_of_le hb hbw.size
        obtain ⟨x, hx⟩ : ∃ x, x = lv k := ⟨_, rfl⟩
        rw [← hx] at g0
        have HX := Lib.hid hx; clear hx
        have hbo : Below w.heap.size w (wo.alloc (.cells #[.int .i64 x, .string s, .string t] 42)) := hbw.alloc hbw.size _
        by_cases hx1 : x < 1
        · go_wp2
          go_ret
          exact ⟨rfl, hbo⟩
        by_cases hx6 : 6 < x
        · go_wp2
          go_ret
          exact ⟨rfl, hbo⟩
        have h1 : 1 ≤ x := by omega
        have h6 : x ≤ 6 := by omega
        have hgk1 : Good lv (k + 1) := fun i hi => by
          by_cases e : i < k
          · exact HGK.out i e
          · obtain rfl : i = k := by omega
            have := HX.out
            omega
        have HGK1 := Lib.hid hgk1; clear hgk1
        clear hx1 hx6 hbo
        go_wp2
        go_loopw [8] (fun j wi => ∃ (jj : Int) (q : Nat), -1 ≤ jj ∧ jj < k ∧ j = .int .i64 jj ∧ prev lv x k = prev lv x (jj + 1).toNat ∧ wi = (wo.alloc (.cells #[.int .i64 x, .string s, .string t] 42)).drewN q) (fun j _ => (intOf j + 1).toNat)
        case atStart => exact ⟨(k : Int) - 1, 0, by omega, by omega, rfl, by congr 1; omega, rfl⟩
        case round =>
          obtain ⟨jj, q, hj1, hjk, rfl, hpj, rfl⟩ := hrel
          have HP := Lib.hid hpj; clear hpj
          by_cases hneg : jj < 0
          · obtain rfl : jj = -1 := by omega
            have hd : decide ((0 : Int) ≤ -1) = false := by decide
            go_wp2
            go_quiet (fail)
            go_wp2_with (at_builtin; refine wpList_append_own _ rfl _ _ 38 rfl w1.heap.size 3 i0 (.int .i64 0) 1 8 Try.underlying38 hi hz0 hz1 hz2 rfl (by decide) _ k ((outs lv k).map (Value.int .i64)) rfl ?bown1 ⟨wo.heap.size + 1, 0, none⟩ 1 1 [.int .i64 (-1)] rfl rfl ?bc1 ?bc2 ?bc3 ?bc4 ?bc5 ?_)
            case bown1 => exact (HOW.out.alloc _).alloc _
            case bc1 => exact new_cell _ _ _ _ (by simp)
            case bc2 => intro u hu; simp at hu; subst hu; rfl
            case bc3 => unfold maxLen; omega
            case bc4 => omega
            case bc5 => have := hbr.size; simp; omega
            intro v' w2 hown' hgrow _
            have hb2 := want_behind hbr HOW.out hgrow
            clear hgrow
            have HO2 := Lib.hid hown'; clear hown'
            go_wp2
            go_roundw
            case rel =>
              refine ⟨k + 1, by omega, by go_num, HGK1.out, ?_, hb2⟩
              have := HO2.out
              rw [outs_succ, ← HX.out, HP.out, List.map_append]
              exact this
            case measure => simp [intOf]; omega
          · obtain ⟨m, rfl⟩ : ∃ m : Nat, jj = m := ⟨jj.toNat, by omega⟩
            have hd : decide (0 ≤ (m : Int)) = true := by simp
            have gm := HCE.out m (by omega)
            obtain ⟨y, hy⟩ : ∃ y, y = lv m := ⟨_, rfl⟩
            rw [← hy] at gm
            have HY := Lib.hid hy; clear hy
            by_cases hge : x ≤ y
            · go_wp2
              go_quiet (fail)
              go_wp2
              go_roundw
              case rel => exact ⟨(m : Int) - 1, _, by omega, by omega, rfl, by rw [HP.out, show ((m : Int) + 1).toNat = m + 1 by omega, show ((m : Int) - 1 + 1).toNat = m by omega]; exact prev_back lv x m (by have := HY.out; omega), rfl⟩
              case measure => simp [intOf]
            · go_wp2
              go_quiet (fail)
              go_wp2_with (at_builtin; refine wpList_append_own _ rfl _ _ 38 rfl w1.heap.size 3 i0 (.int .i64 0) 1 8 Try.underlying38 hi hz0 hz1 hz2 rfl (by decide) _ k ((outs lv k).map (Value.int .i64)) rfl ?bown2 ⟨wo.heap.size + 1, 0, none⟩ 1 1 [.int .i64 m] rfl rfl ?bd1 ?bd2 ?bd3 ?bd4 ?bd5 ?_)
              case bown2 => exact (HOW.out.alloc _).alloc _
              case bd1 => exact new_cell _ _ _ _ (by simp)
              case bd2 => intro u hu; simp at hu; subst hu; rfl
              case bd3 => unfold maxLen; omega
              case bd4 => omega
              case bd5 => have := hbr.size; simp; omega
              intro v' w2 hown' hgrow _
              have hb2 := want_behind hbr HOW.out hgrow
              clear hgrow
              have HO2 := Lib.hid hown'; clear hown'
              go_wp2
              go_roundw
              case rel =>
                refine ⟨k + 1, by omega, by go_num, HGK1.out, ?_, hb2⟩
                have := HO2.out
                rw [outs_succ, ← HX.out, HP.out, List.map_append, show ((m : Int) + 1).toNat = m + 1 by omega, prev_found lv x m (by have := HY.out; omega)]
                exact this
              case measure => simp [intOf]; omega
      · obtain rfl : k = n := by omega
        obtain ⟨i, hi, _, hno⟩ := HB.out
        exact absurd (HGK.out i hi) hno
end Go.Proofs.Ytmaahkonjpcgiaa
