/- DERIVED. What the reference's eachValue returns: the error of a value and its items, by induction over the value. Condition: at most 2^40 values and letters. -/
import Derived.Test.YteckcanghnligaaDoorConfRef
import Derived.Test.YteckcanghnligaaDoorConfEach
import Derived.BigQuiet
import Derived.Deep.QuietTactic
import Derived.Deep.Cut
import Derived.Deep.CutRange
namespace Go.Proofs.YteckcanghnligaaDoor
set_option linter.unusedVariables false
open Go.RowKit
/-- A field that the kind does not use is set, the keys' number aside. -/
def un5 (k : Int) (bo : Bool) (i : Int) (te : Bool) (n m : Nat) : Bool :=
  (bo && k != 1) || (i != 0 && k != 2 && k != 4) || (!te && k != 3) || (decide (0 < n) && k != 5 && k != 6) || (decide (0 < m) && k != 6)
theorem unB_un5 (k : Int) (bo : Bool) (i : Int) (te : Bool) (n m : Nat) : unB k bo i te n m = (un5 k bo i te n m || decide (k = 6 ∧ ¬ m = n)) := by
  unfold unB un5
  have e : ∀ a b : Int, (a == b) = decide (a = b) := fun _ _ => rfl
  simp only [bne, Bool.decide_and, decide_not, e, Bool.and_assoc, ne_eq]
/-- The error, in the order in which the reference asks. -/
theorem valErr_un5 {k : Int} {bo : Bool} {i : Int} {t : ByteArray} {n m : Nat} {keys : List ByteArray} (h0 : ¬ k < 0) (h6 : ¬ 6 < k) (hm : m = keys.length) :
    valErr leS k bo i t n keys = if un5 k bo i t.toList.isEmpty n m = true then 1 else if decide (k = 6 ∧ ¬ m = n) = true then 1 else if decide (k = 4 ∧ (i < 0 ∨ 84005 < i)) = true then 2 else
      if 5000 < t.size then 4 else if badS t = true then 9 else keysErr leS none keys := by
  subst hm
  unfold valErr textErr
  rw [if_neg (show ¬ (k < 0 ∨ 6 < k) by omega), unB_un5]
  cases un5 k bo i t.toList.isEmpty n keys.length with
  | true => rfl
  | false =>
    simp only [Bool.false_or, Bool.false_eq_true, if_false, decide_eq_true_eq]
    by_cases h1 : k = 6 ∧ ¬ keys.length = n
    · rw [if_pos h1, if_pos h1]
    · rw [if_neg h1, if_neg h1]
      by_cases h2 : k = 4 ∧ (i < 0 ∨ 84005 < i)
      · rw [if_pos h2, if_pos h2]
      · rw [if_neg h2, if_neg h2]
        by_cases h3 : 5000 < t.size
        · rw [if_pos h3, if_pos h3]; simp
        · rw [if_neg h3, if_neg h3]
          unfold badS
          by_cases h4 : t.data.toList.any ctB = true
          · rw [if_pos h4, if_pos h4]; simp
          · rw [if_neg h4, if_neg h4]; simp

set_option maxRecDepth 100000 in
set_option maxHeartbeats 2000000 in
theorem eachValueR_gen (k : Int) (bo : Bool) (i : Int) (t : ByteArray) (A1 : Option Addr) (n1 c1 : Nat) (A2 : Option Addr) (n2 c2 : Nat) (items : Vals) (keys : List ByteArray) (w : World)
    (hv : VOk w w.heap.size k i t A1 n1 c1 A2 n2 c2 items keys) (hbig : items.nodes ≤ 1099511627776) (hn2 : n2 ≤ 1099511627776)
    (hc : AtItems 11 items n1 (fun k bo i t it ks => .int .i64 (oneErr leS k bo i t it ks))) :
    Calls Tryd.prog 11 #[.agg #[.int .i64 k, .bool bo, .int .i64 i, .string t, .slice A1 n1 c1, .slice A2 n2 c2]] w
      fun e w' => e = .returned (.int .i64 (oneErr leS k bo i t items keys)) ∧ Below w.heap.size w w' := by
  have HC := Lib.hid hc; clear hc
  have ha := hv.at_
  have hnl := ha.len_eq
  have hn : n1 ≤ items.nodes := by rw [hnl]; exact Vals.len_le items
  have hks := hv.ks
  have hts := hv.ts
  unfold maxLen at hts
  have HZ := Lib.hid hks.2.1
  have HCE := Lib.hid hks.2.2
  have hm := hks.1
  have HNL := Lib.hid hnl; clear hnl
  have HA := Lib.hid ha; clear ha hv hks
  have HB := Lib.hid (fun o => (Below.refl w.heap.size w).alloc (Nat.le_refl _) o)
  by_cases h0 : k < 0
  · clear hm
    go_enter Tryd.func11, Tryd.ntmps11
    go_wp2_with fail
    go_ret
    exact ⟨retI (oneErr_nz (x := 10) (by unfold valErr; rw [if_pos (.inl h0)]) (by omega)), HB.out _⟩
  · by_cases h6 : 6 < k
    · clear hm
      go_enter Tryd.func11, Tryd.ntmps11
      go_wp2_with fail
      go_ret
      exact ⟨retI (oneErr_nz (x := 10) (by unfold valErr; rw [if_pos (.inr h6)]) (by omega)), HB.out _⟩
    · have hV := valErr_un5 (bo := bo) (i := i) (t := t) (n := items.len) h0 h6 hm
      rw [← HNL.out] at hV
      have HM := Lib.hid hm; clear hm
      obtain ⟨u, hu⟩ : ∃ u, un5 k bo i t.toList.isEmpty n1 n2 = u := ⟨_, rfl⟩
      obtain ⟨d1, hd1⟩ : ∃ d, decide (k = 6 ∧ ¬ n2 = n1) = d := ⟨_, rfl⟩
      obtain ⟨d2, hd2⟩ : ∃ d, decide (k = 4 ∧ (i < 0 ∨ 84005 < i)) = d := ⟨_, rfl⟩
      rw [hu, hd1, hd2] at hV
      have hVV : valErr leS k bo i t items.len keys = if u = true then 1 else if d1 = true then 1 else if d2 = true then 2 else if 5000 < t.size then 4 else if badS t = true then 9 else keysErr leS none keys := by rw [← hV, HNL.out]
      have HV := Lib.hid hVV; clear hVV hV
      have HU := Lib.hid hu; clear hu
      have HD1 := Lib.hid hd1; clear hd1
      have HD2 := Lib.hid hd2; clear hd2
      go_enter Tryd.func11, Tryd.ntmps11
      go_upto_region 4 with fail
      go_cut [68] from 17 (fun v wx => v = .bool u ∧ wx = w.alloc (.cells #[.int .i64 k, .bool bo, .int .i64 i, .string t, .slice A1 n1 c1, .slice A2 n2 c2] 25))
      case first =>
        have ht : t.toList.isEmpty = false ∨ t.toList.isEmpty = true := by cases t.toList.isEmpty <;> simp
        have hi : ((i != 0) = true) ∨ i = 0 := by by_cases h : i = 0 <;> simp [h]
        have hm1 : (0 : Int) < (n1 : Int) ∨ ¬ (0 : Int) < (n1 : Int) := Classical.em _
        have hm2 : (0 : Int) < (n2 : Int) ∨ ¬ (0 : Int) < (n2 : Int) := Classical.em _
        have hk : ∀ c : Int, k = c ∨ (k != c) = true := fun c => by by_cases h : k = c <;> simp [h]
        cases bo with
        | true =>
          rcases hk 1 with rfl | z1
          · clear hk
            rcases hi with zi | rfl
            · clear ht hm1 hm2
              (go_wp2_with fail; go_meet; case rel => exact ⟨by rw [← HU.out]; simp [un5, *], rfl⟩)
            · rcases ht with zt | zt
              · clear hm1 hm2
                (go_wp2_with fail; go_meet; case rel => exact ⟨by rw [← HU.out]; simp [un5, *], rfl⟩)
              · rcases hm1 with z5 | z5
                · clear hm2
                  (go_wp2_with fail; go_meet; case rel => exact ⟨by rw [← HU.out]; simp [un5, *], rfl⟩)
                · rcases hm2 with z6 | z6
                  · (go_wp2_with fail; go_meet; case rel => exact ⟨by rw [← HU.out]; simp [un5, *], rfl⟩)
                  · (go_wp2_with fail; go_meet; case rel => exact ⟨by rw [← HU.out]; simp [un5, *], rfl⟩)
          · clear hk ht hi hm1 hm2
            (go_wp2_with fail; go_meet; case rel => exact ⟨by rw [← HU.out]; simp [un5, *], rfl⟩)
        | false =>
          rcases hi with zi | rfl
          · rcases hk 2 with rfl | z2
            · clear hk
              rcases ht with zt | zt
              · clear hm1 hm2
                (go_wp2_with fail; go_meet; case rel => exact ⟨by rw [← HU.out]; simp [un5, *], rfl⟩)
              · rcases hm1 with z5 | z5
                · clear hm2
                  (go_wp2_with fail; go_meet; case rel => exact ⟨by rw [← HU.out]; simp [un5, *], rfl⟩)
                · rcases hm2 with z6 | z6
                  · (go_wp2_with fail; go_meet; case rel => exact ⟨by rw [← HU.out]; simp [un5, *], rfl⟩)
                  · (go_wp2_with fail; go_meet; case rel => exact ⟨by rw [← HU.out]; simp [un5, *], rfl⟩)
            · rcases hk 4 with rfl | z4
              · clear hk
                rcases ht with zt | zt
                · clear hm1 hm2
                  (go_wp2_with fail; go_meet; case rel => exact ⟨by rw [← HU.out]; simp [un5, *], rfl⟩)
                · rcases hm1 with z5 | z5
                  · clear hm2
                    (go_wp2_with fail; go_meet; case rel => exact ⟨by rw [← HU.out]; simp [un5, *], rfl⟩)
                  · rcases hm2 with z6 | z6
                    · (go_wp2_with fail; go_meet; case rel => exact ⟨by rw [← HU.out]; simp [un5, *], rfl⟩)
                    · (go_wp2_with fail; go_meet; case rel => exact ⟨by rw [← HU.out]; simp [un5, *], rfl⟩)
              · clear hk ht hm1 hm2
                (go_wp2_with fail; go_meet; case rel => exact ⟨by rw [← HU.out]; simp [un5, *], rfl⟩)
          · rcases ht with zt | zt
            · rcases hk 3 with rfl | z3
              · clear hk
                rcases hm1 with z5 | z5
                · clear hm2
                  (go_wp2_with fail; go_meet; case rel => exact ⟨by rw [← HU.out]; simp [un5, *], rfl⟩)
                · rcases hm2 with z6 | z6
                  · (go_wp2_with fail; go_meet; case rel => exact ⟨by rw [← HU.out]; simp [un5, *], rfl⟩)
                  · (go_wp2_with fail; go_meet; case rel => exact ⟨by rw [← HU.out]; simp [un5, *], rfl⟩)
              · clear hk hm1 hm2
                (go_wp2_with fail; go_meet; case rel => exact ⟨by rw [← HU.out]; simp [un5, *], rfl⟩)
            · rcases hm1 with z5 | z5
              · rcases hk 5 with rfl | y5
                · clear hk
                  rcases hm2 with z6 | z6
                  · (go_wp2_with fail; go_meet; case rel => exact ⟨by rw [← HU.out]; simp [un5, *], rfl⟩)
                  · (go_wp2_with fail; go_meet; case rel => exact ⟨by rw [← HU.out]; simp [un5, *], rfl⟩)
                · rcases hk 6 with rfl | y6
                  · clear hk
                    rcases hm2 with z6 | z6
                    · (go_wp2_with fail; go_meet; case rel => exact ⟨by rw [← HU.out]; simp [un5, *], rfl⟩)
                    · (go_wp2_with fail; go_meet; case rel => exact ⟨by rw [← HU.out]; simp [un5, *], rfl⟩)
                  · clear hk hm2
                    (go_wp2_with fail; go_meet; case rel => exact ⟨by rw [← HU.out]; simp [un5, *], rfl⟩)
              · rcases hm2 with z6 | z6
                · rcases hk 6 with rfl | y6
                  · clear hk
                    (go_wp2_with fail; go_meet; case rel => exact ⟨by rw [← HU.out]; simp [un5, *], rfl⟩)
                  · clear hk
                    (go_wp2_with fail; go_meet; case rel => exact ⟨by rw [← HU.out]; simp [un5, *], rfl⟩)
                · clear hk
                  (go_wp2_with fail; go_meet; case rel => exact ⟨by rw [← HU.out]; simp [un5, *], rfl⟩)
      case rest =>
        obtain ⟨rfl, rfl⟩ := hcut
        cases u with
        | true =>
          go_wp2_with fail
          go_ret
          exact ⟨retI (oneErr_nz (x := 1) (by rw [HV.out]; rfl) (by omega)), HB.out _⟩
        | false =>
          go_upto_region 6 with fail
          go_cut [79] from 69 (fun v wx => v = .bool d1 ∧ wx = w.alloc (.cells #[.int .i64 k, .bool bo, .int .i64 i, .string t, .slice A1 n1 c1, .slice A2 n2 c2] 25))
          case first =>
            by_cases hk6 : k = 6
            · subst hk6
              by_cases hnn : (n2 : Int) = (n1 : Int)
              · go_wp2_with fail
                go_meet
                case rel => exact ⟨by rw [← HD1.out]; simp; omega, rfl⟩
              · have znn : ((n2 : Int) != (n1 : Int)) = true := by simpa using hnn
                go_wp2_with fail
                go_meet
                case rel => exact ⟨by rw [← HD1.out]; simp; omega, rfl⟩
            · have z6 : (k == 6) = false := by simpa using hk6
              go_wp2_with fail
              go_meet
              case rel => exact ⟨by rw [← HD1.out]; simp [hk6], rfl⟩
          case rest =>
            obtain ⟨rfl, rfl⟩ := hcut
            cases d1 with
            | true =>
              go_wp2_with fail
              go_ret
              exact ⟨retI (oneErr_nz (x := 1) (by rw [HV.out]; rfl) (by omega)), HB.out _⟩
            | false =>
              go_upto_region 8 with fail
              go_cut [91] from 80 (fun v wx => v = .bool d2 ∧ wx = w.alloc (.cells #[.int .i64 k, .bool bo, .int .i64 i, .string t, .slice A1 n1 c1, .slice A2 n2 c2] 25))
              case first =>
                by_cases hk4 : k = 4
                · subst hk4
                  by_cases hi1 : i < 0
                  · go_wp2_with fail
                    go_meet
                    case rel => exact ⟨by rw [← HD2.out]; simp [hi1], rfl⟩
                  · by_cases hi2 : 84005 < i
                    · go_wp2_with fail
                      go_meet
                      case rel => exact ⟨by rw [← HD2.out]; simp [hi2], rfl⟩
                    · go_wp2_with fail
                      go_meet
                      case rel => exact ⟨by rw [← HD2.out]; simp; omega, rfl⟩
                · have z4 : (k == 4) = false := by simpa using hk4
                  go_wp2_with fail
                  go_meet
                  case rel => exact ⟨by rw [← HD2.out]; simp [hk4], rfl⟩
              case rest =>
                obtain ⟨rfl, rfl⟩ := hcut
                cases d2 with
                | true =>
                  go_wp2_with fail
                  go_ret
                  exact ⟨retI (oneErr_nz (x := 2) (by rw [HV.out]; rfl) (by omega)), HB.out _⟩
                | false =>
                  have hV2 : valErr leS k bo i t items.len keys = if 5000 < t.size then 4 else if badS t = true then 9 else keysErr leS none keys := by rw [HV.out]; rfl
                  clear HV
                  have HV := Lib.hid hV2; clear hV2
                  by_cases h5 : (5000 : Int) < (t.size : Int)
                  · go_wp2_with fail
                    go_ret
                    exact ⟨retI (oneErr_nz (x := 4) (by rw [HV.out, if_pos (by omega)]) (by omega)), HB.out _⟩
                  · have hV3 : valErr leS k bo i t items.len keys = if badS t = true then 9 else keysErr leS none keys := by rw [HV.out, if_neg (by omega)]
                    clear HV
                    have HV := Lib.hid hV3; clear hV3
                    have HBY := Lib.hid (fun wX => badByte_any t wX hts)
                    obtain ⟨bad, hbad⟩ : ∃ bad, badS t = bad := ⟨_, rfl⟩
                    rw [hbad] at HV HBY
                    clear hbad
                    go_wp2_with fail
                    refine (HBY.out _).mono ?_
                    rintro e w' ⟨rfl, rfl⟩
                    cases bad with
                    | true =>
                      go_wp2_with fail
                      go_ret
                      exact ⟨retI (oneErr_nz (x := 9) (by rw [HV.out]; rfl) (by omega)), HB.out _⟩
                    | false =>
                      have hV4 : valErr leS k bo i t items.len keys = keysErr leS none keys := by rw [HV.out]; rfl
                      clear HV
                      have HV := Lib.hid hV4; clear hV4
                      have HX := Lib.hid (fun (w1 : World) (B : Nat) (hb : Below B (w.alloc (boxOf k bo i t A1 n1 c1 A2 n2 c2)) w1) (hB : w.heap.size < B) => box6 hb hB)
                      unfold boxOf at HX
                      have hb0 : Below (w.heap.size + 1) (w.alloc (.cells #[.int .i64 k, .bool bo, .int .i64 i, .string t, .slice A1 n1 c1, .slice A2 n2 c2] 25)) (w.alloc (.cells #[.int .i64 k, .bool bo, .int .i64 i, .string t, .slice A1 n1 c1, .slice A2 n2 c2] 25)) := Below.refl _ _
                      have HBW := Lib.hid (fun (wr : World) (h : Below (w.heap.size + 1) (w.alloc (.cells #[.int .i64 k, .bool bo, .int .i64 i, .string t, .slice A1 n1 c1, .slice A2 n2 c2] 25)) wr) => below_box h)
                      generalize hW1 : w.alloc (.cells #[.int .i64 k, .bool bo, .int .i64 i, .string t, .slice A1 n1 c1, .slice A2 n2 c2] 25) = W1 at hb0 HX HBW ⊢
                      have HB0 := Lib.hid hb0; clear hb0
                      have HW1 := Lib.hid hW1; clear hW1
                      obtain ⟨y0, y1, y2, y3, y4, y5⟩ := HX.out _ _ HB0.out (by omega)
                      clear y0 y1 y2 y3
                      go_wp2_with fail
                      go_loopw [102] (fun i' wr => ∃ j : Nat, j ≤ n2 ∧ i' = .int .i64 j ∧ keysErr leS none keys = keysErr leS (prevOf keys j) (keys.drop j) ∧ Below (w.heap.size + 1) W1 wr) (fun i' _ => n2 - (intOf i').toNat)
                      case atStart => exact ⟨0, Nat.zero_le _, rfl, rfl, HB0.out⟩
                      case round =>
                        obtain ⟨j, hj, rfl, hx, hbx⟩ := hrel
                        clear y4 y5
                        obtain ⟨y0, y1, y2, y3, y4, y5⟩ := HX.out _ _ hbx (by omega)
                        clear y0 y1 y2 y3
                        obtain ⟨hbw, hsz⟩ := HBW.out _ hbx
                        have HXX := Lib.hid hx; clear hx
                        by_cases hlt : j < n2
                        · obtain ⟨b, o, rfl, hb, hcl⟩ := HCE.out (by omega)
                          have hkl : j < keys.length := by rw [← HM.out]; exact hlt
                          obtain ⟨s, hs⟩ : ∃ s, keys[j]? = some s := ⟨_, List.getElem?_eq_getElem hkl⟩
                          have x0 := (hbw.cell (p := ⟨b, o + j, none⟩) hb).trans (hcl j s hs)
                          have HKC := Lib.hid (fun (wX : World) (hX : Below w.heap.size w wX) (m : Nat) (q : ByteArray) (hq : keys[m]? = some q) => (hX.cell (p := ⟨b, o + m, none⟩) hb).trans (hcl m q hq))
                          have hss := HZ.out s (List.mem_of_getElem? hs)
                          have hat := keysErr_at leS hs
                          have HK := Lib.hid (fun wx => isKeyR_any s wx hss)
                          have HAT := Lib.hid hat; clear hat hcl hss
                          cases hkb : keyB s with
                          | false =>
                            rw [hkb] at HK
                            have HQ := Lib.hid hkb; clear hkb
                            go_wp2_with fail
                            refine (HK.out _).mono ?_
                            rintro e w2 ⟨rfl, hb2⟩
                            go_wp2_with fail
                            go_ret
                            exact ⟨retI (oneErr_nz (x := 12) (by rw [HV.out, HXX.out, HAT.out, if_pos HQ.out]) (by omega)), hbw.trans (hb2.mono hbw.size)⟩
                          | true =>
                            rw [hkb] at HK
                            have HQ := Lib.hid hkb; clear hkb
                            by_cases h00 : j = 0
                            · subst h00
                              simp only [Nat.add_zero] at x0
                              go_wp2_with fail
                              refine (HK.out _).mono ?_
                              rintro e w2 ⟨rfl, hb2⟩
                              have hbx2 := hbx.trans (hb2.mono hsz)
                              clear y4 y5
                              obtain ⟨y0, y1, y2, y3, y4, y5⟩ := HX.out _ _ hbx2 (by omega)
                              clear y0 y1 y2 y3
                              go_wp2_with fail
                              go_roundw
                              case rel => exact ⟨1, by omega, by go_num, by rw [HXX.out, HAT.out, HQ.out]; rfl, hbx2⟩
                              case measure => simp [intOf]; omega
                            · obtain ⟨q, hq⟩ : ∃ q, keys[j - 1]? = some q := ⟨_, List.getElem?_eq_getElem (by omega)⟩
                              have hpq : prevOf keys j = some q := by unfold prevOf; rw [if_neg h00]; exact hq
                              have HPQ := Lib.hid hpq; clear hpq
                              have i0 : (0 : Int) < (j : Int) := by omega
                              cases hle : (Op.bytesLess s.toList q.toList || s.toList == q.toList) with
                              | true =>
                                go_wp2_with fail
                                refine (HK.out _).mono ?_
                                rintro e w2 ⟨rfl, hb2⟩
                                have hbx2 := hbx.trans (hb2.mono hsz)
                                obtain ⟨hbw2, hsz2⟩ := HBW.out _ hbx2
                                have x1 := HKC.out _ hbw2 (j - 1) q hq
                                clear y4 y5
                                obtain ⟨y0, y1, y2, y3, y4, y5⟩ := HX.out _ _ hbx2 (by omega)
                                clear y0 y1 y2 y3
                                go_wp2_with fail
                                go_ret
                                exact ⟨retI (oneErr_nz (x := 5) (by rw [HV.out, HXX.out, HAT.out, HQ.out, HPQ.out]; simp only [leS, hle]; rfl) (by omega)), hbw2⟩
                              | false =>
                                go_wp2_with fail
                                refine (HK.out _).mono ?_
                                rintro e w2 ⟨rfl, hb2⟩
                                have hbx2 := hbx.trans (hb2.mono hsz)
                                obtain ⟨hbw2, hsz2⟩ := HBW.out _ hbx2
                                have x1 := HKC.out _ hbw2 (j - 1) q hq
                                clear y4 y5
                                obtain ⟨y0, y1, y2, y3, y4, y5⟩ := HX.out _ _ hbx2 (by omega)
                                clear y0 y1 y2 y3
                                go_wp2_with fail
                                go_roundw
                                case rel => exact ⟨j + 1, by omega, by go_num, by rw [HXX.out, HAT.out, HQ.out, HPQ.out]; simp only [leS, hle]; rfl, hbx2⟩
                                case measure => simp [intOf]; omega
                        · obtain rfl : j = n2 := by omega
                          have hV5 : valErr leS k bo i t items.len keys = 0 := by rw [HV.out, HXX.out, List.drop_of_length_le (by rw [HM.out]; exact Nat.le_refl _)]; rfl
                          clear HV HXX
                          have HXV := Lib.hid hV5; clear hV5 y5 hbx hsz
                          go_wp2_with fail
                          go_loopw [126] (fun i' wr => ∃ j : Nat, j ≤ n1 ∧ i' = .int .i64 j ∧ items.err leS = (items.drop j).err leS ∧ Below w.heap.size w wr) (fun i' _ => n1 - (intOf i').toNat)
                          case atStart => exact ⟨0, Nat.zero_le _, rfl, by rw [Vals.drop_zero], hbw⟩
                          case round =>
                            clear hbw y4
                            obtain ⟨j, hj, rfl, hx, hbw⟩ := hrel
                            have HXX := Lib.hid hx; clear hx
                            by_cases hlt : j < n1
                            · obtain ⟨b, off, k1, bo1, i1, t1, B1, m1, d1, B2, m2, d2, it, ks, r, rfl, e1, e2, E⟩ := HA.out.el j hlt
                              have E' := E.below hbw
                              obtain ⟨hlb, x0, x1, x2, x3, x4, x5, hok⟩ := E'
                              clear E
                              have hsb : b < wr.heap.size := Nat.lt_of_lt_of_le hlb hbw.size
                              obtain ⟨y, hy⟩ : ∃ y, oneErr leS k1 bo1 i1 t1 it ks = y := ⟨_, rfl⟩
                              have hcall : ∀ wX, Below w.heap.size wr wX → Calls Tryd.prog 11 #[.agg #[.int .i64 k1, .bool bo1, .int .i64 i1, .string t1, .slice B1 m1 d1, .slice B2 m2 d2]] wX fun e w' => e = .returned (.int .i64 y) ∧ Below wX.heap.size wX w' := fun wX hX => by
                                rw [← hy]
                                exact HC.out j k1 bo1 i1 t1 it ks r hlt e1 B1 m1 d1 B2 m2 d2 wX ((hok.below hX).more (Nat.le_trans hbw.size hX.size))
                              have HCL := Lib.hid hcall; clear hcall
                              have HY := Lib.hid hy; clear hy
                              have HE1 := Lib.hid e1; clear e1
                              have HE2 := Lib.hid e2; clear e2 hok
                              go_wp2_with fail
                              refine (HCL.out _ ((Below.refl _ _).alloc hbw.size _)).mono ?_
                              rintro e w2 ⟨rfl, hb2⟩
                              have hb3 := hbw.trans ((((Below.refl _ wr).alloc (Nat.le_refl _) _).trans (hb2.mono (by simp))).mono hbw.size)
                              clear hb2
                              by_cases hy0 : y = 0
                              · subst hy0
                                go_wp2_with fail
                                go_roundw
                                case rel => exact ⟨j + 1, by omega, by go_num, by rw [HXX.out, HE1.out, err_cons_z HY.out, HE2.out], hb3⟩
                                case measure => simp [intOf]; omega
                              · go_wp2_with fail
                                go_ret
                                exact ⟨retI (by rw [oneErr_z HXV.out, HXX.out, HE1.out, err_cons_nz HY.out hy0]), hb3⟩
                            · obtain rfl : j = n1 := by omega
                              have hd : (items.drop j).err leS = 0 := by rw [HNL.out, Vals.drop_len]; rfl
                              have HD := Lib.hid hd; clear hd
                              go_wp2_with fail
                              go_ret
                              exact ⟨retI (by rw [oneErr_z HXV.out, HXX.out, HD.out]), hbw⟩
theorem eachValueR_any (N : Nat) : ∀ (k : Int) (bo : Bool) (i : Int) (t : ByteArray) (A1 : Option Addr) (n1 c1 : Nat) (A2 : Option Addr) (n2 c2 : Nat) (items : Vals) (keys : List ByteArray) (w : World),
    VOk w w.heap.size k i t A1 n1 c1 A2 n2 c2 items keys → items.nodes ≤ N → items.nodes ≤ 1099511627776 → items.letters ≤ 1099511627776 → n2 ≤ 1099511627776 →
    Calls Tryd.prog 11 #[.agg #[.int .i64 k, .bool bo, .int .i64 i, .string t, .slice A1 n1 c1, .slice A2 n2 c2]] w
      fun e w' => e = .returned (.int .i64 (oneErr leS k bo i t items keys)) ∧ Below w.heap.size w w' := by
  induction N with
  | zero =>
    intro k bo i t A1 n1 c1 A2 n2 c2 items keys w hv hN hbig hl hn2
    have h1 := Vals.len_le items
    have h2 := hv.at_.len_eq
    exact eachValueR_gen k bo i t A1 n1 c1 A2 n2 c2 items keys w hv hbig hn2 fun _ _ _ _ _ _ _ _ h => absurd h (by omega)
  | succ N ih =>
    intro k bo i t A1 n1 c1 A2 n2 c2 items keys w hv hN hbig hl hn2
    refine eachValueR_gen k bo i t A1 n1 c1 A2 n2 c2 items keys w hv hbig hn2 fun j k' bo' i' t' it ks r hj he A1' n1' c1' A2' n2' c2' wX hv' => ?_
    obtain ⟨g1, g2, g3⟩ := Vals.letters_at he
    have h2 := hv'.ks.1
    exact ih k' bo' i' t' A1' n1' c1' A2' n2' c2' it ks wX hv' (by omega) (by omega) (by omega) (by omega)
end Go.Proofs.YteckcanghnligaaDoor
