/- DERIVED. What list's listsFit and checkKeys return. Condition: at most 2^40 keys. -/
import Derived.Test.YteckcanghnligaaDoorItemKey
namespace Go.Proofs.YteckcanghnligaaDoor
set_option linter.unusedVariables false
open Go.RowKit
set_option maxRecDepth 100000 in
set_option maxHeartbeats 400000 in
theorem lFit_any (k : Int) (bo : Bool) (i : Int) (t : ByteArray) (A1 : Option Addr) (n1 c1 : Nat) (A2 : Option Addr) (n2 c2 : Nat) (w : World) :
    Calls Tryd.prog 16 #[.agg #[.int .i64 k, .bool bo, .int .i64 i, .string t, .slice A1 n1 c1, .slice A2 n2 c2]] w
      fun e w' => e = .returned (.bool (fitB k n1 n2)) ∧ Below w.heap.size w w' := by
  have HB := Lib.hid (fun o => (Below.refl w.heap.size w).alloc (Nat.le_refl _) o)
  have z2 : ((n2 : Int) == 0) = decide (n2 = 0) := by by_cases h : n2 = 0 <;> simp [h]
  have z1 : ((n1 : Int) == 0) = decide (n1 = 0) := by by_cases h : n1 = 0 <;> simp [h]
  have z12 : ((n2 : Int) == (n1 : Int)) = decide (n2 = n1) := by
    by_cases h : n2 = n1
    · subst h; simp
    · rw [decide_eq_false h]; simp; omega
  have Z2 := Lib.hid z2
  have Z12 := Lib.hid z12
  have Z1 := Lib.hid z1
  clear z2 z12 z1
  by_cases h5 : k = 5
  · subst h5
    go_enter Tryd.func16, Tryd.ntmps16
    go_wp2_with fail
    go_ret
    exact ⟨retB (by unfold fitB; rw [if_pos rfl]; exact Z2.out.symm), HB.out _⟩
  · have e5 : (k == 5) = false := by simpa using h5
    by_cases h6 : k = 6
    · subst h6
      go_enter Tryd.func16, Tryd.ntmps16
      go_wp2_with fail
      go_ret
      exact ⟨retB (by unfold fitB; first | exact Z12.out.symm | (simp; omega) | simp), HB.out _⟩
    · have e6 : (k == 6) = false := by simpa using h6
      have HF := Lib.hid (show fitB k n1 n2 = (decide (n2 = 0) && decide (n1 = 0)) by unfold fitB; rw [if_neg h5, if_neg h6])
      clear h5 h6
      by_cases h0 : n2 = 0
      · have g0 : ((n2 : Int) == 0) = true := by simp [h0]
        have H0 := Lib.hid h0
        clear h0
        go_enter Tryd.func16, Tryd.ntmps16
        go_wp2_with fail
        go_ret
        exact ⟨retB (by rw [HF.out, decide_eq_true H0.out, ← Z1.out]; simp), HB.out _⟩
      · have g0 : ((n2 : Int) == 0) = false := by simp [h0]
        have H0 := Lib.hid h0
        clear h0
        go_enter Tryd.func16, Tryd.ntmps16
        go_wp2_with fail
        go_ret
        exact ⟨retB (by rw [HF.out, decide_eq_false H0.out]; rfl), HB.out _⟩
set_option maxRecDepth 100000 in
set_option maxHeartbeats 1000000 in
theorem lKeys_any (l : List ByteArray) (A : Option Addr) (n c : Nat) (w : World) (hn : n ≤ 1099511627776) (hl : KeysAt w w.heap.size l A n) :
    Calls Tryd.prog 18 #[.slice A n c] w fun e w' => e = .returned (.int .i64 (keysErr leS none l)) ∧ Below w.heap.size w w' := by
  obtain ⟨hlen, hsz, hcell⟩ := hl
  have HL := Lib.hid hlen; clear hlen
  have HZ := Lib.hid hsz; clear hsz
  have HC := Lib.hid hcell; clear hcell
  go_enter Tryd.func18, Tryd.ntmps18
  go_wp2_with fail
  go_loopw [7] (fun i wr => ∃ k : Nat, k ≤ n ∧ i = .int .i64 k ∧ keysErr leS none l = keysErr leS (prevOf l k) (l.drop k) ∧ Below w.heap.size w wr) (fun i _ => n - (intOf i).toNat)
  case atStart => exact ⟨0, Nat.zero_le _, rfl, rfl, Below.refl _ _⟩
  case round =>
    obtain ⟨k, hk, rfl, hx, hbw⟩ := hrel
    have HX := Lib.hid hx; clear hx
    by_cases hlt : k < n
    · obtain ⟨b, o, rfl, hb, hcl⟩ := HC.out (by omega)
      have hkl : k < l.length := by rw [← HL.out]; exact hlt
      obtain ⟨s, hs⟩ : ∃ s, l[k]? = some s := ⟨_, List.getElem?_eq_getElem hkl⟩
      have x0 := (hbw.cell (p := ⟨b, o + k, none⟩) hb).trans (hcl k s hs)
      have hss := HZ.out s (List.mem_of_getElem? hs)
      have hat := keysErr_at leS hs
      have HK := Lib.hid (fun wx => lKey_any s wx hss)
      have HAT := Lib.hid hat; clear hat
      cases hkb : keyB s with
      | false =>
        rw [hkb] at HK
        have HB := Lib.hid hkb; clear hkb
        go_wp2_with fail
        refine (HK.out _).mono ?_
        rintro e w2 ⟨rfl, hb2⟩
        have hbw2 := hbw.trans (hb2.mono hbw.size)
        go_wp2_with fail
        go_ret
        exact ⟨retI (by rw [HX.out, HAT.out, if_pos HB.out]), hbw2⟩
      | true =>
        rw [hkb] at HK
        have HB := Lib.hid hkb; clear hkb
        by_cases h0 : k = 0
        · subst h0
          simp only [Nat.add_zero] at x0
          go_wp2_with fail
          refine (HK.out _).mono ?_
          rintro e w2 ⟨rfl, hb2⟩
          have hbw2 := hbw.trans (hb2.mono hbw.size)
          go_wp2_with fail
          go_roundw
          case rel => exact ⟨1, by omega, by go_num, by rw [HX.out, HAT.out, HB.out]; rfl, hbw2⟩
          case measure => simp [intOf]; omega
        · obtain ⟨q, hq⟩ : ∃ q, l[k - 1]? = some q := ⟨_, List.getElem?_eq_getElem (by omega)⟩
          have x1 := (hbw.cell (p := ⟨b, o + (k - 1), none⟩) hb).trans (hcl (k - 1) q hq)
          have hpq : prevOf l k = some q := by unfold prevOf; rw [if_neg h0]; exact hq
          have HPQ := Lib.hid hpq; clear hpq
          cases hle : (Op.bytesLess s.toList q.toList || s.toList == q.toList) with
          | true =>
            go_wp2_with fail
            refine (HK.out _).mono ?_
            rintro e w2 ⟨rfl, hb2⟩
            have hbw2 := hbw.trans (hb2.mono hbw.size)
            have x1' := (hb2.cell (p := ⟨b, o + (k - 1), none⟩) (Nat.lt_of_lt_of_le hb hbw.size)).trans x1
            go_wp2_with fail
            go_ret
            exact ⟨retI (by rw [HX.out, HAT.out, HB.out, HPQ.out]; simp only [leS, hle]; rfl), hbw2⟩
          | false =>
            go_wp2_with fail
            refine (HK.out _).mono ?_
            rintro e w2 ⟨rfl, hb2⟩
            have hbw2 := hbw.trans (hb2.mono hbw.size)
            have x1' := (hb2.cell (p := ⟨b, o + (k - 1), none⟩) (Nat.lt_of_lt_of_le hb hbw.size)).trans x1
            go_wp2_with fail
            go_roundw
            case rel => exact ⟨k + 1, by omega, by go_num, by rw [HX.out, HAT.out, HB.out, HPQ.out]; simp only [leS, hle]; rfl, hbw2⟩
            case measure => simp [intOf]; omega
    · obtain rfl : k = n := by omega
      go_wp2_with fail
      go_ret
      exact ⟨retI (by rw [HX.out, List.drop_of_length_le (by rw [HL.out]; exact Nat.le_refl _)]; rfl), hbw⟩
end Go.Proofs.YteckcanghnligaaDoor
