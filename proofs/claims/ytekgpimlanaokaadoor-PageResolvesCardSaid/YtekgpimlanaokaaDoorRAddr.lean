/- DERIVED. What the reference's IsAddress returns (package mastref1). Condition: the library's variable MaxLen holds a number. -/
import Derived.Test.YtekgpimlanaokaaDoorRPart
namespace Go.Proofs.YtekgpimlanaokaaDoor
set_option linter.unusedVariables false
open Go.RowKit
theorem bP_ne' {p q : List UInt8} (h : ¬ p = q) : ((bP p).toList == q) = false := by simpa using h
theorem tparts_empty : (tparts ⟨#[]⟩).all tpartB = false := by
  rw [show (⟨#[]⟩ : ByteArray) = bP [] from rfl, tparts_eq]
  simp [pieces, tpartB, bP_size]
theorem padB_ends (s : ByteArray) (h2 : 2 ≤ s.size) (h200 : s.size ≤ 200) (h1 : (s.toList == [47]) = false) (hc : s[0] = 47) (hd : s[s.size - 1] = 47) : padB s = (tparts (s.extract 1 (s.size - 1))).all tpartB := by
  unfold padB taddrB
  rw [h1, decide_eq_true h200]
  by_cases h : 2 < s.size
  · rw [decide_eq_true h, endsB_eq s h, hc, hd]
    unfold tpathB
    have hz : (s.extract 1 (s.size - 1)).size ≤ 200 := by simp; omega
    rw [decide_eq_true hz]
    simp
  · rw [decide_eq_false h]
    have hz : (s.extract 1 (s.size - 1)).size = 0 := by simp; omega
    have he : s.extract 1 (s.size - 1) = ⟨#[]⟩ := by
      apply ByteArray.ext
      exact Array.eq_empty_of_size_eq_zero hz
    rw [he, tparts_empty]
    rfl
theorem padB_off (s : ByteArray) (h1 : (s.toList == [47]) = false) (h : ∀ (h2 : 2 < s.size), ¬ (s[0] = 47 ∧ s[s.size - 1] = 47)) : padB s = false := by
  unfold padB taddrB
  rw [h1]
  by_cases h2 : 2 < s.size
  · rw [decide_eq_true h2, endsB_eq s h2]
    by_cases hc : s[0] = 47
    · rw [decide_eq_false (fun hd => h h2 ⟨hc, hd⟩)]; simp
    · rw [decide_eq_false hc]; simp
  · rw [decide_eq_false h2]; simp
theorem one_root (s : ByteArray) (h : s.size = 1) (hc : s[0]'(by omega) = 47) : (s.toList == [47]) = true := by
  have e : s.data.toList = [47] := by
    obtain ⟨⟨l⟩⟩ := s
    match l, h, hc with
    | [x], _, hc => exact congrArg (fun y => [y]) (show x = 47 from hc)
  rw [← bP_of s, e]
  simp
set_option maxRecDepth 100000 in
set_option maxHeartbeats 1000000 in
theorem rAddr1_any (s : ByteArray) (w : World) (hm : MaxT w) (hs : s.size ≤ 9223372036854775807) :
    Calls Tryd.prog 13 #[.string s] w fun e w' => e = .returned (.bool (padB s)) ∧ Below w.heap.size w w' := by
  cases h1 : (s.toList == [47]) with
  | true =>
    obtain rfl : s = ⟨#[47]⟩ := by
      have : s.data.toList = [47] := by
        by_cases h : s.data.toList = [47]
        · exact h
        · have := bP_ne' h
          rw [bP_of s, h1] at this
          cases this
      rw [← bP_of s, this]
    have HR := Lib.hid (show padB ⟨#[47]⟩ = true by unfold padB taddrB; rw [h1]; rfl)
    clear hm h1
    go_enter Tryd.func13, Tryd.ntmps13
    go_wp2_with fail
    go_ret
    exact ⟨retB HR.out, Below.refl _ _⟩
  | false =>
    by_cases h0 : (s.size : Int) < 1
    · have HR := Lib.hid (padB_off s h1 (fun h => by omega))
      clear hm
      go_enter Tryd.func13, Tryd.ntmps13
      go_wp2_with fail
      go_ret
      exact ⟨retB HR.out, Below.refl _ _⟩
    by_cases h4 : (200 : Int) < (s.size : Int)
    · have HR := Lib.hid (show padB s = false by unfold padB; rw [decide_eq_false (show ¬ s.size ≤ 200 by omega)]; rfl)
      clear hm
      go_enter Tryd.func13, Tryd.ntmps13
      go_wp2_with fail
      go_ret
      exact ⟨retB HR.out, Below.refl _ _⟩
    have hp : 0 < s.size := by omega
    have h200 : s.size ≤ 200 := by omega
    have hoff := padB_off s h1
    have hends := fun h2 => padB_ends s h2 h200 h1
    have hone := one_root s
    obtain ⟨c, hc⟩ : ∃ c, s[0] = c := ⟨_, rfl⟩
    obtain ⟨d, hd⟩ : ∃ d, s[s.size - 1] = d := ⟨_, rfl⟩
    have i1 : ((s.size : Int) - 1).toNat = s.size - 1 := by omega
    by_cases hc47 : (c.toNat : Int) = 47
    · have g1 : ((c.toNat : Int) != 47) = false := by simpa [bne] using hc47
      have hc' : c = 47 := u8_eq (c := c) (n := 47) (by omega) (by omega)
      have h2 : 2 ≤ s.size := by
        by_cases h : s.size = 1
        · exact absurd (hone h (hc.trans hc')) (by rw [h1]; decide)
        · omega
      by_cases hd47 : (d.toNat : Int) = 47
      · have g2 : ((d.toNat : Int) != 47) = false := by simpa [bne] using hd47
        have hd' : d = 47 := u8_eq (c := d) (n := 47) (by omega) (by omega)
        have HR := Lib.hid (hends h2 (hc.trans hc') (hd.trans hd'))
        have hS := tsplit_any (s.extract 1 (s.size - 1)) w hm (by simp; omega)
        have hps := fun x (hx : x ∈ tparts (s.extract 1 (s.size - 1))) => tparts_size _ x hx
        have HP := Lib.hid (fun x hx => Nat.le_trans (hps x hx) (show (s.extract 1 (s.size - 1)).size ≤ 200 by simp; omega))
        obtain ⟨L, hL⟩ : ∃ L, tparts (s.extract 1 (s.size - 1)) = L := ⟨_, rfl⟩
        rw [hL] at HR hS HP
        unfold slashS at hS
        have HS := Lib.hid hS
        clear hm hoff hends hone hps hS hL hc47 hd47 hc' hd'
        go_enter Tryd.func13, Tryd.ntmps13
        go_wp2_with fail
        refine HS.out.mono ?_
        rintro e w1 ⟨n, rfl, hn, hrow, hb1⟩
        have HRW := Lib.hid hrow; clear hrow
        go_wp2_with fail
        go_loop [35] (fun i => ∃ k : Nat, k ≤ n ∧ i = .int .i64 k ∧ (L.take k).all tpartB = true) (fun i => n - (intOf i).toNat)
        case atStart => exact ⟨0, Nat.zero_le _, rfl, rfl⟩
        case round =>
          obtain ⟨k, hk, rfl, hall⟩ := hrel
          have HALL := Lib.hid hall; clear hall
          by_cases hlt : k < n
          · obtain ⟨x, hx⟩ : ∃ x, L[k]? = some x := ⟨_, List.getElem?_eq_getElem (by rw [← HRW.out.1]; exact hlt)⟩
            have x0 := HRW.out.2 k x hx
            have hsx := HP.out x (List.mem_of_getElem? hx)
            have hcall := fun wx => pathPart_any x wx (by omega)
            have HX := Lib.hid hx
            clear hx hsx
            cases hok : tpartB x with
            | true =>
              rw [hok] at hcall
              have HC := Lib.hid hcall
              have HO := Lib.hid hok
              clear hcall hok
              go_wp2_with fail
              refine (HC.out _).mono ?_
              rintro e w' ⟨rfl, rfl⟩
              go_wp2_with fail
              go_round
              case rel => exact ⟨k + 1, by omega, by go_num, all_take' HX.out HALL.out HO.out⟩
              case measure => simp [intOf]; omega
            | false =>
              rw [hok] at hcall
              have HC := Lib.hid hcall
              have HO := Lib.hid hok
              clear hcall hok
              go_wp2_with fail
              refine (HC.out _).mono ?_
              rintro e w' ⟨rfl, rfl⟩
              go_wp2_with fail
              go_ret
              exact ⟨retB (by rw [HR.out, all_not' HX.out HO.out]), hb1⟩
          · obtain rfl : k = n := by omega
            go_wp2_with fail
            go_ret
            have ha := HALL.out
            rw [List.take_of_length_le (by rw [← HRW.out.1]; exact Nat.le_refl _)] at ha
            exact ⟨retB (by rw [HR.out, ha]), hb1⟩
      · have g2 : ((d.toNat : Int) != 47) = true := by simpa [bne] using hd47
        have HR := Lib.hid (hoff (fun _ h => hd47 (by rw [← hd, h.2]; rfl)))
        clear hm hoff hends hone
        go_enter Tryd.func13, Tryd.ntmps13
        go_wp2_with fail
        go_ret
        exact ⟨retB HR.out, Below.refl _ _⟩
    · have g1 : ((c.toNat : Int) != 47) = true := by simpa [bne] using hc47
      have HR := Lib.hid (hoff (fun _ h => hc47 (by rw [← hc, h.1]; rfl)))
      clear hm hoff hends hone
      go_enter Tryd.func13, Tryd.ntmps13
      go_wp2_with fail
      go_ret
      exact ⟨retB HR.out, Below.refl _ _⟩
end Go.Proofs.YtekgpimlanaokaaDoor
