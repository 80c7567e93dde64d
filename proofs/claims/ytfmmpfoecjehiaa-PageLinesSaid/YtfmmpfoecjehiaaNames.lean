/- DERIVED. What the reference's codeName, argName, bare return. Condition: strings shorter than 2^63 bytes. -/
import Derived.Test.YtfmmpfoecjehiaaLead
namespace Go.Proofs.Ytfmmpfoecjehiaa
set_option linter.unusedVariables false
open Go.RowKit
theorem nm_split {c : UInt8} {a b d : Bool} (h1 : smC c = a) (h2 : dgC c = b) (h3 : decide (c.toNat = 45) = d) : nmC c = (a || b || d) := by unfold nmC; rw [h1, h2, h3]
theorem code_small {s : ByteArray} (h : s.size < 1) : codeNm (bl s) = false := by
  unfold codeNm; rw [bl_len, decide_eq_false (by omega)]; rfl
theorem code_large {s : ByteArray} (h : 20 < s.size) : codeNm (bl s) = false := by
  unfold codeNm; rw [bl_len, decide_eq_false (show ¬ s.size ≤ 20 by omega)]; simp
theorem code_all {s : ByteArray} (h : 1 ≤ s.size) (h' : s.size ≤ 20) : codeNm (bl s) = (bl s).all nmC := by
  unfold codeNm; rw [bl_len, decide_eq_true (show 0 < s.size by omega), decide_eq_true h']; rfl
theorem argNm_small {s : ByteArray} (h : s.size < 1) : argNm (bl s) = false := by
  unfold argNm; rw [bl_len, decide_eq_false (by omega)]; rfl
theorem argNm_large {s : ByteArray} (h : 20 < s.size) : argNm (bl s) = false := by
  unfold argNm; rw [bl_len, decide_eq_false (show ¬ s.size ≤ 20 by omega)]; simp
theorem argNm_head {s : ByteArray} (h : 1 ≤ s.size) (h' : s.size ≤ 20) : argNm (bl s) = (smC s[0] && (bl s).all wdC) := by
  unfold argNm
  rw [bl_len, decide_eq_true (show 0 < s.size by omega), decide_eq_true h', bl_at (show 0 < s.size by omega)]
  rfl
theorem lsize {s : ByteArray} {n : Nat} (h : s.size ≤ n) (hn : n ≤ 9223372036854775807) : (s.size : Int) ≤ 9223372036854775807 := by omega
set_option maxRecDepth 100000 in
set_option maxHeartbeats 1600000 in
theorem codeName_any (s : ByteArray) (w : World) (hs : s.size ≤ 9223372036854775807) :
    Calls Try.prog 18 #[.string s] w fun e w' => e = .returned (.bool (codeNm (bl s))) ∧ w = w' := by
  by_cases h1 : (s.size : Int) < 1
  · have HR := Lib.hid (code_small (s := s) (by omega))
    go_enter Try.func18, Try.ntmps18
    go_wp2_with fail
    go_ret
    exact ⟨retB HR.out, rfl⟩
  · by_cases h2 : (20 : Int) < (s.size : Int)
    · have HR := Lib.hid (code_large (s := s) (by omega))
      go_enter Try.func18, Try.ntmps18
      go_wp2_with fail
      all_goals first | (exfalso; omega) | (go_ret; exact ⟨retB HR.out, rfl⟩)
    · have HR := Lib.hid (code_all (s := s) (by omega) (by omega))
      have g1 : decide ((s.size : Int) < 1) = false := decide_eq_false h1
      have g2 : decide ((20 : Int) < (s.size : Int)) = false := decide_eq_false h2
      go_enter Try.func18, Try.ntmps18
      go_wp2_with fail
      go_loop [3] (fun i => ∃ k : Nat, k ≤ s.size ∧ i = .int .i64 k ∧ (bl s).all nmC = ((bl s).drop k).all nmC) (fun i => s.size - (intOf i).toNat)
      case atStart => exact ⟨0, Nat.zero_le _, rfl, by simp⟩
      case round =>
        obtain ⟨k, hk, rfl, h0⟩ := hrel
        have H0 := Lib.hid h0; clear h0
        by_cases hlt : k < s.size
        · obtain ⟨c, hck⟩ : ∃ c, s[k] = c := ⟨_, rfl⟩
          have HC := Lib.hid (fun wx => digitR_any c wx)
          have hyes := fun h => all_step hlt hck (p := nmC) h H0.out
          have hno := fun h => all_halt hlt hck (p := nmC) h H0.out
          have HY := Lib.hid hyes
          have HN := Lib.hid hno
          clear hyes hno
          cases ha : smC c <;> cases hb : dgC c <;> by_cases h45 : (c.toNat : Int) = 45
          all_goals
            have HT := Lib.hid (nm_split ha hb (show decide (c.toNat = 45) = _ from rfl))
            have H45 := Lib.hid h45
            have e45 : ((c.toNat : Int) == 45) = decide ((c.toNat : Int) = 45) := by
              by_cases h : (c.toNat : Int) = 45
              · rw [h]; rfl
              · rw [decide_eq_false h]; simpa using h
            first | rw [decide_eq_true h45] at e45 | rw [decide_eq_false h45] at e45
            rw [hb] at HC
            have hr : smC c = (decide (97 ≤ c.toNat) && decide (c.toNat ≤ 122)) := rfl
            rw [ha] at hr
            clear ha hb h45
            by_cases ha1 : (97 : Int) ≤ (c.toNat : Int) <;> by_cases ha2 : (c.toNat : Int) ≤ 122
            all_goals
              have HA := Lib.hid hr
              have d1 : decide (97 ≤ c.toNat) = decide ((97 : Int) ≤ (c.toNat : Int)) := by rw [decide_eq_decide]; omega
              have d2 : decide (c.toNat ≤ 122) = decide ((c.toNat : Int) ≤ 122) := by rw [decide_eq_decide]; omega
              rw [d1, d2] at hr
              first | rw [decide_eq_true ha1] at hr | rw [decide_eq_false ha1] at hr
              first | rw [decide_eq_true ha2] at hr | rw [decide_eq_false ha2] at hr
              first
                | (exact absurd hr (by decide))
                | (clear hr d1 d2
                   go_wp2_with (go_at_call 36; refine (HC.out _).mono ?_; rintro e w9 ⟨rfl, rfl⟩)
                   all_goals first
                     | (exfalso; omega)
                     | (go_ret
                        exact ⟨retB (by rw [HR.out, HN.out (by rw [HT.out, decide_eq_false (fun h => H45.out (by omega))]; rfl)]), rfl⟩)
                     | (go_round
                        case rel => exact ⟨k + 1, by omega, by go_num, HY.out (by rw [HT.out]; first | rfl | (rw [decide_eq_true (show c.toNat = 45 by have := H45.out; omega)]; rfl))⟩
                        case measure => simp [intOf]; omega))
        · have HS := Lib.hid (all_end (p := nmC) (by omega) H0.out)
          go_wp2_with fail
          go_ret
          exact ⟨retB (by rw [HR.out, HS.out]), rfl⟩
set_option maxRecDepth 100000 in
set_option maxHeartbeats 1600000 in
theorem argName_any (s : ByteArray) (w : World) (hs : s.size ≤ 9223372036854775807) :
    Calls Try.prog 20 #[.string s] w fun e w' => e = .returned (.bool (argNm (bl s))) ∧ w = w' := by
  by_cases h1 : (s.size : Int) < 1
  · have HR := Lib.hid (argNm_small (s := s) (by omega))
    go_enter Try.func20, Try.ntmps20
    go_wp2_with fail
    go_ret
    exact ⟨retB HR.out, rfl⟩
  · by_cases h2 : (20 : Int) < (s.size : Int)
    · have HR := Lib.hid (argNm_large (s := s) (by omega))
      go_enter Try.func20, Try.ntmps20
      go_wp2_with fail
      all_goals first | (exfalso; omega) | (go_ret; exact ⟨retB HR.out, rfl⟩)
    · have h0 : 0 < s.size := by omega
      have hh := argNm_head (s := s) (by omega) (by omega)
      have g1 : decide ((s.size : Int) < 1) = false := decide_eq_false h1
      have g2 : decide ((20 : Int) < (s.size : Int)) = false := decide_eq_false h2
      obtain ⟨c0, hc0⟩ : ∃ c, s[0] = c := ⟨_, rfl⟩
      rw [hc0] at hh
      have hsm : smC c0 = (decide (97 ≤ c0.toNat) && decide (c0.toNat ≤ 122)) := rfl
      by_cases ha1 : (c0.toNat : Int) < 97
      · have HR := Lib.hid (show argNm (bl s) = false by rw [hh, hsm, decide_eq_false (show ¬ 97 ≤ c0.toNat by omega)]; rfl)
        clear hh hsm
        go_enter Try.func20, Try.ntmps20
        go_wp2_with fail
        all_goals first | (exfalso; omega) | (go_ret; exact ⟨retB HR.out, rfl⟩)
      · by_cases ha2 : (122 : Int) < (c0.toNat : Int)
        · have HR := Lib.hid (show argNm (bl s) = false by rw [hh, hsm, decide_eq_false (show ¬ c0.toNat ≤ 122 by omega)]; simp)
          clear hh hsm
          go_enter Try.func20, Try.ntmps20
          go_wp2_with fail
          all_goals first | (exfalso; omega) | (go_ret; exact ⟨retB HR.out, rfl⟩)
        · have HR := Lib.hid (show argNm (bl s) = (bl s).all wdC by rw [hh, hsm, decide_eq_true (show 97 ≤ c0.toNat by omega), decide_eq_true (show c0.toNat ≤ 122 by omega)]; rfl)
          have g3 : decide ((c0.toNat : Int) < 97) = false := decide_eq_false ha1
          have g4 : decide ((122 : Int) < (c0.toNat : Int)) = false := decide_eq_false ha2
          clear hh hsm
          go_enter Try.func20, Try.ntmps20
          go_wp2_with fail
          go_loop [3] (fun i => ∃ k : Nat, k ≤ s.size ∧ i = .int .i64 k ∧ (bl s).all wdC = ((bl s).drop k).all wdC) (fun i => s.size - (intOf i).toNat)
          case atStart => exact ⟨0, Nat.zero_le _, rfl, by simp⟩
          case round =>
            obtain ⟨k, hk, rfl, h0'⟩ := hrel
            have H0 := Lib.hid h0'; clear h0'
            by_cases hlt : k < s.size
            · obtain ⟨c, hck⟩ : ∃ c, s[k] = c := ⟨_, rfl⟩
              have HC := Lib.hid (fun wx => wordR_any c wx)
              cases hp : wdC c with
              | true =>
                rw [hp] at HC
                have HS := Lib.hid (all_step hlt hck hp H0.out)
                clear hp
                go_wp2_with (go_at_call 38; refine (HC.out _).mono ?_; rintro e w9 ⟨rfl, rfl⟩)
                go_round
                case rel => exact ⟨k + 1, by omega, by go_num, HS.out⟩
                case measure => simp [intOf]; omega
              | false =>
                rw [hp] at HC
                have HS := Lib.hid (all_halt hlt hck hp H0.out)
                clear hp
                go_wp2_with (go_at_call 38; refine (HC.out _).mono ?_; rintro e w9 ⟨rfl, rfl⟩)
                go_ret
                exact ⟨retB (by rw [HR.out, HS.out]), rfl⟩
            · have HS := Lib.hid (all_end (p := wdC) (by omega) H0.out)
              go_wp2_with fail
              go_ret
              exact ⟨retB (by rw [HR.out, HS.out]), rfl⟩
theorem bare_empty {s : ByteArray} (h : s.size = 0) : bareB (bl s) = false := by
  have : bl s = [] := List.eq_nil_of_length_eq_zero (by rw [bl_len]; exact h)
  rw [this]
  rfl
theorem bare_colon {s : ByteArray} (h : 0 < s.size) (hc : (s[0].toNat : Int) = 58) : bareB (bl s) = false := by
  unfold bareB
  rw [bl_at h]
  simp
  intro _ _
  omega
theorem bare_all {s : ByteArray} (h : 0 < s.size) (hc : ¬ (s[0].toNat : Int) = 58) : bareB (bl s) = (bl s).all plC := by
  unfold bareB
  rw [bl_at h]
  have : bl s ≠ [] := fun e => by have := bl_len s; rw [e] at this; simp at this; omega
  rw [decide_eq_true this]
  simp
  intro _
  omega
theorem toListE {s : ByteArray} (h : s.size = 0) : s.toList = [] := by
  obtain ⟨⟨l⟩⟩ := s
  have : l = [] := List.eq_nil_of_length_eq_zero h
  subst this
  simp
theorem toListN {s : ByteArray} (h : 0 < s.size) : s.toList.isEmpty = false := by
  obtain ⟨⟨l⟩⟩ := s
  cases l with
  | nil => exact absurd h (Nat.lt_irrefl 0)
  | cons a r => simp
set_option maxRecDepth 100000 in
set_option maxHeartbeats 1600000 in
theorem bare_any (s : ByteArray) (w : World) (hs : s.size ≤ 9223372036854775807) :
    Calls Try.prog 39 #[.string s] w fun e w' => e = .returned (.bool (bareB (bl s))) ∧ w = w' := by
  by_cases h0 : s.size = 0
  · have HR := Lib.hid (bare_empty h0)
    have hl := toListE h0
    go_enter Try.func39, Try.ntmps39
    go_wp2_with fail
    refine wp_loop_rounds 1 ?_
    rw [rounds_succ]
    go_wp2_with fail
    go_ret
    exact ⟨retB HR.out, rfl⟩
  · have hp : 0 < s.size := by omega
    have hn := toListN hp
    obtain ⟨c0, hc0⟩ : ∃ c, s[0] = c := ⟨_, rfl⟩
    have HC0 := Lib.hid hc0
    clear hc0
    have hres : ∃ b, bareB (bl s) = (b && (bl s).all plC) ∧ b = !decide ((c0.toNat : Int) = 58) := by
      by_cases hc : (c0.toNat : Int) = 58
      · exact ⟨false, by rw [bare_colon hp (by rw [HC0.out]; exact hc)]; rfl, by rw [decide_eq_true hc]; rfl⟩
      · exact ⟨true, by rw [bare_all hp (by rw [HC0.out]; exact hc)]; rfl, by rw [decide_eq_false hc]; rfl⟩
    obtain ⟨b, hb1, hb2⟩ := hres
    have HR := Lib.hid hb1
    have HB := Lib.hid hb2
    clear hb1 hb2
    go_enter Try.func39, Try.ntmps39
    go_wp2_with fail
    go_loop [3] (fun i => ∃ k : Nat, k ≤ s.size ∧ i = .int .i64 k ∧ (bl s).all plC = ((bl s).drop k).all plC ∧ (0 < k → b = true)) (fun i => s.size - (intOf i).toNat)
    case atStart => exact ⟨0, Nat.zero_le _, rfl, by simp, fun h => absurd h (Nat.lt_irrefl 0)⟩
    case round =>
      obtain ⟨k, hk, rfl, h0', hkb⟩ := hrel
      have H0 := Lib.hid h0'; clear h0'
      have HKB := Lib.hid hkb; clear hkb
      by_cases hlt : k < s.size
      · obtain ⟨c, hck⟩ : ∃ c, s[k] = c := ⟨_, rfl⟩
        have HC := Lib.hid (fun wx => bareR_any c wx)
        cases hpl : plC c with
        | false =>
          rw [hpl] at HC
          have HS := Lib.hid (all_halt hlt hck hpl H0.out)
          clear hpl
          go_wp2_with (go_at_call 51; refine (HC.out _).mono ?_; rintro e w9 ⟨rfl, rfl⟩)
          all_goals first | (exfalso; omega) | (go_ret; exact ⟨retB (by rw [HR.out, HS.out]; simp), rfl⟩)
        | true =>
          rw [hpl] at HC
          have HS := Lib.hid (all_step hlt hck hpl H0.out)
          clear hpl
          by_cases hk0 : k = 0
          · subst hk0
            have hcc : c0 = c := by rw [← hck]; exact HC0.out.symm
            subst hcc
            by_cases h58 : (c0.toNat : Int) = 58
            · have e58 : ((c0.toNat : Int) == 58) = true := by simpa using h58
              have HZ := Lib.hid (show b = false by rw [HB.out, decide_eq_true h58]; rfl)
              clear h58
              go_wp2_with (go_at_call 51; refine (HC.out _).mono ?_; rintro e w9 ⟨rfl, rfl⟩)
              go_ret
              exact ⟨retB (by rw [HR.out, HZ.out]; rfl), rfl⟩
            · have e58 : ((c0.toNat : Int) == 58) = false := by simpa using h58
              have HZ := Lib.hid (show b = true by rw [HB.out, decide_eq_false h58]; rfl)
              clear h58
              go_wp2_with (go_at_call 51; refine (HC.out _).mono ?_; rintro e w9 ⟨rfl, rfl⟩)
              go_round
              case rel => exact ⟨1, by omega, rfl, HS.out, fun _ => HZ.out⟩
              case measure => simp [intOf]; omega
          · have ek : ((k : Int) == 0) = false := by simpa using hk0
            go_wp2_with (go_at_call 51; refine (HC.out _).mono ?_; rintro e w9 ⟨rfl, rfl⟩)
            go_round
            case rel => exact ⟨k + 1, by omega, by go_num, HS.out, fun _ => HKB.out (by omega)⟩
            case measure => simp [intOf]; omega
      · have HS := Lib.hid (all_end (p := plC) (by omega) H0.out)
        have HZ := Lib.hid (HKB.out (by omega))
        go_wp2_with fail
        go_ret
        exact ⟨retB (by rw [HR.out, HS.out, HZ.out]; rfl), rfl⟩
end Go.Proofs.Ytfmmpfoecjehiaa
