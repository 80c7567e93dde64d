/- DERIVED. What readValue of package page returns. Condition: strings of at most 20000 bytes. -/
import Derived.Test.YtfmmpfoecjehiaaQuoted
import Derived.Deep.QuietTactic
import Derived.BigQuiet
namespace Go.Proofs.Ytfmmpfoecjehiaa
set_option linter.unusedVariables false
set_option linter.unusedSimpArgs false
open Go.RowKit
theorem cutQ (s : ByteArray) (q : UInt8) (qn : Nat) (hqn : q.toNat = qn) (w : World) : Calls Try.prog 47 #[.string s, .string ⟨#[q]⟩] w fun e w' =>
    e = .returned (match bl s with | [] => .tuple #[.string s, .bool false] | c :: r => if c.toNat = qn then .tuple #[.string (bs r), .bool true] else .tuple #[.string s, .bool false]) ∧ w = w' := by
  refine (Try.strings_CutPrefix s ⟨#[q]⟩ w).mono ?_
  rintro e w' ⟨rfl, rfl⟩
  refine ⟨?_, rfl⟩
  congr 1
  have hs : s = bs (bl s) := rfl
  generalize bl s = l at hs
  subst hs
  subst hqn
  cases l with
  | nil => simp [Lib.hasPrefix, Lib.trimPrefix]
  | cons c r =>
    by_cases h : c.toNat = q.toNat
    · have : c = q := UInt8.toNat_inj.1 h
      subst this
      simp [Lib.hasPrefix, Lib.trimPrefix]
    · have : ¬ c = q := fun e => h (by rw [e])
      have h2 : ¬ q = c := fun e => this e.symm
      have hpf : [q].isPrefixOf (c :: r) = false := by simp [List.isPrefixOf, h2]
      simp [Lib.hasPrefix, Lib.trimPrefix, h, hpf]
def rvV (x : L8 × L8 × Bool) : Value := .tuple #[.string (bs x.1), .string (bs x.2.1), .bool x.2.2]
theorem rv_quote {c : UInt8} {r : L8} (h : c.toNat = 34) : rvV (rv (c :: r)) = qdV (qd r) := by
  unfold rv
  simp only
  rw [if_pos h]
  cases qd r with
  | none => rfl
  | some x => rfl
theorem rv_plain {c : UInt8} {r : L8} (h : c.toNat ≠ 34) : rv (c :: r) = ((c :: r).take (lead plC (c :: r)), (c :: r).drop (lead plC (c :: r)), decide (0 < lead plC (c :: r)) && !decide (c.toNat = 58)) := by
  unfold rv
  simp only
  rw [if_neg h]
set_option maxRecDepth 100000 in
set_option maxHeartbeats 2000000 in
theorem readValue_any (s : ByteArray) (w : World) (hs : s.size ≤ 20000) :
    Calls Try.prog 49 #[.string s] w fun e w' => e = .returned (rvV (rv (bl s))) ∧ Below w.heap.size w w' := by
  have hcut := fun wX => cutQ s 34 34 rfl wX
  have hld := fun wX => leadPlain_any s wX (by omega)
  have hle := lead_le plC (bl s)
  rw [bl_len] at hle
  cases hb : bl s with
  | nil =>
    rw [hb] at hcut hld
    have h0 : s.size = 0 := by rw [← bl_len, hb]; rfl
    have HC := Lib.hid hcut
    have HL := Lib.hid (show ∀ wX, Calls Try.prog 32 #[.string s, .func (.func 65) #[] #[]] wX fun e w' => e = .returned (.int .i64 0) ∧ wX = w' from hld)
    have hx0 := ext_bs s 0
    have hx1 := ext0_bs s 0
    rw [hb] at hx0 hx1
    clear hcut hld hle hb
    go_enter Try.func49, Try.ntmps49
    go_wp2_with (first | (go_at_call 47; refine (HC.out _).mono ?_; rintro e w9 ⟨rfl, rfl⟩) | (go_at_call 32; refine (HL.out _).mono ?_; rintro e w9 ⟨rfl, rfl⟩))
    go_quiet (fail)
    go_wp2_with fail
    refine bodyPost_ret (v := rvV (rv [])) (by simp [results, Try.results49, go_sem, rvV, rv, hx0, hx1]; try rfl) rfl ⟨rfl, by first | exact Below.refl _ _ | exact below_drewN (Below.refl _ _) _⟩
  | cons c r =>
    have hr : (bs r).size < s.size := by
      rw [bs_size]
      have := bl_len s
      rw [hb] at this
      simp at this
      omega
    by_cases h34 : c.toNat = 34
    · rw [hb] at hcut
      have hcut2 : ∀ wX, Calls Try.prog 47 #[.string s, .string ⟨#[34]⟩] wX fun e w' => e = .returned (.tuple #[.string (bs r), .bool true]) ∧ wX = w' := fun wX => by
        have h := hcut wX
        simp only at h
        rw [if_pos h34] at h
        exact h
      have HC := Lib.hid hcut2
      have hq := fun wX => readQuoted_any (bs r) wX (by omega)
      rw [bl_bs] at hq
      have hv := rv_quote (r := r) h34
      obtain ⟨a, b, o, ho⟩ : ∃ a b o, qdV (qd r) = .tuple #[.string a, .string b, .bool o] := by
        cases qd r with
        | none => exact ⟨_, _, _, rfl⟩
        | some x => exact ⟨_, _, _, rfl⟩
      rw [ho] at hq hv
      have HQ := Lib.hid hq
      have HV := Lib.hid hv
      clear hcut hcut2 hld hle hb hq hv ho h34
      go_enter Try.func49, Try.ntmps49
      go_wp2_with (go_at_call 47; refine (HC.out _).mono ?_; rintro e w9 ⟨rfl, rfl⟩)
      refine (HQ.out _).mono ?_
      rintro e w1 ⟨rfl, hb1⟩
      go_wp2_with fail
      refine bodyPost_ret (v := .tuple #[.string a, .string b, .bool o]) (by simp [results, Try.results49, go_sem]) rfl ⟨ret_tup HV.out, hb1⟩
    · rw [hb] at hcut
      have hcut2 : ∀ wX, Calls Try.prog 47 #[.string s, .string ⟨#[34]⟩] wX fun e w' => e = .returned (.tuple #[.string s, .bool false]) ∧ wX = w' := fun wX => by
        have h := hcut wX
        simp only at h
        rw [if_neg h34] at h
        exact h
      have HC := Lib.hid hcut2
      have hp : 0 < s.size := by omega
      have hc0 : s[0] = c := by
        have h1 := bl_at hp
        rw [hb] at h1
        simpa using h1.symm
      have hv := rv_plain (c := c) (r := r) h34
      rw [← hb] at hv
      have hx0 := ext_bs s (lead plC (bl s))
      have hx1 := ext0_bs s (lead plC (bl s))
      rw [← hb]
      generalize lead plC (bl s) = n at hv hx0 hx1 hle hld
      have HL := Lib.hid hld
      have HV := Lib.hid hv
      have HX := Lib.hid (And.intro hx0 hx1)
      have n0 : (0 : Int) ≤ (n : Int) := by omega
      have n1 : (n : Int) ≤ (s.size : Int) := by omega
      clear hcut hcut2 hld hb hv h34 hx0 hx1
      by_cases hn : 0 < n
      · have g0 : decide ((0 : Int) < (n : Int)) = true := decide_eq_true (by omega)
        have HN := Lib.hid hn
        by_cases h58 : (c.toNat : Int) = 58
        · have e58 : ((c.toNat : Int) != 58) = false := by simpa using h58
          have H58 := Lib.hid h58; clear h58
          go_enter Try.func49, Try.ntmps49
          go_wp2_with (first | (go_at_call 47; refine (HC.out _).mono ?_; rintro e w9 ⟨rfl, rfl⟩) | (go_at_call 32; refine (HL.out _).mono ?_; rintro e w9 ⟨rfl, rfl⟩))
          go_quiet (fail)
          go_wp2_with fail
          refine bodyPost_ret (v := .tuple #[.string (s.extract 0 n), .string (s.extract n s.size), .bool false]) (by simp [results, Try.results49, go_sem]) rfl ⟨ret_tup (by rw [HV.out, HX.out.1, HX.out.2, decide_eq_true HN.out, decide_eq_true (show c.toNat = 58 by have := H58.out; omega)]; rfl), by first | exact Below.refl _ _ | exact below_drewN (Below.refl _ _) _⟩
        · have e58 : ((c.toNat : Int) != 58) = true := by simpa using h58
          have H58 := Lib.hid h58; clear h58
          go_enter Try.func49, Try.ntmps49
          go_wp2_with (first | (go_at_call 47; refine (HC.out _).mono ?_; rintro e w9 ⟨rfl, rfl⟩) | (go_at_call 32; refine (HL.out _).mono ?_; rintro e w9 ⟨rfl, rfl⟩))
          go_quiet (fail)
          go_wp2_with fail
          refine bodyPost_ret (v := .tuple #[.string (s.extract 0 n), .string (s.extract n s.size), .bool true]) (by simp [results, Try.results49, go_sem]) rfl ⟨ret_tup (by rw [HV.out, HX.out.1, HX.out.2, decide_eq_true HN.out, decide_eq_false (show ¬ c.toNat = 58 by have := H58.out; omega)]; rfl), by first | exact Below.refl _ _ | exact below_drewN (Below.refl _ _) _⟩
      · obtain rfl : n = 0 := by omega
        go_enter Try.func49, Try.ntmps49
        go_wp2_with (first | (go_at_call 47; refine (HC.out _).mono ?_; rintro e w9 ⟨rfl, rfl⟩) | (go_at_call 32; refine (HL.out _).mono ?_; rintro e w9 ⟨rfl, rfl⟩))
        go_quiet (fail)
        go_wp2_with fail
        refine bodyPost_ret (v := .tuple #[.string (s.extract 0 0), .string (s.extract 0 s.size), .bool false]) (by simp [results, Try.results49, go_sem]) rfl ⟨ret_tup (by rw [HV.out, HX.out.1, HX.out.2]; rfl), by first | exact Below.refl _ _ | exact below_drewN (Below.refl _ _) _⟩
end Go.Proofs.Ytfmmpfoecjehiaa
