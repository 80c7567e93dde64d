/- DERIVED. What readArg of package page returns. Condition: strings of at most 20000 bytes. -/
import Derived.Test.YtfmmpfoecjehiaaReadVal
import Derived.BigRegion
import Derived.RegionTactic
namespace Go.Proofs.Ytfmmpfoecjehiaa
set_option linter.unusedVariables false
set_option linter.unusedSimpArgs false
open Go.RowKit
theorem hp_eq (l : L8) : Lib.hasPrefix l [61] = decide (l[0]? = some 61) := by
  cases l with
  | nil => rfl
  | cons c r =>
    by_cases h : c = 61
    · subst h; simp [Lib.hasPrefix]
    · have h2 : ¬ (61 : UInt8) = c := fun e => h e.symm
      simp [Lib.hasPrefix, List.isPrefixOf, h, h2]
/-- What readArg returns: the argument and what is behind it; or some values, and false. -/
def RaPost (o : Option (L8 × L8 × L8)) (w : World) (e : Ending) (w' : World) : Prop :=
  (match o with
  | some x => e = .returned (.tuple #[.agg #[.string (bs x.1), .string (bs x.2.1)], .string (bs x.2.2), .bool true])
  | none => ∃ a b c, e = .returned (.tuple #[.agg #[.string a, .string b], .string c, .bool false])) ∧ Below w.heap.size w w'
theorem ra_short {l : L8} (h : ∀ c r, l = c :: r → c.toNat ≠ 32) : ra l = none := by
  cases l with
  | nil => rfl
  | cons c r => unfold ra; simp only; rw [if_neg (h c r rfl)]
theorem ra_named {c : UInt8} {r : L8} (hc : c.toNat = 32) (h : named r = true) : ra (c :: r) = (rvO (r.drop (lead wdC r + 1))).map fun x => (r.take (lead wdC r), x.1, x.2) := by
  unfold ra; simp only; rw [if_pos hc, if_pos h]
theorem ra_plain {c : UInt8} {r : L8} (hc : c.toNat = 32) (h : ¬ named r = true) : ra (c :: r) = (rvO r).map fun x => ([], x.1, x.2) := by
  unfold ra; simp only; rw [if_pos hc, if_neg h]
theorem raPost_of {l nm : L8} {o : Option (L8 × L8 × L8)} {w w' : World} (h : o = (rvO l).map fun x => (nm, x.1, x.2)) (hb : Below w.heap.size w w') :
    RaPost o w (.returned (.tuple #[.agg #[.string (bs nm), .string (bs (rv l).1)], .string (bs (rv l).2.1), .bool (rv l).2.2])) w' := by
  subst h
  refine ⟨?_, hb⟩
  unfold rvO
  cases hr : (rv l).2.2 with
  | true => simp
  | false => simp
theorem bs_at {l : L8} {k : Nat} {c : UInt8} (h : l[k]? = some c) (hk : k < (bs l).size) : (bs l)[k] = c := by
  have := bl_at hk
  rw [bl_bs, h] at this
  simpa using this.symm
theorem bs_ext (l : L8) (k : Nat) : (bs l).extract k (bs l).size = bs (l.drop k) := by
  have := ext_bs (bs l) k
  rwa [bl_bs] at this
theorem bs_ext0 (l : L8) (k : Nat) : (bs l).extract 0 k = bs (l.take k) := by
  have := ext0_bs (bs l) k
  rwa [bl_bs] at this
theorem named_parts {r : L8} (h : named r = true) : 0 < lead wdC r ∧ lead wdC r ≤ 20 ∧ (∃ c, r[0]? = some c ∧ smC c = true) ∧ r[lead wdC r]? = some 61 := by
  unfold named at h
  simp only [Bool.and_eq_true, decide_eq_true_eq] at h
  obtain ⟨⟨⟨h5, h6⟩, h7⟩, h8⟩ := h
  refine ⟨h5, h6, ?_, h8⟩
  cases hc : r[0]? with
  | none => rw [hc] at h7; cases h7
  | some c => rw [hc] at h7; exact ⟨c, rfl, h7⟩
set_option maxRecDepth 100000 in
set_option maxHeartbeats 2000000 in
theorem readArg_any (s : ByteArray) (w : World) (hs : s.size ≤ 20000) :
    Calls Try.prog 34 #[.string s] w (RaPost (ra (bl s)) w) := by
  have hcut := fun wX => cutQ s 32 32 rfl wX
  by_cases hsp : ∀ c r, bl s = c :: r → c.toNat ≠ 32
  · have hcut2 : ∀ wX, Calls Try.prog 47 #[.string s, .string ⟨#[32]⟩] wX fun e w' => e = .returned (.tuple #[.string s, .bool false]) ∧ wX = w' := fun wX => by
      have h := hcut wX
      cases hb : bl s with
      | nil => rw [hb] at h; exact h
      | cons c r =>
        rw [hb] at h
        simp only at h
        rw [if_neg (hsp c r hb)] at h
        exact h
    have HC := Lib.hid hcut2
    have HR := Lib.hid (ra_short hsp)
    clear hcut hcut2 hsp
    go_enter Try.func34, Try.ntmps34
    go_wp2_with (go_at_call 47; refine (HC.out _).mono ?_; rintro e w9 ⟨rfl, rfl⟩)
    refine bodyPost_ret (v := .tuple #[.agg #[.string ⟨#[]⟩, .string ⟨#[]⟩], .string ⟨#[]⟩, .bool false]) (by simp [results, Try.results34, go_sem]; try rfl) rfl ?_
    rw [HR.out]
    refine ⟨⟨_, _, _, rfl⟩, ?_⟩
    first | exact (Below.refl _ _).alloc (Nat.le_refl _) _ | exact ((Below.refl _ _).alloc (Nat.le_refl _) _).setCell (by simp) _
  · obtain ⟨c, r, hb, hc⟩ : ∃ c r, bl s = c :: r ∧ c.toNat = 32 := by
      cases hb : bl s with
      | nil => exact absurd (fun c r e => by rw [hb] at e; cases e) hsp
      | cons c r =>
        refine ⟨c, r, rfl, ?_⟩
        by_cases h : c.toNat = 32
        · exact h
        · exact absurd (fun c' r' e => by rw [hb] at e; cases e; exact h) hsp
    have hcut2 : ∀ wX, Calls Try.prog 47 #[.string s, .string ⟨#[32]⟩] wX fun e w' => e = .returned (.tuple #[.string (bs r), .bool true]) ∧ wX = w' := fun wX => by
      have h := hcut wX
      rw [hb] at h
      simp only at h
      rw [if_pos hc] at h
      exact h
    have hrs : (bs r).size < s.size := by
      rw [bs_size]
      have := bl_len s
      rw [hb] at this
      simp at this
      omega
    have HC := Lib.hid hcut2
    clear hcut hcut2 hsp
    rw [hb]
    clear hb
    have hle := lead_le wdC r
    have hrl := bs_size r
    by_cases hn : named r = true
    · obtain ⟨h5, h6, ⟨c1, hc1, hsm⟩, h8⟩ := named_parts hn
      have HRA := Lib.hid (ra_named hc hn)
      have hld := fun wX => leadWord_any (bs r) wX (by omega)
      rw [bl_bs] at hld
      have hk1 : lead wdC r < r.length := by
        obtain ⟨h, _⟩ := List.getElem?_eq_some_iff.1 h8
        exact h
      have hx0 := bs_ext0 r (lead wdC r)
      have hx1 := bs_ext r (lead wdC r)
      have hx2 := bs_ext r (lead wdC r + 1)
      have hhp := fun wX => Try.strings_HasPrefix (bs (r.drop (lead wdC r))) ⟨#[61]⟩ wX
      have h61 : Lib.hasPrefix (bl (bs (r.drop (lead wdC r)))) (ByteArray.mk #[61]).data.toList = true := by
        rw [bl_bs]
        show Lib.hasPrefix _ [61] = true
        rw [hp_eq, List.getElem?_drop, Nat.add_zero, h8]
        rfl
      have hrv := fun wX => readValue_any (bs (r.drop (lead wdC r + 1))) wX (by rw [bs_size, List.length_drop]; omega)
      rw [bl_bs] at hrv
      generalize lead wdC r = n at *
      have hhp2 : ∀ wX, Calls Try.prog 13 #[.string (bs (r.drop n)), .string ⟨#[61]⟩] wX fun e w' => e = .returned (.bool true) ∧ wX = w' := fun wX => (hhp wX).mono fun e w' h => ⟨by rw [h.1]; exact congrArg (fun b => Ending.returned (Value.bool b)) h61, h.2.symm⟩
      have HP := Lib.hid hhp2
      have HL := Lib.hid hld
      have HRV := Lib.hid hrv
      have hsc := fun wX => small_any c1 wX
      rw [hsm] at hsc
      have HSM := Lib.hid hsc
      have n0 : (0 : Int) ≤ (n : Int) := by omega
      have n1 : (n : Int) ≤ ((bs r).size : Int) := by omega
      have n2 : (0 : Int) < (n : Int) := by omega
      have n3 : (n : Int) ≤ 20 := by omega
      have w1 : IntKind.i64.wrap ((n : Int) + 1) = (n : Int) + 1 := IntWalk.i64_in _ (by omega)
      have w2 : (0 : Int) ≤ (n : Int) + 1 := by omega
      have w3 : ((n : Int) + 1).toNat = n + 1 := by omega
      have w4 : (n : Int) + 1 ≤ ((bs r).size : Int) := by omega
      obtain ⟨R, hR, hp0, hb0⟩ : ∃ R, bs r = R ∧ ∃ h : 0 < R.size, R[0] = c1 := ⟨bs r, rfl, by omega, bs_at hc1 (by omega)⟩
      rw [hR] at HC HL n1 w4 hx0 hx1 hx2
      have HX := Lib.hid (And.intro hx0 (And.intro hx1 hx2))
      clear hld hhp hhp2 h61 hrv hsc hc1 hsm h8 hle hrl hR hn hc hrs hk1
      have d1 : decide (0 < n) = true := decide_eq_true h5
      have d2 : decide (n ≤ 20) = true := decide_eq_true h6
      go_enter Try.func34, Try.ntmps34
      go_wp2_with (first | (go_at_call 47; refine (HC.out _).mono ?_; rintro e w9 ⟨rfl, rfl⟩) | (go_at_call 32; refine (HL.out _).mono ?_; rintro e w9 ⟨rfl, rfl⟩) | (go_at_call 45; refine (HSM.out _).mono ?_; rintro e w9 ⟨rfl, rfl⟩) | (go_at_call 13; refine (HP.out _).mono ?_; rintro e w9 ⟨rfl, rfl⟩))
      clear hx1
      go_region
      all_goals
        go_wp2_with fail
        refine (HRV.out _).mono ?_
        rintro e w5 ⟨rfl, hb5⟩
        have y0 := hb5.cell (p := ⟨w.heap.size, 0, none⟩) (by simp)
        have y1 := hb5.cell (p := ⟨w.heap.size, 1, none⟩) (by simp)
        have f1 := hb5.frozen (p := ⟨w.heap.size, 1, none⟩) (by simp)
        have f0 := hb5.frozen (p := ⟨w.heap.size, 0, none⟩) (by simp)
        simp at y0 y1 f1 f0
        have hbE : Below w.heap.size w w5 := by
          first
            | exact ((((Below.refl _ w).alloc (Nat.le_refl _) _).setCell (p := ⟨w.heap.size, 0, none⟩) (Nat.le_refl _) _).drew).trans (hb5.mono (by simp))
            | exact (((Below.refl _ w).alloc (Nat.le_refl _) _).drew).trans (hb5.mono (by simp))
            | exact (((Below.refl _ w).alloc (Nat.le_refl _) _)).trans (hb5.mono (by simp))
        have hpost := fun w' (hb : Below w.heap.size w w') => raPost_of (w' := w') HRA.out hb
        clear hb5
        generalize rv (r.drop (n + 1)) = q at hpost
        obtain ⟨q1, q2, q3⟩ := q
        unfold rvV
        have HPO := Lib.hid hpost; clear hpost
        have HBE := Lib.hid hbE; clear hbE
        go_wp2_with fail
        refine bodyPost_ret (v := .tuple #[.agg #[.string (bs (r.take n)), .string (bs q1)], .string (bs q2), .bool q3]) (by simp [results, Try.results34, go_sem, y0, y1]) rfl (HPO.out _ ?_)
        have h1 := fun v => HBE.out.setCell (p := ⟨w.heap.size, 1, none⟩) (Nat.le_refl _) v
        have h2 := fun v u => (h1 v).setCell (p := ⟨w.heap.size, 0, none⟩) (Nat.le_refl _) u
        have h3 := fun v u x => (h2 v u).setCell (p := ⟨w.heap.size, 1, none⟩) (Nat.le_refl _) x
        first | exact h1 _ | exact h3 _ _ _ | exact h2 _ _
    · have HRA := Lib.hid (ra_plain hc hn)
      have hld := fun wX => leadWord_any (bs r) wX (by omega)
      rw [bl_bs] at hld
      have hrv := fun wX => readValue_any (bs r) wX (by omega)
      rw [bl_bs] at hrv
      have HRV := Lib.hid hrv
      clear hrv
      have hx1 := bs_ext r (lead wdC r)
      have hhp := fun wX => Try.strings_HasPrefix (bs (r.drop (lead wdC r))) ⟨#[61]⟩ wX
      have h61 : Lib.hasPrefix (bl (bs (r.drop (lead wdC r)))) (ByteArray.mk #[61]).data.toList = decide (r[lead wdC r]? = some 61) := by
        rw [bl_bs]
        show Lib.hasPrefix _ [61] = _
        rw [hp_eq, List.getElem?_drop, Nat.add_zero]
      have hnd : named r = (decide (0 < lead wdC r) && decide (lead wdC r ≤ 20) && (match r[0]? with | some c => smC c | none => false) && decide (r[lead wdC r]? = some 61)) := rfl
      generalize lead wdC r = n at *
      have hhp2 : ∀ wX, Calls Try.prog 13 #[.string (bs (r.drop n)), .string ⟨#[61]⟩] wX fun e w' => e = .returned (.bool (decide (r[n]? = some 61))) ∧ wX = w' := fun wX => (hhp wX).mono fun e w' h => ⟨by rw [h.1]; exact congrArg (fun b => Ending.returned (Value.bool b)) h61, h.2.symm⟩
      have hR0 : ∀ c1, r[0]? = some c1 → ∃ h : 0 < (bs r).size, (bs r)[0] = c1 := fun c1 h1 => by
        have : 0 < (bs r).size := by
          obtain ⟨h, _⟩ := List.getElem?_eq_some_iff.1 h1
          omega
        exact ⟨this, bs_at h1 this⟩
      obtain ⟨R, hR⟩ : ∃ R, bs r = R := ⟨_, rfl⟩
      have hR0' : ∀ c1, r[0]? = some c1 → ∃ h : 0 < R.size, R[0] = c1 := by subst hR; exact hR0
      have n0 : (0 : Int) ≤ (n : Int) := by omega
      have n1 : (n : Int) ≤ (R.size : Int) := by rw [← hR]; omega
      rw [hR] at hld HRV hx1
      simp only [hR] at HC
      have HL := Lib.hid hld
      clear hld hhp h61 hR0 hrs hrl hR
      by_cases hn0 : n = 0
      · subst hn0
        have HHP := Lib.hid hhp2
        clear hhp2 hnd hn hc hR0' hx1 hle
        go_enter Try.func34, Try.ntmps34
        go_wp2_with (first | (go_at_call 47; refine (HC.out _).mono ?_; rintro e w9 ⟨rfl, rfl⟩) | (go_at_call 32; refine (HL.out _).mono ?_; rintro e w9 ⟨rfl, rfl⟩))
        refine (HRV.out _).mono ?_
        rintro e w5 ⟨rfl, hb5⟩
        have y0 := hb5.cell (p := ⟨w.heap.size, 0, none⟩) (by simp)
        have y1 := hb5.cell (p := ⟨w.heap.size, 1, none⟩) (by simp)
        have f1 := hb5.frozen (p := ⟨w.heap.size, 1, none⟩) (by simp)
        have f0 := hb5.frozen (p := ⟨w.heap.size, 0, none⟩) (by simp)
        simp at y0 y1 f1 f0
        have hbE : Below w.heap.size w w5 := (((Below.refl _ w).alloc (Nat.le_refl _) _)).trans (hb5.mono (by simp))
        have hpost := fun w' (hb : Below w.heap.size w w') => raPost_of (w' := w') HRA.out hb
        clear hb5
        generalize rv r = q at hpost
        obtain ⟨q1, q2, q3⟩ := q
        unfold rvV
        have HPO := Lib.hid hpost; clear hpost
        have HBE := Lib.hid hbE; clear hbE
        go_wp2_with fail
        refine bodyPost_ret (v := .tuple #[.agg #[.string (bs []), .string (bs q1)], .string (bs q2), .bool q3]) (by simp [results, Try.results34, go_sem, y0, y1]) rfl (HPO.out _ ?_)
        have h1 := fun v => HBE.out.setCell (p := ⟨w.heap.size, 1, none⟩) (Nat.le_refl _) v
        have h2 := fun v u => (h1 v).setCell (p := ⟨w.heap.size, 0, none⟩) (Nat.le_refl _) u
        have h3 := fun v u x => (h2 v u).setCell (p := ⟨w.heap.size, 1, none⟩) (Nat.le_refl _) x
        first | exact h1 _ | exact h3 _ _ _ | exact h2 _ _
      · have d1 : decide (0 < n) = true := decide_eq_true (by omega)
        have p1 : 0 < n := by omega
        by_cases hn20 : 20 < n
        · have d2 : decide (n ≤ 20) = false := decide_eq_false (by omega)
          have HHP := Lib.hid hhp2
          clear hhp2 hnd hn hc hR0' hx1
          go_enter Try.func34, Try.ntmps34
          go_wp2_with (first | (go_at_call 47; refine (HC.out _).mono ?_; rintro e w9 ⟨rfl, rfl⟩) | (go_at_call 32; refine (HL.out _).mono ?_; rintro e w9 ⟨rfl, rfl⟩))
          refine (HRV.out _).mono ?_
          rintro e w5 ⟨rfl, hb5⟩
          have y0 := hb5.cell (p := ⟨w.heap.size, 0, none⟩) (by simp)
          have y1 := hb5.cell (p := ⟨w.heap.size, 1, none⟩) (by simp)
          have f1 := hb5.frozen (p := ⟨w.heap.size, 1, none⟩) (by simp)
          have f0 := hb5.frozen (p := ⟨w.heap.size, 0, none⟩) (by simp)
          simp at y0 y1 f1 f0
          have hbE : Below w.heap.size w w5 := (((Below.refl _ w).alloc (Nat.le_refl _) _)).trans (hb5.mono (by simp))
          have hpost := fun w' (hb : Below w.heap.size w w') => raPost_of (w' := w') HRA.out hb
          clear hb5
          generalize rv r = q at hpost
          obtain ⟨q1, q2, q3⟩ := q
          unfold rvV
          have HPO := Lib.hid hpost; clear hpost
          have HBE := Lib.hid hbE; clear hbE
          go_wp2_with fail
          refine bodyPost_ret (v := .tuple #[.agg #[.string (bs []), .string (bs q1)], .string (bs q2), .bool q3]) (by simp [results, Try.results34, go_sem, y0, y1]) rfl (HPO.out _ ?_)
          have h1 := fun v => HBE.out.setCell (p := ⟨w.heap.size, 1, none⟩) (Nat.le_refl _) v
          have h2 := fun v u => (h1 v).setCell (p := ⟨w.heap.size, 0, none⟩) (Nat.le_refl _) u
          have h3 := fun v u x => (h2 v u).setCell (p := ⟨w.heap.size, 1, none⟩) (Nat.le_refl _) x
          first | exact h1 _ | exact h3 _ _ _ | exact h2 _ _
        · have d2 : decide (n ≤ 20) = true := decide_eq_true (by omega)
          have p2 : n ≤ 20 := by omega
          have n3 : (n : Int) ≤ 20 := by omega
          obtain ⟨c1, hc1⟩ : ∃ c1, r[0]? = some c1 := ⟨_, List.getElem?_eq_getElem (by omega)⟩
          obtain ⟨hp0, hb0⟩ := hR0' c1 hc1
          have hsc := fun wX => small_any c1 wX
          rw [hc1] at hnd
          simp only at hnd
          cases hsm : smC c1 with
          | false =>
            rw [hsm] at hsc
            have HSM := Lib.hid hsc
            have HHP := Lib.hid hhp2
            clear hhp2 hnd hn hc hR0' hx1 hsc hsm hc1
            go_enter Try.func34, Try.ntmps34
            go_wp2_with (first | (go_at_call 47; refine (HC.out _).mono ?_; rintro e w9 ⟨rfl, rfl⟩) | (go_at_call 32; refine (HL.out _).mono ?_; rintro e w9 ⟨rfl, rfl⟩) | (go_at_call 45; refine (HSM.out _).mono ?_; rintro e w9 ⟨rfl, rfl⟩))
            refine (HRV.out _).mono ?_
            rintro e w5 ⟨rfl, hb5⟩
            have y0 := hb5.cell (p := ⟨w.heap.size, 0, none⟩) (by simp)
            have y1 := hb5.cell (p := ⟨w.heap.size, 1, none⟩) (by simp)
            have f1 := hb5.frozen (p := ⟨w.heap.size, 1, none⟩) (by simp)
            have f0 := hb5.frozen (p := ⟨w.heap.size, 0, none⟩) (by simp)
            simp at y0 y1 f1 f0
            have hbE : Below w.heap.size w w5 := (((Below.refl _ w).alloc (Nat.le_refl _) _)).trans (hb5.mono (by simp))
            have hpost := fun w' (hb : Below w.heap.size w w') => raPost_of (w' := w') HRA.out hb
            clear hb5
            generalize rv r = q at hpost
            obtain ⟨q1, q2, q3⟩ := q
            unfold rvV
            have HPO := Lib.hid hpost; clear hpost
            have HBE := Lib.hid hbE; clear hbE
            go_wp2_with fail
            refine bodyPost_ret (v := .tuple #[.agg #[.string (bs []), .string (bs q1)], .string (bs q2), .bool q3]) (by simp [results, Try.results34, go_sem, y0, y1]) rfl (HPO.out _ ?_)
            have h1 := fun v => HBE.out.setCell (p := ⟨w.heap.size, 1, none⟩) (Nat.le_refl _) v
            have h2 := fun v u => (h1 v).setCell (p := ⟨w.heap.size, 0, none⟩) (Nat.le_refl _) u
            have h3 := fun v u x => (h2 v u).setCell (p := ⟨w.heap.size, 1, none⟩) (Nat.le_refl _) x
            first | exact h1 _ | exact h3 _ _ _ | exact h2 _ _
          | true =>
            rw [hsm] at hsc
            have HSM := Lib.hid hsc
            have h61f : decide (r[n]? = some 61) = false := by
              cases h : decide (r[n]? = some 61) with
              | false => rfl
              | true => exact absurd (by rw [hnd, d1, d2, hsm, h]; rfl) hn
            rw [h61f] at hhp2
            have HP := Lib.hid hhp2
            clear hhp2 hnd hn hc hR0' hsc hsm hc1 h61f
            go_enter Try.func34, Try.ntmps34
            go_wp2_with (first | (go_at_call 47; refine (HC.out _).mono ?_; rintro e w9 ⟨rfl, rfl⟩) | (go_at_call 32; refine (HL.out _).mono ?_; rintro e w9 ⟨rfl, rfl⟩) | (go_at_call 45; refine (HSM.out _).mono ?_; rintro e w9 ⟨rfl, rfl⟩) | (go_at_call 13; refine (HP.out _).mono ?_; rintro e w9 ⟨rfl, rfl⟩))
            refine (HRV.out _).mono ?_
            rintro e w5 ⟨rfl, hb5⟩
            have y0 := hb5.cell (p := ⟨w.heap.size, 0, none⟩) (by simp)
            have y1 := hb5.cell (p := ⟨w.heap.size, 1, none⟩) (by simp)
            have f1 := hb5.frozen (p := ⟨w.heap.size, 1, none⟩) (by simp)
            have f0 := hb5.frozen (p := ⟨w.heap.size, 0, none⟩) (by simp)
            simp at y0 y1 f1 f0
            have hbE : Below w.heap.size w w5 := (((Below.refl _ w).alloc (Nat.le_refl _) _)).trans (hb5.mono (by simp))
            have hpost := fun w' (hb : Below w.heap.size w w') => raPost_of (w' := w') HRA.out hb
            clear hb5
            generalize rv r = q at hpost
            obtain ⟨q1, q2, q3⟩ := q
            unfold rvV
            have HPO := Lib.hid hpost; clear hpost
            have HBE := Lib.hid hbE; clear hbE
            go_wp2_with fail
            refine bodyPost_ret (v := .tuple #[.agg #[.string (bs []), .string (bs q1)], .string (bs q2), .bool q3]) (by simp [results, Try.results34, go_sem, y0, y1]) rfl (HPO.out _ ?_)
            have h1 := fun v => HBE.out.setCell (p := ⟨w.heap.size, 1, none⟩) (Nat.le_refl _) v
            have h2 := fun v u => (h1 v).setCell (p := ⟨w.heap.size, 0, none⟩) (Nat.le_refl _) u
            have h3 := fun v u x => (h2 v u).setCell (p := ⟨w.heap.size, 1, none⟩) (Nat.le_refl _) x
            first | exact h1 _ | exact h3 _ _ _ | exact h2 _ _
end Go.Proofs.Ytfmmpfoecjehiaa
