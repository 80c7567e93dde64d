/- DERIVED. What valueOf of the reference returns. Condition: strings of at most 20000 bytes. -/
import Derived.Test.YtfmmpfoecjehiaaQuoted
namespace Go.Proofs.Ytfmmpfoecjehiaa
set_option linter.unusedVariables false
set_option linter.unusedSimpArgs false
open Go.RowKit
theorem ext1_bs (s : ByteArray) (k : Nat) (h : k < s.size) : s.extract k (k + 1) = bs [s[k]] := by
  apply ByteArray.ext
  apply Array.toList_inj.1
  rw [Lib.extract_data, List.drop_eq_getElem_cons (by rw [bl_len]; exact h), show k + 1 - k = 1 by omega]
  rfl
theorem bs_app (a b : L8) : bs a ++ bs b = bs (a ++ b) := by
  apply ByteArray.ext
  simp
def vOV : Option L8 → Value
  | some v => .tuple #[.string (bs v), .bool true]
  | none => .tuple #[.string ⟨#[]⟩, .bool false]
theorem vw_bad {c : UInt8} {d : UInt8} {r : L8} (h : c.toNat < 32 ∨ c.toNat = 34) : vw (c :: d :: r) = none := by unfold vw; rw [if_pos h]
theorem vw_esc {c d : UInt8} {r : L8} (h : c.toNat = 92) (hd : (d.toNat = 34 ∨ d.toNat = 92) ∧ r ≠ []) : vw (c :: d :: r) = (vw r).map (d :: ·) := by
  conv => lhs; unfold vw
  rw [if_neg (by omega), if_pos h, if_pos hd]
theorem vw_esc_bad {c d : UInt8} {r : L8} (h : c.toNat = 92) (hd : ¬ ((d.toNat = 34 ∨ d.toNat = 92) ∧ r ≠ [])) : vw (c :: d :: r) = none := by
  conv => lhs; unfold vw
  rw [if_neg (by omega), if_pos h, if_neg hd]
theorem vw_else {c d : UInt8} {r : L8} (h : ¬ (c.toNat < 32 ∨ c.toNat = 34)) (h2 : c.toNat ≠ 92) : vw (c :: d :: r) = (vw (d :: r)).map (c :: ·) := by
  conv => lhs; unfold vw
  rw [if_neg h, if_neg h2]
theorem vw_last : ∀ (r v : L8), vw r = some v → ∃ c, r.getLast? = some c ∧ c.toNat = 34
  | [], v, h => by simp [vw] at h
  | [c], v, h => by
    unfold vw at h
    split at h
    · rename_i hc; exact ⟨c, rfl, hc⟩
    · cases h
  | c :: d :: r, v, h => by
    by_cases h1 : c.toNat < 32 ∨ c.toNat = 34
    · rw [vw_bad h1] at h; cases h
    · by_cases h2 : c.toNat = 92
      · by_cases h3 : (d.toNat = 34 ∨ d.toNat = 92) ∧ r ≠ []
        · rw [vw_esc h2 h3] at h
          cases hv : vw r with
          | none => rw [hv] at h; cases h
          | some v' =>
            obtain ⟨c', h4, h5⟩ := vw_last r v' hv
            refine ⟨c', ?_, h5⟩
            cases r with
            | nil => exact absurd rfl h3.2
            | cons x y => simpa [List.getLast?_cons_cons] using h4
        · rw [vw_esc_bad h2 h3] at h; cases h
      · rw [vw_else h1 h2] at h
        cases hv : vw (d :: r) with
        | none => rw [hv] at h; cases h
        | some v' =>
          obtain ⟨c', h4, h5⟩ := vw_last (d :: r) v' hv
          exact ⟨c', by simpa [List.getLast?_cons_cons] using h4, h5⟩
theorem vOf_else {c : UInt8} {r : L8} (hb : bareB (c :: r) = false) : vOf (c :: r) = if c.toNat = 34 then vw r else none := by
  unfold vOf; rw [hb]; rfl
theorem vOf_nil : vOf [] = none := rfl
def VInv (s : ByteArray) (k : Nat) (acc : L8) : Prop := vOf (bl s) = (vw ((bl s).drop k)).map fun x => acc ++ x
theorem VInv.none {s : ByteArray} {k : Nat} {acc : L8} (h : VInv s k acc) (hn : vw ((bl s).drop k) = none) : vOV (vOf (bl s)) = vOV none := by rw [h, hn]; rfl
theorem VInv.step {s : ByteArray} {k k' : Nat} {acc : L8} {c : UInt8} (h : VInv s k acc) (hn : vw ((bl s).drop k) = (vw ((bl s).drop k')).map (c :: ·)) : VInv s k' (acc ++ [c]) := by
  unfold VInv
  rw [h, hn, Option.map_map]
  congr 1
  funext x
  simp
theorem VInv.done {s : ByteArray} {k : Nat} {acc : L8} {c : UInt8} (h : VInv s k acc) (hd : (bl s).drop k = [c]) (hc : c.toNat = 34) : vOV (vOf (bl s)) = .tuple #[.string (bs acc), .bool true] := by
  rw [h, hd]
  have : vw [c] = some [] := by unfold vw; rw [if_pos hc]
  rw [this]
  simp [vOV]
set_option maxRecDepth 100000 in
set_option maxHeartbeats 4000000 in
theorem valueOf_any (s : ByteArray) (w : World) (hs : s.size ≤ 20000) :
    Calls Try.prog 21 #[.string s] w fun e w' => e = .returned (vOV (vOf (bl s))) ∧ w = w' := by
  have hb := fun wX => bare_any s wX (by omega)
  cases hbb : bareB (bl s) with
  | true =>
    rw [hbb] at hb
    have HB := Lib.hid hb
    have HR := Lib.hid (show vOV (vOf (bl s)) = .tuple #[.string s, .bool true] by unfold vOf; rw [if_pos hbb]; rfl)
    clear hb hbb
    go_enter Try.func21, Try.ntmps21
    go_wp2_with (go_at_call 39; refine (HB.out _).mono ?_; rintro e w9 ⟨rfl, rfl⟩)
    refine bodyPost_ret (v := .tuple #[.string s, .bool true]) (by simp [results, Try.results21, go_sem]) rfl ⟨ret_tup HR.out, rfl⟩
  | false =>
    rw [hbb] at hb
    have HB := Lib.hid hb
    clear hb
    by_cases h2 : (s.size : Int) < 2
    · have HR := Lib.hid (show vOV (vOf (bl s)) = vOV none by
        have hl := bl_len s
        cases hd : bl s with
        | nil => rw [vOf_nil]
        | cons c r =>
          rw [hd] at hl hbb
          have : r = [] := by
            cases r with
            | nil => rfl
            | cons x y => simp at hl; omega
          subst this
          rw [vOf_else hbb]
          split <;> rfl)
      clear hbb
      have h2n : s.size < 2 := by omega
      go_enter Try.func21, Try.ntmps21
      go_wp2_with (go_at_call 39; refine (HB.out _).mono ?_; rintro e w9 ⟨rfl, rfl⟩)
      refine bodyPost_ret (v := vOV none) (by simp [results, Try.results21, go_sem, vOV]) rfl ⟨ret_tup HR.out, rfl⟩
    · have hp : 0 < s.size := by omega
      have hq : s.size - 1 < s.size := by omega
      have d2 : decide ((s.size : Int) < 2) = false := decide_eq_false h2
      obtain ⟨c0, hc0⟩ : ∃ c, s[0] = c := ⟨_, rfl⟩
      obtain ⟨cl, hcl⟩ : ∃ c, s[s.size - 1] = c := ⟨_, rfl⟩
      have hdr := bl_drop hp
      rw [List.drop_zero, hc0] at hdr
      have hv : vOf (bl s) = if c0.toNat = 34 then vw ((bl s).drop 1) else none := by
        rw [hdr] at hbb ⊢
        exact vOf_else hbb
      have hlast : (bl s).getLast? = some cl := by
        rw [List.getLast?_eq_getElem?, bl_len, bl_at hq, hcl]
      have i1 : (0 : Int) ≤ (s.size : Int) - 1 := by omega
      have i2 : (1 : Int) ≤ (s.size : Int) := by omega
      have i3 : ((s.size : Int) - 1).toNat = s.size - 1 := by omega
      have i4 : (s.size : Int) - 1 < (s.size : Int) := by omega
      by_cases h0 : (c0.toNat : Int) = 34
      · have e0 : ((c0.toNat : Int) != 34) = false := by simpa using h0
        by_cases hl34 : (cl.toNat : Int) = 34
        · have el : ((cl.toNat : Int) != 34) = false := by simpa using hl34
          have hinv : VInv s 1 [] := by
            unfold VInv
            rw [hv, if_pos (by omega)]
            simp
          have HINV := Lib.hid hinv
          have HCL := Lib.hid (And.intro hcl hl34)
          clear hbb hv hlast hdr hinv h0 hl34
          have h2n : ¬ s.size < 2 := by omega
          go_enter Try.func21, Try.ntmps21
          go_wp2_with (go_at_call 39; refine (HB.out _).mono ?_; rintro e w9 ⟨rfl, rfl⟩)
          go_loop [4, 5] (fun o i => ∃ (k : Nat) (acc : L8), k ≤ s.size - 1 ∧ 1 ≤ k ∧ i = .int .i64 k ∧ o = .string (bs acc) ∧ VInv s k acc ∧ acc.length ≤ k) (fun _ i => s.size - (intOf i).toNat)
          case atStart => exact ⟨1, [], by omega, Nat.le_refl _, rfl, rfl, HINV.out, by simp⟩
          case round =>
            obtain ⟨k, acc, hk, hk1, rfl, rfl, hin, hal⟩ := hrel
            have HI := Lib.hid hin; clear hin
            obtain ⟨O, hO⟩ : ∃ O, bs acc = O := ⟨_, rfl⟩
            have hOz : O.size ≤ k := by rw [← hO, bs_size]; exact hal
            by_cases hlt : k < s.size - 1
            · have hk' : k < s.size := by omega
              have hk2 : k + 1 < s.size := by omega
              have hlti : (k : Int) < (s.size : Int) - 1 := by omega
              obtain ⟨c, hck⟩ : ∃ c, s[k] = c := ⟨_, rfl⟩
              obtain ⟨d, hdk⟩ : ∃ d, s[k + 1] = d := ⟨_, rfl⟩
              have hd1 := bl_drop hk'
              have hd2 := bl_drop hk2
              rw [hck, hd2, hdk] at hd1
              have hd3 : (bl s).drop (k + 1) = d :: (bl s).drop (k + 1 + 1) := by rw [hd2, hdk]
              have HD := Lib.hid hd1
              have HD3 := Lib.hid hd3
              clear hd1 hd2 hd3
              rw [hO]
              by_cases h32 : (c.toNat : Int) < 32
              · have HV := Lib.hid (HI.out.none (by rw [HD.out]; exact vw_bad (by omega)))
                go_wp2_with fail
                all_goals first | (exfalso; omega) | (refine bodyPost_ret (v := vOV none) (by simp [results, Try.results21, go_sem, vOV]) rfl ⟨ret_tup HV.out, rfl⟩)
              · have f32 : decide ((c.toNat : Int) < 32) = false := decide_eq_false h32
                by_cases h34 : (c.toNat : Int) = 34
                · have e34 : ((c.toNat : Int) == 34) = true := by simpa using h34
                  have HV := Lib.hid (HI.out.none (by rw [HD.out]; exact vw_bad (by omega)))
                  clear h34
                  go_wp2_with fail
                  all_goals first | (exfalso; omega) | (refine bodyPost_ret (v := vOV none) (by simp [results, Try.results21, go_sem, vOV]) rfl ⟨ret_tup HV.out, rfl⟩)
                · have e34 : ((c.toNat : Int) == 34) = false := by simpa using h34
                  by_cases h92 : (c.toNat : Int) = 92
                  · have e92 : ((c.toNat : Int) == 92) = true := by simpa using h92
                    by_cases hend : k + 1 < s.size - 1
                    · have hne : (bl s).drop (k + 1 + 1) ≠ [] := fun e => by
                        have := congrArg List.length e
                        rw [List.length_drop, bl_len] at this
                        simp at this
                        omega
                      have g1 : ¬ (s.size : Int) - 1 ≤ (k : Int) + 1 := by omega
                      have g2 : decide ((s.size : Int) - 1 ≤ (k : Int) + 1) = false := decide_eq_false g1
                      by_cases hd : (d.toNat : Int) = 34 ∨ (d.toNat : Int) = 92
                      · have HS := Lib.hid (HI.out.step (k' := k + 1 + 1) (c := d) (by rw [HD.out]; exact vw_esc (by omega) ⟨by omega, hne⟩))
                        have hpc := ext1_bs s (k + 1) hk2
                        rw [hdk] at hpc
                        have hadd := fun wx => run_string_add_sum (P := Try.prog) (w := wx) O (s.extract (k + 1) (k + 1 + 1)) (by rw [hpc]; have h1z : (bs [d]).size = 1 := rfl; omega)
                        have HPC := Lib.hid hpc
                        clear hpc h34 h92 hne
                        rcases hd with hd | hd
                        · have f1 : ((d.toNat : Int) == 34) = true := by simpa using hd
                          have f2 : ((d.toNat : Int) != 34) = false := by simpa using hd
                          clear hd
                          go_wp2_with fail
                          all_goals first
                            | (exfalso; omega)
                            | (go_round
                               case rel => exact ⟨k + 1 + 1, acc ++ [d], by omega, by omega, by go_num, by rw [HPC.out, ← hO, bs_app], HS.out, by simp; omega⟩
                               case measure => simp [intOf]; omega)
                        · have f1 : ((d.toNat : Int) == 92) = true := by simpa using hd
                          have f2 : ((d.toNat : Int) != 92) = false := by simpa using hd
                          have f3 : ((d.toNat : Int) == 34) = false := by simp; omega
                          have f4 : ((d.toNat : Int) != 34) = true := by simp; omega
                          clear hd
                          go_wp2_with fail
                          all_goals first
                            | (exfalso; omega)
                            | (go_round
                               case rel => exact ⟨k + 1 + 1, acc ++ [d], by omega, by omega, by go_num, by rw [HPC.out, ← hO, bs_app], HS.out, by simp; omega⟩
                               case measure => simp [intOf]; omega)
                      · have HV := Lib.hid (HI.out.none (by rw [HD.out]; exact vw_esc_bad (by omega) (by rintro ⟨h, _⟩; omega)))
                        have f1 : ((d.toNat : Int) == 92) = false := by simp; omega
                        have f2 : ((d.toNat : Int) != 92) = true := by simp; omega
                        have f3 : ((d.toNat : Int) == 34) = false := by simp; omega
                        have f4 : ((d.toNat : Int) != 34) = true := by simp; omega
                        clear h34 h92 hd hne
                        go_wp2_with fail
                        all_goals first | (exfalso; omega) | (refine bodyPost_ret (v := vOV none) (by simp [results, Try.results21, go_sem, vOV]) rfl ⟨ret_tup HV.out, rfl⟩)
                    · have hnil : (bl s).drop (k + 1 + 1) = [] := List.drop_eq_nil_of_le (by rw [bl_len]; omega)
                      have HV := Lib.hid (HI.out.none (by rw [HD.out]; exact vw_esc_bad (by omega) (by rintro ⟨_, h⟩; exact h hnil)))
                      have g1 : (s.size : Int) - 1 ≤ (k : Int) + 1 := by omega
                      clear h34 h92 hnil
                      go_wp2_with fail
                      all_goals first | (exfalso; omega) | (refine bodyPost_ret (v := vOV none) (by simp [results, Try.results21, go_sem, vOV]) rfl ⟨ret_tup HV.out, rfl⟩)
                  · have e92 : ((c.toNat : Int) == 92) = false := by simpa using h92
                    have HS := Lib.hid (HI.out.step (k' := k + 1) (c := c) (by rw [HD.out, HD3.out]; exact vw_else (by omega) (by omega)))
                    have hpc := ext1_bs s k hk'
                    rw [hck] at hpc
                    have hadd := fun wx => run_string_add_sum (P := Try.prog) (w := wx) O (s.extract k (k + 1)) (by rw [hpc]; have h1z : (bs [c]).size = 1 := rfl; omega)
                    have HPC := Lib.hid hpc
                    clear hpc h34 h92
                    go_wp2_with fail
                    all_goals first
                      | (exfalso; omega)
                      | (go_round
                         case rel => exact ⟨k + 1, acc ++ [c], by omega, by omega, by go_num, by rw [HPC.out, ← hO, bs_app], HS.out, by simp; omega⟩
                         case measure => simp [intOf]; omega)
            · have hke : k = s.size - 1 := by omega
              have hdl : (bl s).drop k = [cl] := by
                rw [hke, bl_drop hq, HCL.out.1, List.drop_eq_nil_of_le (by rw [bl_len]; omega)]
              have HV := Lib.hid (HI.out.done hdl (by have := HCL.out.2; omega))
              have hlti : ¬ (k : Int) < (s.size : Int) - 1 := by omega
              rw [hO] at HV
              clear hke hdl
              rw [hO]
              go_wp2_with fail
              all_goals first | (exfalso; omega) | (refine bodyPost_ret (v := .tuple #[.string O, .bool true]) (by simp [results, Try.results21, go_sem]) rfl ⟨ret_tup HV.out, rfl⟩)
        · have el : ((cl.toNat : Int) != 34) = true := by simpa using hl34
          have HR := Lib.hid (show vOV (vOf (bl s)) = vOV none by
            rw [hv, if_pos (by omega)]
            cases hw : vw ((bl s).drop 1) with
            | none => rfl
            | some v =>
              obtain ⟨c, h5, h6⟩ := vw_last _ _ hw
              have hl1 : ((bl s).drop 1).getLast? = some cl := by
                rw [← hlast, hdr]
                have hl := bl_len s
                rw [hdr] at hl
                simp only [List.drop_succ_cons, List.drop_zero]
                cases hz : (bl s).drop (0 + 1) with
                | nil => rw [hz] at hl; simp at hl; omega
                | cons x y => rw [List.getLast?_cons_cons]
              rw [hl1] at h5
              cases h5
              exact absurd (by omega) hl34)
          clear hbb hv hlast hdr h0 hl34
          go_enter Try.func21, Try.ntmps21
          go_wp2_with (go_at_call 39; refine (HB.out _).mono ?_; rintro e w9 ⟨rfl, rfl⟩)
          all_goals first | (exfalso; omega) | (refine bodyPost_ret (v := vOV none) (by simp [results, Try.results21, go_sem, vOV]) rfl ⟨ret_tup HR.out, rfl⟩)
      · have e0 : ((c0.toNat : Int) != 34) = true := by simpa using h0
        have HR := Lib.hid (show vOV (vOf (bl s)) = vOV none by rw [hv, if_neg (by omega)])
        clear hbb hv hlast hdr h0
        go_enter Try.func21, Try.ntmps21
        go_wp2_with (go_at_call 39; refine (HB.out _).mono ?_; rintro e w9 ⟨rfl, rfl⟩)
        all_goals first | (exfalso; omega) | (refine bodyPost_ret (v := vOV none) (by simp [results, Try.results21, go_sem, vOV]) rfl ⟨ret_tup HR.out, rfl⟩)
end Go.Proofs.Ytfmmpfoecjehiaa
