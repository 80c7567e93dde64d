/- DERIVED. asset.Decode64. No condition. -/
import Derived.Test.YtainjogdgoogfaaCodesR
import Derived.Lib.IndexLaws
namespace Go.Proofs.Ytainjogdgoogfaa
open Go.RowKit
set_option linter.unusedVariables false
set_option linter.unusedSimpArgs false
/-- The place of a digit; below 0: it is none. -/
def ix (c : UInt8) : Int := Lib.indexByte d64L c
def badD (c : UInt8) : Bool := decide (ix c < 0)
def dgt (c : UInt8) : Nat := (ix c).toNat
theorem ix_all : ∀ n, n < 256 → (ix (UInt8.ofNat n) < 0 ∨ ix (UInt8.ofNat n) < 64) ∧ -1 ≤ ix (UInt8.ofNat n) := by decide +kernel
theorem ix_lt (c : UInt8) : (ix c < 0 ∨ ix c < 64) ∧ -1 ≤ ix c := by
  have h := ix_all c.toNat c.toNat_lt
  rw [UInt8.ofNat_toNat] at h
  exact h
theorem good_ix {c : UInt8} (h : badD c = false) : ix c = (dgt c : Int) ∧ dgt c < 64 := by
  have h1 := of_decide_eq_false h
  have h2 := ix_lt c
  unfold dgt
  omega
def bits6 (s : List UInt8) : List Nat := s.flatMap fun c => bitsK 6 (dgt c)
theorem bits6_bits (s : List UInt8) : Bits (bits6 s) := fun x hx => by
  obtain ⟨c, _, hc⟩ := List.mem_flatMap.1 hx
  exact bitsK_bits 6 _ x hc
theorem bits6_len (s : List UInt8) : (bits6 s).length = 6 * s.length := by
  induction s with
  | nil => rfl
  | cons c r ih =>
    unfold bits6 at ih ⊢
    rw [List.flatMap_cons, List.length_append, ih, bitsK_len, List.length_cons]
    omega
theorem bits6_snoc (s : List UInt8) (c : UInt8) : bits6 (s ++ [c]) = bits6 s ++ bitsK 6 (dgt c) := by
  unfold bits6
  rw [List.flatMap_append]
  simp
def decL (s : List UInt8) : List UInt8 := (chs 8 (bits6 s)).map UInt8.ofNat
theorem decL_len (s : List UInt8) : (decL s).length = 6 * s.length / 8 := by
  unfold decL chs
  rw [List.length_map, List.length_map, List.length_range, bits6_len]
theorem rst8_len (s : List UInt8) : (rst 8 (bits6 s)).length = 6 * s.length % 8 := by rw [rst_len, bits6_len]
theorem rst8_lt (s : List UInt8) : valB (rst 8 (bits6 s)) < 2 ^ (6 * s.length % 8) := by
  have h := valB_lt ((bits6_bits s).drop (8 * ((bits6 s).length / 8)))
  have e := rst8_len s
  unfold rst at e ⊢
  rw [e] at h
  exact h
theorem dec_val {s : List UInt8} {c : UInt8} (hc : badD c = false) : valB (rst 8 (bits6 s) ++ bitsK 6 (dgt c)) = valB (rst 8 (bits6 s)) * 64 + dgt c := by
  rw [valB_app, bitsK_len, valB_bitsK, Nat.mod_eq_of_lt (good_ix hc).2]
theorem dec_step (s : List UInt8) (c : UInt8) : decL (s ++ [c]) = decL s ++ (chs 8 (rst 8 (bits6 s) ++ bitsK 6 (dgt c))).map UInt8.ofNat ∧ rst 8 (bits6 (s ++ [c])) = rst 8 (rst 8 (bits6 s) ++ bitsK 6 (dgt c)) := by
  unfold decL
  rw [bits6_snoc, chs_app (by decide), List.map_append]
  exact ⟨rfl, rst_app (by decide) _ _⟩
theorem dec_zero {s : List UInt8} {c : UInt8} (hc : badD c = false) (hm : 6 * s.length % 8 = 0) : decL (s ++ [c]) = decL s ∧ valB (rst 8 (bits6 (s ++ [c]))) = valB (rst 8 (bits6 s)) * 64 + dgt c := by
  obtain ⟨h1, h2⟩ := dec_step s c
  have hl : (rst 8 (bits6 s) ++ bitsK 6 (dgt c)).length < 8 := by rw [List.length_append, rst8_len, bitsK_len, hm]; omega
  obtain ⟨h3, h4⟩ := chs_small hl
  rw [h1, h2, h3, h4, dec_val hc]
  simp
theorem dec_one {s : List UInt8} {c : UInt8} {m : Nat} (hc : badD c = false) (hm : 6 * s.length % 8 = m) (h2 : 2 ≤ m) : decL (s ++ [c]) = decL s ++ [UInt8.ofNat ((valB (rst 8 (bits6 s)) * 64 + dgt c) / 2 ^ (m - 2))] ∧ valB (rst 8 (bits6 (s ++ [c]))) = (valB (rst 8 (bits6 s)) * 64 + dgt c) % 2 ^ (m - 2) := by
  obtain ⟨h1, h3⟩ := dec_step s c
  have hl : (rst 8 (bits6 s) ++ bitsK 6 (dgt c)).length = m + 6 := by rw [List.length_append, rst8_len, bitsK_len, hm]
  have hbb : Bits (rst 8 (bits6 s) ++ bitsK 6 (dgt c)) := ((bits6_bits s).drop _).app (bitsK_bits 6 _)
  obtain ⟨h4, h5⟩ := chs_one (n := 8) hbb (by omega) (by omega)
  rw [hl, dec_val hc, show m + 6 - 8 = m - 2 by omega] at h4 h5
  rw [h1, h3, h4, h5]
  exact ⟨rfl, rfl⟩
def decE (s : List UInt8) : Int := if 200000 < s.length then 4 else if s.length % 4 = 1 then 8 else if s.any badD = true then 8 else if valB (rst 8 (bits6 s)) = 0 then 0 else 8
def decV (s : ByteArray) : Value := if decE s.data.toList = 0 then .tuple #[.string ⟨(decL s.data.toList).toArray⟩, .int .i64 0] else .tuple #[.string ⟨#[]⟩, .int .i64 (decE s.data.toList)]
theorem decV_bad {s : ByteArray} {e : Int} (h : decE s.data.toList = e) (h0 : e ≠ 0) : decV s = .tuple #[.string ⟨#[]⟩, .int .i64 e] := by unfold decV; rw [if_neg (by rw [h]; exact h0), h]
theorem decV_ok {s : ByteArray} (h : decE s.data.toList = 0) : decV s = .tuple #[.string ⟨(decL s.data.toList).toArray⟩, .int .i64 0] := by unfold decV; rw [if_pos h]
theorem bad_hit {s : ByteArray} {k : Nat} (h : k < s.size) (hb : badD s[k] = true) : s.data.toList.any badD = true := by
  refine List.any_eq_true.2 ⟨s[k], ?_, hb⟩
  have : s[k] = s.data.toList[k]'(by simpa using h) := rfl
  rw [this]
  exact List.getElem_mem _
theorem bad_step {s : ByteArray} {k : Nat} (h : k < s.size) (h0 : (s.data.toList.take k).any badD = false) (hb : badD s[k] = false) : (s.data.toList.take (k + 1)).any badD = false := by
  rw [take_snocB h, List.any_append, h0]
  simp [hb]
theorem ofNat_val {Q : Nat} (h : Q < 256) : ((UInt8.ofNat Q).toNat : Int) = (Q : Int) := by
  rw [UInt8.toNat_ofNat_of_lt' (by simpa using h)]
theorem decL_nil : decL [] = [] := List.eq_nil_of_length_eq_zero (by rw [decL_len]; rfl)
theorem rst8_nil : valB (rst 8 (bits6 [])) = 0 := by
  have h := rst8_lt []
  simp at h
  exact h
theorem indexD_any (c : UInt8) (w : World) : Calls Try.prog 8 #[.string ⟨#[65, 66, 67, 68, 69, 70, 71, 72, 73, 74, 75, 76, 77, 78, 79, 80, 81, 82, 83, 84, 85, 86, 87, 88, 89, 90, 97, 98, 99, 100, 101, 102, 103, 104, 105, 106, 107, 108, 109, 110, 111, 112, 113, 114, 115, 116, 117, 118, 119, 120, 121, 122, 48, 49, 50, 51, 52, 53, 54, 55, 56, 57, 45, 95]⟩, .int .u8 (c.toNat : Int)] w fun e w' => e = .returned (.int .i64 (ix c)) ∧ w = w' := by
  refine (Try.strings_IndexByte _ _ w).mono fun e w' h => ⟨?_, h.2.symm⟩
  rw [h.1]
  have e1 : ((c.toNat : Int)).toNat.toUInt8 = c := by simp
  rw [e1]
  rfl
theorem wrapU8 {Q : Nat} (h : Q < 256) : IntKind.u8.wrap (Q : Int) = (Q : Int) := by rw [IntKind.wrap_u8]; omega
set_option maxRecDepth 100000 in
set_option maxHeartbeats 3200000 in
theorem decode_any (s : ByteArray) (w : World) : Calls Try.prog 6 #[.string s] w fun e w' => e = .returned (decV s) ∧ Below w.heap.size w w' := by
  have hsl : s.data.toList.length = s.size := Array.length_toList
  by_cases h : 200000 < s.size
  · have hi : (200000 : Int) < (s.size : Int) := by omega
    have HO := Lib.hid (decV_bad (s := s) (e := 4) (by unfold decE; rw [if_pos (by omega)]) (by decide))
    clear hsl
    go_enter Try.func6, Try.ntmps6
    go_wp2_with fail
    go_ret2
    exact ⟨by rw [HO.out]; rfl, Below.refl _ _⟩
  · have hi : ¬ (200000 : Int) < (s.size : Int) := by omega
    obtain ⟨r, hr⟩ : ∃ r, s.size % 4 = r := ⟨_, rfl⟩
    have hrem : (s.size : Int) % 4 = (r : Int) := by omega
    by_cases hr1 : r = 1
    · have HO := Lib.hid (decV_bad (s := s) (e := 8) (by unfold decE; rw [if_neg (by omega), if_pos (by omega)]) (by decide))
      subst hr1
      have hrem1 : (s.size : Int) % 4 = 1 := by omega
      clear hsl hrem hr
      go_enter Try.func6, Try.ntmps6
      go_wp2_with fail
      go_ret2
      exact ⟨by rw [HO.out]; rfl, Below.refl _ _⟩
    · have HE := Lib.hid (show decE s.data.toList = if s.data.toList.any badD = true then 8 else if valB (rst 8 (bits6 s.data.toList)) = 0 then 0 else 8 by unfold decE; rw [if_neg (by omega), if_neg (by omega)])
      have hrb : ((r : Int) == 1) = false := by have : ¬ (r : Int) = 1 := by omega
                                                simpa using this
      have HR := Lib.hid (And.intro hr hr1)
      obtain ⟨i0, hin, hz0, hz1, hz2⟩ := info_parts byteInfo
      have HSL := Lib.hid hsl
      clear hsl hr hr1
      go_enter Try.func6, Try.ntmps6
      go_wp2_with fail
      go_loopw [4, 5, 6, 18] (fun v b m i wr => ∃ (k V M O : Nat), k ≤ s.size ∧ i = .int .i64 k ∧ b = .int .i64 (V : Int) ∧ m = .int .i64 (M : Int) ∧ valB (rst 8 (bits6 (s.data.toList.take k))) = V ∧ 6 * k % 8 = M ∧ (decL (s.data.toList.take k)).length = O ∧ (s.data.toList.take k).any badD = false ∧ wr.ownsRow w.heap.size 5 1 v O (ubs (decL (s.data.toList.take k))) ∧ Below w.heap.size w wr) (fun _ _ _ i _ => s.size - (intOf i).toNat)
      case atStart => exact ⟨0, 0, 0, 0, Nat.zero_le _, rfl, rfl, rfl, by rw [List.take_zero]; exact rst8_nil, rfl, by rw [List.take_zero, decL_nil]; rfl, by rw [List.take_zero]; rfl, by rw [List.take_zero, decL_nil]; exact World.ownsRow_nil _ _ _ _, Below.refl _ _⟩
      case round =>
        obtain ⟨k, V, M, O, hk, rfl, rfl, rfl, hV, hM, hO, hnb, hown, hbw⟩ := hrel
        have hw := hbw.size
        have hOb : O ≤ 150001 := by rw [decL_len, take_lenB hk] at hO; omega
        have hVb : V < 2 ^ M := by rw [← hV, ← hM]; have h9 := rst8_lt (s.data.toList.take k); rw [take_lenB hk] at h9; exact h9
        obtain ⟨Av, cv, rfl⟩ := bslice_of_own hown
        have hM3 : M = 0 ∨ M = 2 ∨ M = 4 ∨ M = 6 := by omega
        by_cases hlt : k < s.size
        · obtain ⟨ch, hck⟩ : ∃ ch, s[k] = ch := ⟨_, rfl⟩
          have HT := Lib.hid (take_snocB (s := s) hlt)
          have HHIT := Lib.hid (bad_hit (s := s) hlt)
          have HST := Lib.hid (bad_step (s := s) hlt hnb)
          rw [hck] at HT HHIT HST
          have HIX := Lib.hid (fun wX => indexD_any ch wX)
          have HOW := Lib.hid hown
          have HBW := Lib.hid hbw
          have HV := Lib.hid hV
          have HM := Lib.hid (show 6 * (s.data.toList.take k).length % 8 = M by rw [take_lenB hk]; exact hM)
          have HOL := Lib.hid hO
          clear hown hbw hV hO hnb
          cases hbd : badD ch with
          | true =>
            have hneg : ix ch < 0 := of_decide_eq_true hbd
            have HO := Lib.hid (decV_bad (s := s) (e := 8) (HE.out.trans (if_pos (HHIT.out hbd))) (by decide))
            generalize ix ch = y at HIX hneg
            clear hbd hM3
            go_wp2_with fail
            refine (HIX.out _).mono ?_
            rintro e w2 ⟨rfl, rfl⟩
            go_wp2_with fail
            go_ret2
            exact ⟨by rw [HO.out]; rfl, HBW.out⟩
          | false =>
            obtain ⟨hix, hd64⟩ := good_ix hbd
            have HNB := Lib.hid (HST.out hbd)
            have HBD := Lib.hid hbd
            rw [hix] at HIX
            obtain ⟨D, hD⟩ : ∃ D, dgt ch = D := ⟨_, rfl⟩
            rw [hD] at HIX hd64
            have HD := Lib.hid hD
            have hdn : ¬ (D : Int) < 0 := by omega
            clear hbd hix hD
            rcases hM3 with rfl | rfl | rfl | rfl
            · obtain ⟨X, hX⟩ : ∃ X, V * 64 + D = X := ⟨_, rfl⟩
              have hVb2 : V < 1 := hVb
              have hX9 : X < 1048576 := by rw [← hX]; omega
              have hor := or6 (V := V) (b := D) (by omega) hd64 hX
              have HS := Lib.hid (dec_zero (s := s.data.toList.take k) (c := ch) HBD.out HM.out)
              rw [HV.out, HD.out, hX, ← HT.out] at HS
              clear hVb hX
              go_wp2_with fail
              refine (HIX.out _).mono ?_
              rintro e w2 ⟨rfl, rfl⟩
              go_wp2_with fail
              go_roundw
              case rel => exact ⟨k + 1, X, 6, O, by omega, by go_num, by first | rfl | go_num, by first | rfl | go_num, HS.out.2, by omega, by rw [HS.out.1, HOL.out], HNB.out, by rw [HS.out.1]; exact HOW.out, HBW.out⟩
              case measure => simp [intOf]; omega
            · obtain ⟨X, hX⟩ : ∃ X, V * 64 + D = X := ⟨_, rfl⟩
              have hVb2 : V < 4 := hVb
              have hX9 : X < 1048576 := by rw [← hX]; omega
              have hor := or6 (V := V) (b := D) (by omega) hd64 hX
              have hand := and0 hX9
              obtain ⟨Q, hQ⟩ : ∃ Q, X / 1 = Q := ⟨_, rfl⟩
              have hdv : (X : Int) / 1 = (Q : Int) := by omega
              have hQ256 : Q < 256 := by rw [← hQ, ← hX]; omega
              have hwu := wrapU8 hQ256
              have hQX : Q = X := by omega
              subst hQX
              have HS := Lib.hid (dec_one (s := s.data.toList.take k) (c := ch) HBD.out HM.out (by decide))
              rw [HV.out, HD.out, hX, ← HT.out] at HS
              have HN := Lib.hid (show decL (s.data.toList.take (k + 1)) = decL (s.data.toList.take k) ++ [UInt8.ofNat Q] by rw [HS.out.1]; show _ ++ [UInt8.ofNat (_ / 1)] = _; rw [hQ])
              have HR2 := Lib.hid (show valB (rst 8 (bits6 (s.data.toList.take (k + 1)))) = Q % 1 from HS.out.2)
              have HUB := Lib.hid (show ubs [UInt8.ofNat Q] = [.int .u8 (Q : Int)] by unfold ubs; rw [List.map_cons, List.map_nil, ofNat_val hQ256])
              have HNW := Lib.hid (World.news_of_block (heap_alloc_new wr (.cells #[.int .u8 (Q : Int)] 5)))
              clear hVb hX hQ HS
              go_wp2_with fail
              refine (HIX.out _).mono ?_
              rintro e w2 ⟨rfl, rfl⟩
              go_wp2_with (at_builtin; go_loud (refine wpList_append_lies _ rfl _ _ 28 rfl w.heap.size 5 i0 _ 1 1 Try.underlying28 hin hz0 hz1 hz2 rfl (by decide) (.slice Av O cv) O (ubs (decL (s.data.toList.take k))) rfl (HOW.out.alloc _) ⟨wr.heap.size, 0, none⟩ 1 1 [.int .u8 (Q : Int)] rfl rfl HNW.out (by simp [Value.oneCell']) (by omega) (by unfold maxLen; omega) (by omega) (by simp; omega) (wr.heap.size + 1) (by simp) ?_; intro gg cap2 w7 hown7 hgrow7 hat7 hlt7))
              have hb7 : Below w.heap.size w w7 := (HBW.out.alloc hw _).grown hgrow7 (by simp; omega) (fun q hq => (HOW.out.lt q hq).1)
              go_roundw
              case rel => exact ⟨k + 1, 0, 0, O + 1, by omega, by go_num, by first | rfl | go_num, by first | rfl | go_num, by rw [HR2.out]; omega, by omega, by rw [HN.out, List.length_append, HOL.out]; rfl, HNB.out, by rw [HN.out, ubs_app, HUB.out]; exact hown7, hb7⟩
              case measure => simp [intOf]; omega
            · obtain ⟨X, hX⟩ : ∃ X, V * 64 + D = X := ⟨_, rfl⟩
              have hVb2 : V < 16 := hVb
              have hX9 : X < 1048576 := by rw [← hX]; omega
              have hor := or6 (V := V) (b := D) (by omega) hd64 hX
              have hand := and3 hX9
              obtain ⟨Q, hQ⟩ : ∃ Q, X / 4 = Q := ⟨_, rfl⟩
              have hdv : (X : Int) / 4 = (Q : Int) := by omega
              have hQ256 : Q < 256 := by rw [← hQ, ← hX]; omega
              have hwu := wrapU8 hQ256
              have HS := Lib.hid (dec_one (s := s.data.toList.take k) (c := ch) HBD.out HM.out (by decide))
              rw [HV.out, HD.out, hX, ← HT.out] at HS
              have HN := Lib.hid (show decL (s.data.toList.take (k + 1)) = decL (s.data.toList.take k) ++ [UInt8.ofNat Q] by rw [HS.out.1]; show _ ++ [UInt8.ofNat (_ / 4)] = _; rw [hQ])
              have HR2 := Lib.hid (show valB (rst 8 (bits6 (s.data.toList.take (k + 1)))) = X % 4 from HS.out.2)
              have HUB := Lib.hid (show ubs [UInt8.ofNat Q] = [.int .u8 (Q : Int)] by unfold ubs; rw [List.map_cons, List.map_nil, ofNat_val hQ256])
              have HNW := Lib.hid (World.news_of_block (heap_alloc_new wr (.cells #[.int .u8 (Q : Int)] 5)))
              clear hVb hX hQ HS
              go_wp2_with fail
              refine (HIX.out _).mono ?_
              rintro e w2 ⟨rfl, rfl⟩
              go_wp2_with (at_builtin; go_loud (refine wpList_append_lies _ rfl _ _ 28 rfl w.heap.size 5 i0 _ 1 1 Try.underlying28 hin hz0 hz1 hz2 rfl (by decide) (.slice Av O cv) O (ubs (decL (s.data.toList.take k))) rfl (HOW.out.alloc _) ⟨wr.heap.size, 0, none⟩ 1 1 [.int .u8 (Q : Int)] rfl rfl HNW.out (by simp [Value.oneCell']) (by omega) (by unfold maxLen; omega) (by omega) (by simp; omega) (wr.heap.size + 1) (by simp) ?_; intro gg cap2 w7 hown7 hgrow7 hat7 hlt7))
              have hb7 : Below w.heap.size w w7 := (HBW.out.alloc hw _).grown hgrow7 (by simp; omega) (fun q hq => (HOW.out.lt q hq).1)
              go_roundw
              case rel => exact ⟨k + 1, X % 4, 2, O + 1, by omega, by go_num, by first | rfl | go_num, by first | rfl | go_num, by rw [HR2.out], by omega, by rw [HN.out, List.length_append, HOL.out]; rfl, HNB.out, by rw [HN.out, ubs_app, HUB.out]; exact hown7, hb7⟩
              case measure => simp [intOf]; omega
            · obtain ⟨X, hX⟩ : ∃ X, V * 64 + D = X := ⟨_, rfl⟩
              have hVb2 : V < 64 := hVb
              have hX9 : X < 1048576 := by rw [← hX]; omega
              have hor := or6 (V := V) (b := D) (by omega) hd64 hX
              have hand := and15 hX9
              obtain ⟨Q, hQ⟩ : ∃ Q, X / 16 = Q := ⟨_, rfl⟩
              have hdv : (X : Int) / 16 = (Q : Int) := by omega
              have hQ256 : Q < 256 := by rw [← hQ, ← hX]; omega
              have hwu := wrapU8 hQ256
              have HS := Lib.hid (dec_one (s := s.data.toList.take k) (c := ch) HBD.out HM.out (by decide))
              rw [HV.out, HD.out, hX, ← HT.out] at HS
              have HN := Lib.hid (show decL (s.data.toList.take (k + 1)) = decL (s.data.toList.take k) ++ [UInt8.ofNat Q] by rw [HS.out.1]; show _ ++ [UInt8.ofNat (_ / 16)] = _; rw [hQ])
              have HR2 := Lib.hid (show valB (rst 8 (bits6 (s.data.toList.take (k + 1)))) = X % 16 from HS.out.2)
              have HUB := Lib.hid (show ubs [UInt8.ofNat Q] = [.int .u8 (Q : Int)] by unfold ubs; rw [List.map_cons, List.map_nil, ofNat_val hQ256])
              have HNW := Lib.hid (World.news_of_block (heap_alloc_new wr (.cells #[.int .u8 (Q : Int)] 5)))
              clear hVb hX hQ HS
              go_wp2_with fail
              refine (HIX.out _).mono ?_
              rintro e w2 ⟨rfl, rfl⟩
              go_wp2_with (at_builtin; go_loud (refine wpList_append_lies _ rfl _ _ 28 rfl w.heap.size 5 i0 _ 1 1 Try.underlying28 hin hz0 hz1 hz2 rfl (by decide) (.slice Av O cv) O (ubs (decL (s.data.toList.take k))) rfl (HOW.out.alloc _) ⟨wr.heap.size, 0, none⟩ 1 1 [.int .u8 (Q : Int)] rfl rfl HNW.out (by simp [Value.oneCell']) (by omega) (by unfold maxLen; omega) (by omega) (by simp; omega) (wr.heap.size + 1) (by simp) ?_; intro gg cap2 w7 hown7 hgrow7 hat7 hlt7))
              have hb7 : Below w.heap.size w w7 := (HBW.out.alloc hw _).grown hgrow7 (by simp; omega) (fun q hq => (HOW.out.lt q hq).1)
              go_roundw
              case rel => exact ⟨k + 1, X % 16, 4, O + 1, by omega, by go_num, by first | rfl | go_num, by first | rfl | go_num, by rw [HR2.out], by omega, by rw [HN.out, List.length_append, HOL.out]; rfl, HNB.out, by rw [HN.out, ubs_app, HUB.out]; exact hown7, hb7⟩
              case measure => simp [intOf]; omega
        · obtain rfl : k = s.size := by omega
          have hall : s.data.toList.take s.size = s.data.toList := List.take_of_length_le (by rw [Array.length_toList]; exact Nat.le_refl _)
          rw [hall] at hV hO hown hnb
          have HE2 := Lib.hid (HE.out.trans (if_neg (by rw [hnb]; decide)))
          rw [hV] at HE2
          have HOL := Lib.hid hO
          have HBW := Lib.hid hbw
          have hcv := conv_own hown HOL.out
          clear hown hbw hall hV hO hnb hM hM3 hVb
          by_cases hV0 : V = 0
          · have HO := Lib.hid (decV_ok (HE2.out.trans (if_pos hV0)))
            subst hV0
            go_wp2_with fail
            go_ret2
            exact ⟨by rw [HO.out]; rfl, HBW.out⟩
          · have HO := Lib.hid (decV_bad (s := s) (e := 8) (HE2.out.trans (if_neg hV0)) (by decide))
            have hVb : ((V : Int) == 0) = false := by have : ¬ (V : Int) = 0 := by omega
                                                      simpa using this
            clear hcv
            go_wp2_with fail
            go_ret2
            exact ⟨by rw [HO.out]; rfl, HBW.out⟩
end Go.Proofs.Ytainjogdgoogfaa
