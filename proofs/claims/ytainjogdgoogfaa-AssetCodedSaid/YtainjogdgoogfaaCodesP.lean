/- DERIVED. asset.Encode64. No condition. -/
import Derived.Test.YtainjogdgoogfaaCodesPlain
import Derived.Test.YtainjogdgoogfaaRows
import Derived.Test.YtainjogdgoogfaaShelf
import Derived.WalkKit
import Derived.WalkSpells
import Derived.WalkLawsBesides
import Derived.WalkSmall
import Derived.Laws.Rows
import Derived.Laws.BitsLemmas
import Derived.Laws.IdiomStrings
import Derived.Deep.AppendLies
import Derived.OwnWalk
namespace Go.Proofs.Ytainjogdgoogfaa
open Go.RowKit
set_option linter.unusedVariables false
set_option linter.unusedSimpArgs false
def ubs (l : List UInt8) : List Value := l.map fun c => .int .u8 (c.toNat : Int)
theorem byteInfo : (Try.prog.info? 5).map (fun i => (i.zero, i.size, i.bytes)) = some (some (.int .u8 0), 1, 1) := by kernel_rfl
def encV (s : ByteArray) : Value := if 20000 < s.size then .tuple #[.string ⟨#[]⟩, .int .i64 4] else .tuple #[.string ⟨(encO s.data.toList).toArray⟩, .int .i64 0]
theorem take_snocB {s : ByteArray} {k : Nat} (hk : k < s.size) : s.data.toList.take (k + 1) = s.data.toList.take k ++ [s[k]] := by
  rw [List.take_succ_eq_append_getElem (by simpa using hk)]; rfl
theorem take_lenB {s : ByteArray} {k : Nat} (hk : k ≤ s.size) : (s.data.toList.take k).length = k := by
  have : s.data.toList.length = s.size := Array.length_toList
  rw [List.length_take]; omega
theorem wraps63 (n : Int) (h0 : 0 ≤ n) (h1 : n < 2 ^ 62) : IntKind.i64.wrap n = n := by rw [IntKind.wrap_i64]; omega
theorem or_join {V b X : Nat} (j : Nat) (hj : j ≤ 8) (hV : V < 1048576) (hb : b < 2 ^ j) (hX : V * 2 ^ j + b = X) : bits .or .i64 (((V * 2 ^ j : Nat) : Int)) (b : Int) = (X : Int) := by
  have hp : (2 : Nat) ^ j ≤ 2 ^ 8 := Nat.pow_le_pow_right (by decide) hj
  have hp2 : V * 2 ^ j ≤ 1048576 * 256 := Nat.mul_le_mul (by omega) hp
  have h := bits_join .i64 62 (by decide) wraps63 j ((V * 2 ^ j : Nat) : Int) (b : Int) (Int.natCast_nonneg _) (by
    have : (V * 2 ^ j) % 2 ^ j = 0 := Nat.mul_mod_left _ _
    exact_mod_cast this) (by have : (V * 2 ^ j) < 2 ^ 62 := by omega
                             exact_mod_cast this) (Int.natCast_nonneg _) (by exact_mod_cast hb) (by have : b < 2 ^ 62 := by omega
                                                                                                    exact_mod_cast this)
  rw [h, ← hX]
  exact (Int.natCast_add _ _).symm
theorem or8 {V b X : Nat} (hV : V < 1048576) (hb : b < 256) (hX : V * 256 + b = X) : bits .or .i64 ((V : Int) * 256) (b : Int) = (X : Int) := by
  have h := or_join (V := V) (b := b) (X := X) 8 (by decide) hV hb hX
  rw [← h]
  congr 1
theorem or6 {V b X : Nat} (hV : V < 1048576) (hb : b < 64) (hX : V * 64 + b = X) : bits .or .i64 ((V : Int) * 64) (b : Int) = (X : Int) := by
  have h := or_join (V := V) (b := b) (X := X) 6 (by decide) hV hb hX
  rw [← h]
  congr 1
theorem and_mod {X : Nat} (j : Nat) (hj : j ≤ 20) (hX : X < 4611686018427387904) : bits .and .i64 (X : Int) (2 ^ j - 1) = ((X % 2 ^ j : Nat) : Int) := by
  have h := bits_mask .i64 62 (by decide) wraps63 j (by omega) (X : Int) (Int.natCast_nonneg _) (by exact_mod_cast hX)
  rw [h]
  simp
theorem and3 {X : Nat} (hX : X < 1048576) : bits .and .i64 (X : Int) 3 = ((X % 4 : Nat) : Int) := and_mod (X := X) 2 (by decide) (by omega)
theorem and15 {X : Nat} (hX : X < 1048576) : bits .and .i64 (X : Int) 15 = ((X % 16 : Nat) : Int) := and_mod (X := X) 4 (by decide) (by omega)
theorem and63 {X : Nat} (hX : X < 1048576) : bits .and .i64 (X : Int) 63 = ((X % 64 : Nat) : Int) := and_mod (X := X) 6 (by decide) (by omega)
theorem and0 {X : Nat} (hX : X < 1048576) : bits .and .i64 (X : Int) 0 = 0 := by
  have h := and_mod (X := X) 0 (by decide) (by omega)
  rw [Nat.pow_zero, Nat.mod_one] at h
  exact h
theorem encL_nil : encL [] = [] := List.eq_nil_of_length_eq_zero (by rw [encL_len]; rfl)
theorem rst_nil : valB (rst 6 (bitsOf [])) = 0 := by
  have h := rst_lt []
  simp at h
  exact h
theorem ubs_app (a b : List UInt8) : ubs (a ++ b) = ubs a ++ ubs b := by unfold ubs; rw [List.map_append]
theorem bslice_of_own {w : World} {base : Nat} {e : TypeId} {size : Nat} {v : Value} {n : Nat} {xs : List Value} (h : w.ownsRow base e size v n xs) : ∃ A c, v = .slice A n c := by
  rcases h.2 with ⟨rfl, rfl⟩ | ⟨g, cap, cur, rfl, _⟩
  · exact ⟨_, _, rfl⟩
  · exact ⟨_, _, rfl⟩
theorem conv_own {w : World} {base n : Nat} {A : Option Addr} {c : Nat} {L : List UInt8} (h : w.ownsRow base 5 1 (.slice A n c) n (ubs L)) (hl : L.length = n) : (convert 28 9 (.slice A n c)).run Try.prog w = .ok (.string ⟨L.toArray⟩) w := by
  by_cases h0 : n = 0
  · have hL : L = [] := List.eq_nil_of_length_eq_zero (by omega)
    subst h0
    subst hL
    cases A with
    | none => exact run_convert_bytes_nil w 28 5 Try.underlying28 Try.underlying5 0 c 9 Try.underlying9
    | some a => exact run_convert_bytes_back (P := Try.prog) w 28 9 5 a c [] Try.underlying28 Try.underlying5 Try.underlying9 (fun j hj => absurd hj (by simp))
  · obtain ⟨g, cap, hv, hg1, hg2⟩ := h.form (by omega)
    cases hv
    have hback := run_convert_bytes_back (P := Try.prog) w 28 9 5 ⟨g, 0, none⟩ c L Try.underlying28 Try.underlying5 Try.underlying9 (fun j hj => by
      have e : (⟨g, 0, none⟩ : Addr).add j = ⟨g, j, none⟩ := by unfold Addr.add; split <;> simp_all
      rw [e, h.cellAt j (by omega)]
      unfold ubs
      rw [List.getElem?_map, List.getElem?_eq_getElem hj]
      rfl)
    rw [hl] at hback
    exact hback
set_option maxRecDepth 100000 in
set_option maxHeartbeats 1600000 in
theorem encode_any (s : ByteArray) (w : World) : Calls Try.prog 5 #[.string s] w fun e w' => e = .returned (encV s) ∧ Below w.heap.size w w' := by
  by_cases h : 20000 < s.size
  · have hi : (20000 : Int) < (s.size : Int) := by omega
    have HO := Lib.hid (show encV s = .tuple #[.string ⟨#[]⟩, .int .i64 4] by unfold encV; rw [if_pos h])
    go_enter Try.func5, Try.ntmps5
    go_wp2_with fail
    go_ret2
    exact ⟨by rw [HO.out]; rfl, Below.refl _ _⟩
  · have hi : ¬ (20000 : Int) < (s.size : Int) := by omega
    have HO := Lib.hid (show encV s = .tuple #[.string ⟨(encO s.data.toList).toArray⟩, .int .i64 0] by unfold encV; rw [if_neg h])
    obtain ⟨i0, hin, hz0, hz1, hz2⟩ := info_parts byteInfo
    go_enter Try.func5, Try.ntmps5
    go_wp2_with fail
    go_loopw [4, 5, 6, 13] (fun v b m i wr => ∃ (k V M O : Nat), k ≤ s.size ∧ i = .int .i64 k ∧ b = .int .i64 (V : Int) ∧ m = .int .i64 (M : Int) ∧ valB (rst 6 (bitsOf (s.data.toList.take k))) = V ∧ 8 * k % 6 = M ∧ (encL (s.data.toList.take k)).length = O ∧ wr.ownsRow w.heap.size 5 1 v O (ubs (encL (s.data.toList.take k))) ∧ Below w.heap.size w wr) (fun _ _ _ i _ => s.size - (intOf i).toNat)
    case atStart => exact ⟨0, 0, 0, 0, Nat.zero_le _, rfl, rfl, rfl, by rw [List.take_zero]; exact rst_nil, rfl, by rw [List.take_zero, encL_nil]; rfl, by rw [List.take_zero, encL_nil]; exact World.ownsRow_nil _ _ _ _, Below.refl _ _⟩
    case round =>
      obtain ⟨k, V, M, O, hk, rfl, rfl, rfl, hV, hM, hO, hown, hbw⟩ := hrel
      have hw := hbw.size
      have hOb : O ≤ 26667 := by rw [encL_len, take_lenB hk] at hO; omega
      have hVb : V < 2 ^ M := by rw [← hV, ← hM]; have h9 := rst_lt (s.data.toList.take k); rw [take_lenB hk] at h9; exact h9
      obtain ⟨Av, cv, rfl⟩ := bslice_of_own hown
      by_cases hlt : k < s.size
      · obtain ⟨ch, hck⟩ : ∃ ch, s[k] = ch := ⟨_, rfl⟩
        have hch := ch.toNat_lt
        have hM3 : M = 0 ∨ M = 2 ∨ M = 4 := by omega
        have HT := Lib.hid (take_snocB (s := s) hlt)
        rw [hck] at HT
        have HOW := Lib.hid hown
        have HBW := Lib.hid hbw
        have HV := Lib.hid hV
        have HM := Lib.hid (show 8 * (s.data.toList.take k).length % 6 = M by rw [take_lenB hk]; exact hM)
        have HOL := Lib.hid hO
        clear hown hbw hV hO
        rcases hM3 with rfl | rfl | rfl
        · obtain ⟨X, hX⟩ : ∃ X, V * 256 + ch.toNat = X := ⟨_, rfl⟩
          have hVb2 : V < 1 := hVb
          have hX9 : X < 1048576 := by rw [← hX]; omega
          have hor := or8 (V := V) (b := ch.toNat) (by omega) hch hX
          have hand := and3 hX9
          obtain ⟨Q, hQ⟩ : ∃ Q, X / 4 = Q := ⟨_, rfl⟩
          have hdv : (X : Int) / 4 = (Q : Int) := by omega
          have hQ64 : Q < 64 := by rw [← hQ, ← hX]; omega
          have hdig := dig_at Q hQ64
          obtain ⟨dd, hdd⟩ : ∃ dd, dig Q = dd := ⟨_, rfl⟩
          rw [hdd] at hdig
          have HS := Lib.hid (enc_one (s := s.data.toList.take k) (c := ch) HM.out (by decide))
          rw [HV.out, hX, ← HT.out] at HS
          have HN := Lib.hid (show encL (s.data.toList.take (k + 1)) = encL (s.data.toList.take k) ++ [dd] by rw [HS.out.1]; show _ ++ [dig (X / 4)] = _; rw [hQ, hdd])
          have HR := Lib.hid (show valB (rst 6 (bitsOf (s.data.toList.take (k + 1)))) = X % 4 from HS.out.2)
          have HNW := Lib.hid (World.news_of_block (heap_alloc_new wr (.cells #[.int .u8 (dd.toNat : Int)] 5)))
          clear hVb hX hQ hdd HS
          go_wp2_with fail
          refine wp_loop_rounds 3 ?_
          rw [rounds_succ]
          go_wp2_with (at_builtin; go_loud (refine wpList_append_lies _ rfl _ _ 28 rfl w.heap.size 5 i0 _ 1 1 Try.underlying28 hin hz0 hz1 hz2 rfl (by decide) (.slice Av O cv) O (ubs (encL (s.data.toList.take k))) rfl (HOW.out.alloc _) ⟨wr.heap.size, 0, none⟩ 1 1 [.int .u8 (dd.toNat : Int)] rfl rfl HNW.out (by simp [Value.oneCell']) (by omega) (by unfold maxLen; omega) (by omega) (by simp; omega) (wr.heap.size + 1) (by simp) ?_; intro gg cap2 w7 hown7 hgrow7 hat7 hlt7))
          have hb7 : Below w.heap.size w w7 := (HBW.out.alloc hw _).grown hgrow7 (by simp; omega) (fun q hq => (HOW.out.lt q hq).1)
          have HO7 := Lib.hid hown7
          have HB7 := Lib.hid hb7
          clear hown7 hgrow7 hat7 hlt7 hb7
          rw [rounds_succ]
          go_wp2_with fail
          go_roundw
          case rel => exact ⟨k + 1, X % 4, 2, O + 1, by omega, by go_num, by first | rfl | go_num, by first | rfl | go_num, HR.out, by omega, by rw [HN.out, List.length_append, HOL.out]; rfl, by rw [HN.out, ubs_app]; exact HO7.out, HB7.out⟩
          case measure => simp [intOf]; omega
        · obtain ⟨X, hX⟩ : ∃ X, V * 256 + ch.toNat = X := ⟨_, rfl⟩
          have hVb2 : V < 4 := hVb
          have hX9 : X < 1048576 := by rw [← hX]; omega
          have hor := or8 (V := V) (b := ch.toNat) (by omega) hch hX
          have hand := and15 hX9
          obtain ⟨Q, hQ⟩ : ∃ Q, X / 16 = Q := ⟨_, rfl⟩
          have hdv : (X : Int) / 16 = (Q : Int) := by omega
          have hQ64 : Q < 64 := by rw [← hQ, ← hX]; omega
          have hdig := dig_at Q hQ64
          obtain ⟨dd, hdd⟩ : ∃ dd, dig Q = dd := ⟨_, rfl⟩
          rw [hdd] at hdig
          have HS := Lib.hid (enc_one (s := s.data.toList.take k) (c := ch) HM.out (by decide))
          rw [HV.out, hX, ← HT.out] at HS
          have HN := Lib.hid (show encL (s.data.toList.take (k + 1)) = encL (s.data.toList.take k) ++ [dd] by rw [HS.out.1]; show _ ++ [dig (X / 16)] = _; rw [hQ, hdd])
          have HR := Lib.hid (show valB (rst 6 (bitsOf (s.data.toList.take (k + 1)))) = X % 16 from HS.out.2)
          have HNW := Lib.hid (World.news_of_block (heap_alloc_new wr (.cells #[.int .u8 (dd.toNat : Int)] 5)))
          clear hVb hX hQ hdd HS
          go_wp2_with fail
          refine wp_loop_rounds 3 ?_
          rw [rounds_succ]
          go_wp2_with (at_builtin; go_loud (refine wpList_append_lies _ rfl _ _ 28 rfl w.heap.size 5 i0 _ 1 1 Try.underlying28 hin hz0 hz1 hz2 rfl (by decide) (.slice Av O cv) O (ubs (encL (s.data.toList.take k))) rfl (HOW.out.alloc _) ⟨wr.heap.size, 0, none⟩ 1 1 [.int .u8 (dd.toNat : Int)] rfl rfl HNW.out (by simp [Value.oneCell']) (by omega) (by unfold maxLen; omega) (by omega) (by simp; omega) (wr.heap.size + 1) (by simp) ?_; intro gg cap2 w7 hown7 hgrow7 hat7 hlt7))
          have hb7 : Below w.heap.size w w7 := (HBW.out.alloc hw _).grown hgrow7 (by simp; omega) (fun q hq => (HOW.out.lt q hq).1)
          have HO7 := Lib.hid hown7
          have HB7 := Lib.hid hb7
          clear hown7 hgrow7 hat7 hlt7 hb7
          rw [rounds_succ]
          go_wp2_with fail
          go_roundw
          case rel => exact ⟨k + 1, X % 16, 4, O + 1, by omega, by go_num, by first | rfl | go_num, by first | rfl | go_num, HR.out, by omega, by rw [HN.out, List.length_append, HOL.out]; rfl, by rw [HN.out, ubs_app]; exact HO7.out, HB7.out⟩
          case measure => simp [intOf]; omega
        · obtain ⟨X, hX⟩ : ∃ X, V * 256 + ch.toNat = X := ⟨_, rfl⟩
          have hVb2 : V < 16 := hVb
          have hX9 : X < 1048576 := by rw [← hX]; omega
          have hor := or8 (V := V) (b := ch.toNat) (by omega) hch hX
          have hand := and63 hX9
          obtain ⟨Q, hQ⟩ : ∃ Q, X / 64 = Q := ⟨_, rfl⟩
          obtain ⟨Y, hY⟩ : ∃ Y, X % 64 = Y := ⟨_, rfl⟩
          have hdv : (X : Int) / 64 = (Q : Int) := by omega
          have hQ64 : Q < 64 := by rw [← hQ, ← hX]; omega
          have hY64 : Y < 64 := by rw [← hY]; omega
          rw [hY] at hand
          have hdv2 : (Y : Int) / 1 = (Y : Int) := by omega
          have hand2 := and0 (X := Y) (by omega)
          have hdig := dig_at Q hQ64
          have hdig2 := dig_at Y hY64
          obtain ⟨dd, hdd⟩ : ∃ dd, dig Q = dd := ⟨_, rfl⟩
          obtain ⟨ee, hee⟩ : ∃ ee, dig Y = ee := ⟨_, rfl⟩
          rw [hdd] at hdig
          rw [hee] at hdig2
          have HS := Lib.hid (enc_two (s := s.data.toList.take k) (c := ch) HM.out)
          rw [HV.out, hX, ← HT.out] at HS
          have HN := Lib.hid (show encL (s.data.toList.take (k + 1)) = encL (s.data.toList.take k) ++ [dd] ++ [ee] by rw [HS.out.1, hQ, hY, hdd, hee]; simp)
          have HR := Lib.hid (show valB (rst 6 (bitsOf (s.data.toList.take (k + 1)))) = 0 from HS.out.2)
          have HNW := Lib.hid (World.news_of_block (heap_alloc_new wr (.cells #[.int .u8 (dd.toNat : Int)] 5)))
          clear hVb hX hQ hY hdd hee HS
          go_wp2_with fail
          refine wp_loop_rounds 4 ?_
          rw [rounds_succ]
          go_wp2_with (at_builtin; go_loud (refine wpList_append_lies _ rfl _ _ 28 rfl w.heap.size 5 i0 _ 1 1 Try.underlying28 hin hz0 hz1 hz2 rfl (by decide) (.slice Av O cv) O (ubs (encL (s.data.toList.take k))) rfl (HOW.out.alloc _) ⟨wr.heap.size, 0, none⟩ 1 1 [.int .u8 (dd.toNat : Int)] rfl rfl HNW.out (by simp [Value.oneCell']) (by omega) (by unfold maxLen; omega) (by omega) (by simp; omega) (wr.heap.size + 1) (by simp) ?_; intro gg cap2 w7 hown7 hgrow7 hat7 hlt7))
          have hb7 : Below w.heap.size w w7 := (HBW.out.alloc hw _).grown hgrow7 (by simp; omega) (fun q hq => (HOW.out.lt q hq).1)
          have hown8 : w7.ownsRow w.heap.size 5 1 (.slice (some ⟨gg, 0, none⟩) (O + 1) cap2) (O + 1) (ubs (encL (s.data.toList.take k) ++ [dd])) := by rw [ubs_app]; exact hown7
          have hw7 := hb7.size
          have HO7 := Lib.hid hown8
          have HB7 := Lib.hid hb7
          have HNW7 := Lib.hid (World.news_of_block (heap_alloc_new w7 (.cells #[.int .u8 (ee.toNat : Int)] 5)))
          clear hown7 hgrow7 hat7 hlt7 hb7 hown8
          rw [rounds_succ]
          go_wp2_with (at_builtin; go_loud (refine wpList_append_lies _ rfl _ _ 28 rfl w.heap.size 5 i0 _ 1 1 Try.underlying28 hin hz0 hz1 hz2 rfl (by decide) (.slice (some ⟨gg, 0, none⟩) (O + 1) cap2) (O + 1) (ubs (encL (s.data.toList.take k) ++ [dd])) rfl (HO7.out.alloc _) ⟨w7.heap.size, 0, none⟩ 1 1 [.int .u8 (ee.toNat : Int)] rfl rfl HNW7.out (by simp [Value.oneCell']) (by omega) (by unfold maxLen; omega) (by omega) (by simp; omega) (w7.heap.size + 1) (by simp) ?_; intro gg9 cap9 w9 hown9 hgrow9 hat9 hlt9))
          have hb9 : Below w.heap.size w w9 := (HB7.out.alloc hw7 _).grown hgrow9 (by simp; omega) (fun q hq => (HO7.out.lt q hq).1)
          have HO9 := Lib.hid hown9
          have HB9 := Lib.hid hb9
          clear hown9 hgrow9 hat9 hlt9 hb9
          rw [rounds_succ]
          go_wp2_with fail
          go_roundw
          case rel => exact ⟨k + 1, 0, 0, O + 1 + 1, by omega, by go_num, by first | rfl | go_num, by first | rfl | go_num, HR.out, by omega, by rw [HN.out, List.length_append, List.length_append, HOL.out]; rfl, by rw [HN.out, ubs_app]; exact HO9.out, HB9.out⟩
          case measure => simp [intOf]; omega
      · obtain rfl : k = s.size := by omega
        have hall : s.data.toList.take s.size = s.data.toList := List.take_of_length_le (by rw [Array.length_toList]; exact Nat.le_refl _)
        have hsl : s.data.toList.length = s.size := Array.length_toList
        rw [hall] at hV hO hown
        have hM3 : M = 0 ∨ M = 2 ∨ M = 4 := by omega
        have HBW := Lib.hid hbw
        have HOL := Lib.hid hO
        rcases hM3 with rfl | rfl | rfl
        · have hcv := conv_own hown HOL.out
          have HE := Lib.hid (show encO s.data.toList = encL s.data.toList by unfold encO; rw [hsl, if_pos hM, List.append_nil])
          clear hown hbw hall hsl hV hO hM hVb
          go_wp2_with fail
          go_ret2
          exact ⟨by rw [HO.out, HE.out]; rfl, HBW.out⟩
        · have hVb2 : V < 4 := hVb
          obtain ⟨Q, hQ⟩ : ∃ Q, V * 16 = Q := ⟨_, rfl⟩
          have hdv : (V : Int) * 16 = (Q : Int) := by omega
          have hQ64 : Q < 64 := by omega
          have hdig := dig_at Q hQ64
          obtain ⟨dd, hdd⟩ : ∃ dd, dig Q = dd := ⟨_, rfl⟩
          rw [hdd] at hdig
          have HE := Lib.hid (show encO s.data.toList = encL s.data.toList ++ [dd] by unfold encO; rw [hsl, hM, if_neg (by decide), hV]; show _ ++ [dig (V * 16)] = _; rw [hQ, hdd])
          have HOW := Lib.hid hown
          have HNW := Lib.hid (World.news_of_block (heap_alloc_new wr (.cells #[.int .u8 (dd.toNat : Int)] 5)))
          clear hown hbw hall hsl hV hO hM hVb hQ hdd
          go_wp2_with (at_builtin; go_loud (refine wpList_append_lies _ rfl _ _ 28 rfl w.heap.size 5 i0 _ 1 1 Try.underlying28 hin hz0 hz1 hz2 rfl (by decide) (.slice Av O cv) O (ubs (encL s.data.toList)) rfl (HOW.out.alloc _) ⟨wr.heap.size, 0, none⟩ 1 1 [.int .u8 (dd.toNat : Int)] rfl rfl HNW.out (by simp [Value.oneCell']) (by omega) (by unfold maxLen; omega) (by omega) (by simp; omega) (wr.heap.size + 1) (by simp) ?_; intro gg cap2 w7 hown7 hgrow7 hat7 hlt7; have hcv := conv_own (L := encL s.data.toList ++ [dd]) (by rw [ubs_app]; exact hown7) (by rw [List.length_append, HOL.out]; rfl)))
          have hb7 : Below w.heap.size w w7 := (HBW.out.alloc hw _).grown hgrow7 (by simp; omega) (fun q hq => (HOW.out.lt q hq).1)
          go_ret2
          exact ⟨by rw [HO.out, HE.out]; rfl, hb7⟩
        · have hVb2 : V < 16 := hVb
          obtain ⟨Q, hQ⟩ : ∃ Q, V * 4 = Q := ⟨_, rfl⟩
          have hdv : (V : Int) * 4 = (Q : Int) := by omega
          have hQ64 : Q < 64 := by omega
          have hdig := dig_at Q hQ64
          obtain ⟨dd, hdd⟩ : ∃ dd, dig Q = dd := ⟨_, rfl⟩
          rw [hdd] at hdig
          have HE := Lib.hid (show encO s.data.toList = encL s.data.toList ++ [dd] by unfold encO; rw [hsl, hM, if_neg (by decide), hV]; show _ ++ [dig (V * 4)] = _; rw [hQ, hdd])
          have HOW := Lib.hid hown
          have HNW := Lib.hid (World.news_of_block (heap_alloc_new wr (.cells #[.int .u8 (dd.toNat : Int)] 5)))
          clear hown hbw hall hsl hV hO hM hVb hQ hdd
          go_wp2_with (at_builtin; go_loud (refine wpList_append_lies _ rfl _ _ 28 rfl w.heap.size 5 i0 _ 1 1 Try.underlying28 hin hz0 hz1 hz2 rfl (by decide) (.slice Av O cv) O (ubs (encL s.data.toList)) rfl (HOW.out.alloc _) ⟨wr.heap.size, 0, none⟩ 1 1 [.int .u8 (dd.toNat : Int)] rfl rfl HNW.out (by simp [Value.oneCell']) (by omega) (by unfold maxLen; omega) (by omega) (by simp; omega) (wr.heap.size + 1) (by simp) ?_; intro gg cap2 w7 hown7 hgrow7 hat7 hlt7; have hcv := conv_own (L := encL s.data.toList ++ [dd]) (by rw [ubs_app]; exact hown7) (by rw [List.length_append, HOL.out]; rfl)))
          have hb7 : Below w.heap.size w w7 := (HBW.out.alloc hw _).grown hgrow7 (by simp; omega) (fun q hq => (HOW.out.lt q hq).1)
          go_ret2
          exact ⟨by rw [HO.out, HE.out]; rfl, hb7⟩
end Go.Proofs.Ytainjogdgoogfaa
