/- DERIVED. What words of the reference returns. Condition: strings of at most 20000 bytes. -/
import Derived.Test.YtfmmpfoecjehiaaValOf
import Derived.Test.YtfmmpfoecjehiaaReadLine
namespace Go.Proofs.Ytfmmpfoecjehiaa
set_option linter.unusedVariables false
set_option linter.unusedSimpArgs false
open Go.RowKit
def strV (p : L8) : Value := .string (bs p)
theorem extAB_bs (s : ByteArray) (a b : Nat) : s.extract a b = bs (((bl s).drop a).take (b - a)) := by
  apply ByteArray.ext
  apply Array.toList_inj.1
  rw [Lib.extract_data]
theorem strInfo : (Try.prog.info? 9).map (fun i => (i.zero, i.size, i.bytes)) = some (some (.string .empty), 1, 16) := by kernel_rfl
/-- Words so far; the word under way begins at place a. -/
def WInv (s : ByteArray) (a k : Nat) (q : Bool) (done : List L8) : Prop := wds false [] (bl s) = done ++ wds q (((bl s).drop a).take (k - a)).reverse ((bl s).drop k)
theorem cur_snoc {s : ByteArray} {a k : Nat} {c : UInt8} (hak : a ≤ k) (hk : k < s.size) (hc : s[k] = c) : (((bl s).drop a).take (k + 1 - a)).reverse = c :: (((bl s).drop a).take (k - a)).reverse := by
  have h : ((bl s).drop a)[k - a]? = some c := by
    rw [List.getElem?_drop, show a + (k - a) = k by omega, bl_at hk, hc]
  rw [show k + 1 - a = k - a + 1 by omega, List.take_add_one, h]
  simp
theorem WInv.quote {s : ByteArray} {a k : Nat} {q : Bool} {done : List L8} {c : UInt8} (h : WInv s a k q done) (hak : a ≤ k) (hk : k < s.size) (hc : s[k] = c) (hq : c.toNat = 34) : WInv s a (k + 1) (!q) done := by
  unfold WInv at *
  rw [h, bl_drop hk, hc, wds_quote hq, cur_snoc hak hk hc]
theorem WInv.pass {s : ByteArray} {a k : Nat} {q : Bool} {done : List L8} {c : UInt8} (h : WInv s a k q done) (hak : a ≤ k) (hk : k < s.size) (hc : s[k] = c) (h0 : ¬ (q = true ∧ c.toNat = 92)) (h1 : ¬ c.toNat = 34) (h2 : ¬ (c.toNat = 32 ∧ q = false)) : WInv s a (k + 1) q done := by
  unfold WInv at *
  rw [h, bl_drop hk, hc, wds_else h0 h1 h2, cur_snoc hak hk hc]
theorem WInv.cut {s : ByteArray} {a k : Nat} {done : List L8} {c : UInt8} (h : WInv s a k false done) (hk : k < s.size) (hc : s[k] = c) (hq : c.toNat = 32) : WInv s (k + 1) (k + 1) false (done ++ [((bl s).drop a).take (k - a)]) := by
  unfold WInv at *
  rw [h, bl_drop hk, hc, wds_cut hq]
  simp
theorem WInv.esc {s : ByteArray} {a k : Nat} {done : List L8} {c : UInt8} (h : WInv s a k true done) (hak : a ≤ k) (hk : k < s.size) (hc : s[k] = c) (hq : c.toNat = 92) : WInv s a (k + 1 + 1) true done := by
  unfold WInv at *
  by_cases h2 : k + 1 < s.size
  · have hd := bl_drop h2
    rw [h, bl_drop hk, hc, hd, wds_esc hq, cur_snoc (by omega) h2 rfl, cur_snoc hak hk hc]
  · have hd : (bl s).drop (k + 1) = [] := List.drop_eq_nil_of_le (by rw [bl_len]; omega)
    have hd2 : (bl s).drop (k + 1 + 1) = [] := List.drop_eq_nil_of_le (by rw [bl_len]; omega)
    have ht : ((bl s).drop a).take (k + 1 + 1 - a) = ((bl s).drop a).take (k + 1 - a) := by
      rw [List.take_of_length_le (by rw [List.length_drop, bl_len]; omega), List.take_of_length_le (by rw [List.length_drop, bl_len]; omega)]
    rw [h, bl_drop hk, hc, hd, hd2, wds_esc1 hq, wds_nil, ht, cur_snoc hak hk hc]
theorem WInv.fin {s : ByteArray} {a k : Nat} {q : Bool} {done : List L8} (h : WInv s a k q done) (hk : s.size ≤ k) : wds false [] (bl s) = done ++ [(bl s).drop a] := by
  unfold WInv at h
  have hd : (bl s).drop k = [] := List.drop_eq_nil_of_le (by rw [bl_len]; exact hk)
  have ht : ((bl s).drop a).take (k - a) = (bl s).drop a := List.take_of_length_le (by rw [List.length_drop, bl_len]; omega)
  rw [h, hd, ht, wds_nil, List.reverse_reverse]
def WdPost (s : ByteArray) (w : World) (e : Ending) (w' : World) : Prop :=
  ∃ A c, e = .returned (.slice A (wds false [] (bl s)).length c) ∧ w'.ownsRow w.heap.size 9 1 (.slice A (wds false [] (bl s)).length c) (wds false [] (bl s)).length ((wds false [] (bl s)).map strV) ∧ Below w.heap.size w w'
set_option maxRecDepth 100000 in
set_option maxHeartbeats 4000000 in
theorem words_any (s : ByteArray) (w : World) (hs : s.size ≤ 20000) :
    Calls Try.prog 17 #[.string s] w (WdPost s w) := by
  obtain ⟨i0, hi, hz0, hz1, hz2⟩ := info_parts strInfo
  go_enter Try.func17, Try.ntmps17
  go_wp2_with fail
  go_loopw [3, 4, 5, 6] (fun o f q i wr => ∃ (k a : Nat) (qb : Bool) (done : List L8) (A : Option Addr) (c : Nat), k ≤ s.size + 1 ∧ a ≤ k ∧ a ≤ s.size ∧ done.length ≤ a ∧ i = .int .i64 k ∧ f = .int .i64 a ∧ q = .bool qb ∧ o = .slice A done.length c ∧ WInv s a k qb done ∧ wr.ownsRow w.heap.size 9 1 (.slice A done.length c) done.length (done.map strV) ∧ Below w.heap.size w wr) (fun _ _ _ i _ => s.size + 1 - (intOf i).toNat)
  case atStart => exact ⟨0, 0, false, [], none, 0, by omega, Nat.le_refl _, by omega, Nat.le_refl _, rfl, rfl, rfl, rfl, by unfold WInv; simp, World.ownsRow_nil _ _ _ _, Below.refl _ _⟩
  case round =>
    obtain ⟨k, a, qb, done, A, c, hk, hak, has, hdl, rfl, rfl, rfl, rfl, hin, hown, hbw⟩ := hrel
    have hw := hbw.size
    have HI := Lib.hid hin; clear hin
    have HO := Lib.hid hown; clear hown
    have HBW := Lib.hid hbw; clear hbw
    obtain ⟨dn, hdn⟩ : ∃ dn, done.length = dn := ⟨_, rfl⟩
    rw [hdn]
    have HDN := Lib.hid hdn
    rw [hdn] at hdl HO
    clear hdn
    by_cases hlt : k < s.size
    · obtain ⟨ch, hck⟩ : ∃ ch, s[k] = ch := ⟨_, rfl⟩
      have hks : k + 1 ≤ s.size := by omega
      cases qb with
      | true =>
        by_cases h92 : (ch.toNat : Int) = 92
        · have e92 : ((ch.toNat : Int) == 92) = true := by simpa using h92
          have HS := Lib.hid (HI.out.esc hak hlt hck (by omega))
          clear h92
          go_wp2_with fail
          go_roundw
          case rel => exact ⟨k + 1 + 1, a, true, done, A, c, by omega, by omega, has, by rw [HDN.out]; exact hdl, by go_num, rfl, rfl, by rw [HDN.out], HS.out, by rw [HDN.out]; exact HO.out, HBW.out⟩
          case measure => simp [intOf]; omega
        · have e92 : ((ch.toNat : Int) == 92) = false := by simpa using h92
          by_cases h34 : (ch.toNat : Int) = 34
          · have e34 : ((ch.toNat : Int) == 34) = true := by simpa using h34
            have HS := Lib.hid (HI.out.quote hak hlt hck (by omega))
            clear h92 h34
            go_wp2_with fail
            go_roundw
            case rel => exact ⟨k + 1, a, false, done, A, c, by omega, by omega, has, by rw [HDN.out]; exact hdl, by go_num, rfl, rfl, by rw [HDN.out], HS.out, by rw [HDN.out]; exact HO.out, HBW.out⟩
            case measure => simp [intOf]; omega
          · have e34 : ((ch.toNat : Int) == 34) = false := by simpa using h34
            have HS := Lib.hid (HI.out.pass hak hlt hck (by omega) (by omega) (by simp))
            clear h92 h34
            by_cases h32 : (ch.toNat : Int) = 32
            · have e32 : ((ch.toNat : Int) == 32) = true := by simpa using h32
              clear h32
              go_wp2_with fail
              go_roundw
              case rel => exact ⟨k + 1, a, true, done, A, c, by omega, by omega, has, by rw [HDN.out]; exact hdl, by go_num, rfl, rfl, by rw [HDN.out], HS.out, by rw [HDN.out]; exact HO.out, HBW.out⟩
              case measure => simp [intOf]; omega
            · have e32 : ((ch.toNat : Int) == 32) = false := by simpa using h32
              clear h32
              go_wp2_with fail
              go_roundw
              case rel => exact ⟨k + 1, a, true, done, A, c, by omega, by omega, has, by rw [HDN.out]; exact hdl, by go_num, rfl, rfl, by rw [HDN.out], HS.out, by rw [HDN.out]; exact HO.out, HBW.out⟩
              case measure => simp [intOf]; omega
      | false =>
        by_cases h34 : (ch.toNat : Int) = 34
        · have e34 : ((ch.toNat : Int) == 34) = true := by simpa using h34
          have HS := Lib.hid (HI.out.quote hak hlt hck (by omega))
          clear h34
          go_wp2_with fail
          go_roundw
          case rel => exact ⟨k + 1, a, true, done, A, c, by omega, by omega, has, by rw [HDN.out]; exact hdl, by go_num, rfl, rfl, by rw [HDN.out], HS.out, by rw [HDN.out]; exact HO.out, HBW.out⟩
          case measure => simp [intOf]; omega
        · have e34 : ((ch.toNat : Int) == 34) = false := by simpa using h34
          by_cases h32 : (ch.toNat : Int) = 32
          · have e32 : ((ch.toNat : Int) == 32) = true := by simpa using h32
            have HS := Lib.hid (HI.out.cut hlt hck (by omega))
            have hx := extAB_bs s a k
            clear h34 h32
            have a0 : (0 : Int) ≤ (a : Int) := by omega
            have a1 : (a : Int) ≤ (k : Int) := by omega
            have a2 : (k : Int) ≤ (s.size : Int) := by omega
            obtain ⟨X, hX⟩ : ∃ X, s.extract a k = X := ⟨_, rfl⟩
            have HX := Lib.hid (hX.symm.trans hx)
            clear hx
            have HNW := Lib.hid (World.news_of_block (heap_alloc_new wr (.cells #[.string X] 9)))
            go_wp2_with (at_builtin; go_loud (refine wpList_append_lies _ rfl _ _ 33 rfl w.heap.size 9 i0 _ 1 16 Try.underlying33 hi hz0 hz1 hz2 rfl (by decide) (.slice A dn c) dn (done.map strV) rfl (HO.out.alloc _) ⟨wr.heap.size, 0, none⟩ 1 1 [.string X] rfl rfl HNW.out (by simp [Value.oneCell']) (by omega) (by unfold maxLen; omega) (by omega) (by simp; omega) (wr.heap.size + 1) (by simp) ?_; intro gg cap2 w7 hown' hgrow hat3 hlt2))
            go_roundw
            case rel =>
              have hbG : Below w.heap.size w w7 := (HBW.out.alloc hw _).grown hgrow (by simp; omega) (fun q hq => (HO.out.lt q hq).1)
              refine ⟨k + 1, k + 1, false, done ++ [((bl s).drop a).take (k - a)], some ⟨gg, 0, none⟩, cap2, by omega, Nat.le_refl _, hks, by simp; have := HDN.out; omega, by go_num, by go_num, rfl, ?_, HS.out, ?_, hbG⟩
              · rw [List.length_append, HDN.out]; rfl
              · rw [List.length_append, HDN.out, List.map_append]
                have : List.map strV [((bl s).drop a).take (k - a)] = [.string X] := by rw [HX.out]; rfl
                rw [this]
                exact hown'
            case measure => simp [intOf]; omega
          · have e32 : ((ch.toNat : Int) == 32) = false := by simpa using h32
            have HS := Lib.hid (HI.out.pass hak hlt hck (by simp) (by omega) (by omega))
            clear h34 h32
            go_wp2_with fail
            go_roundw
            case rel => exact ⟨k + 1, a, false, done, A, c, by omega, by omega, has, by rw [HDN.out]; exact hdl, by go_num, rfl, rfl, by rw [HDN.out], HS.out, by rw [HDN.out]; exact HO.out, HBW.out⟩
            case measure => simp [intOf]; omega
    · have HS := Lib.hid (HI.out.fin (by omega))
      have hx := ext_bs s a
      have a0 : (0 : Int) ≤ (a : Int) := by omega
      have a1 : (a : Int) ≤ (s.size : Int) := by omega
      obtain ⟨X, hX⟩ : ∃ X, s.extract a s.size = X := ⟨_, rfl⟩
      have HX := Lib.hid (hX.symm.trans hx)
      clear hx
      have HNW := Lib.hid (World.news_of_block (heap_alloc_new wr (.cells #[.string X] 9)))
      go_wp2_with (at_builtin; go_loud (refine wpList_append_lies _ rfl _ _ 33 rfl w.heap.size 9 i0 _ 1 16 Try.underlying33 hi hz0 hz1 hz2 rfl (by decide) (.slice A dn c) dn (done.map strV) rfl (HO.out.alloc _) ⟨wr.heap.size, 0, none⟩ 1 1 [.string X] rfl rfl HNW.out (by simp [Value.oneCell']) (by omega) (by unfold maxLen; omega) (by omega) (by simp; omega) (wr.heap.size + 1) (by simp) ?_; intro gg cap2 w7 hown' hgrow hat3 hlt2))
      go_ret
      have hbG : Below w.heap.size w w7 := (HBW.out.alloc hw _).grown hgrow (by simp; omega) (fun q hq => (HO.out.lt q hq).1)
      have hl : (wds false [] (bl s)).length = dn + 1 := by rw [HS.out, List.length_append, HDN.out]; rfl
      refine ⟨some ⟨gg, 0, none⟩, cap2, ?_, ?_, hbG⟩
      · rw [hl]; rfl
      · rw [hl, HS.out, List.map_append]
        have : List.map strV [(bl s).drop a] = [.string X] := by rw [HX.out]; rfl
        rw [this]
        exact hown'
end Go.Proofs.Ytfmmpfoecjehiaa
