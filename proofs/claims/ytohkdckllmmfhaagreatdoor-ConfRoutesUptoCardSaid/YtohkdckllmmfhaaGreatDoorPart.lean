/- DERIVED. What isNumber, isIndex, isPart and the reference's digitsAlone return. No condition but that strings are no longer than strings can be. -/
import Derived.Test.YtohkdckllmmfhaaGreatDoorConfRef
import Derived.Test.YtohkdckllmmfhaaGreatDoorDigits
import Derived.Test.YtohkdckllmmfhaaGreatDoorShelf
import Derived.Shelf.Strings.SlTrimAscii
import Derived.BigGuardPart
namespace Go.Proofs.YtohkdckllmmfhaaGreatDoor
open Go.RowKit
set_option linter.unusedVariables false
def tens' : List UInt8 := [48, 49, 50, 51, 52, 53, 54, 55, 56, 57]
theorem tens_all' : ∀ n, n < 256 → tens'.contains (UInt8.ofNat n) = !nd (UInt8.ofNat n) := by decide +kernel
theorem tens_nd' (b : UInt8) : tens'.contains b = !nd b := by
  have h := tens_all' b.toNat b.toNat_lt
  rwa [UInt8.ofNat_toNat] at h
theorem mem_dropWhile' {p : UInt8 → Bool} : ∀ {l : List UInt8} {x : UInt8}, x ∈ l → p x = false → x ∈ l.dropWhile p
  | a :: r, x, h, hp => by
    unfold List.dropWhile
    rcases List.mem_cons.1 h with rfl | h'
    · rw [hp]; exact h
    · cases p a
      · exact h
      · exact mem_dropWhile' h' hp
theorem dropWhile_all' {p : UInt8 → Bool} : ∀ {l : List UInt8}, (∀ x, x ∈ l → p x = true) → l.dropWhile p = []
  | [], _ => rfl
  | a :: r, h => by
    unfold List.dropWhile
    rw [h a (List.mem_cons_self ..)]
    exact dropWhile_all' fun x hx => h x (List.mem_cons_of_mem _ hx)
theorem trim_all' {l : List UInt8} (h : l.any nd = false) : Lib.trimS l tens' = [] := by
  have hm : ∀ x, x ∈ l → tens'.contains x = true := fun x hx => by
    rw [tens_nd']
    have := List.any_eq_false.1 h x hx
    simpa using this
  have e : Lib.trimRightS l tens' = [] := by
    unfold Lib.trimRightS
    rw [dropWhile_all' fun x hx => hm x (List.mem_reverse.1 hx)]
    rfl
  unfold Lib.trimS
  rw [e]
  rfl
theorem trim_some' {l : List UInt8} (h : l.any nd = true) : Lib.trimS l tens' ≠ [] := by
  obtain ⟨x, hx, hn⟩ := List.any_eq_true.1 h
  have hc : tens'.contains x = false := by rw [tens_nd', hn]; rfl
  have h1 : x ∈ Lib.trimRightS l tens' := by
    unfold Lib.trimRightS
    exact List.mem_reverse.2 (mem_dropWhile' (List.mem_reverse.2 hx) hc)
  have h2 : x ∈ Lib.trimS l tens' := mem_dropWhile' h1 hc
  intro e
  rw [e] at h2
  cases h2
theorem trim_any' (s : ByteArray) (w : World) (hs : s.size ≤ maxLen) :
    Calls Tryz.prog 109 #[.string s, .string ⟨#[48, 49, 50, 51, 52, 53, 54, 55, 56, 57]⟩] w fun e w' => e = .returned (.string ⟨(Lib.trimS s.data.toList tens').toArray⟩) ∧ Below w.heap.size w w' :=
  Any.strings_Trim_ascii Tryz.lays160 (fun w => by kernel_rfl) (by kernel_rfl) s _ w (by unfold maxLen at hs; omega) (by decide) (fun j b h => by
    have hm : b ∈ tens' := List.mem_of_getElem? h
    have : ∀ b, b ∈ tens' → b.toNat < 128 := by decide
    exact this b hm)
set_option maxRecDepth 100000 in
theorem digitsAlone_some (s : ByteArray) (w : World) (hs : s.size ≤ maxLen) (h0 : 0 < s.size) :
    Calls Tryz.prog 60 #[.string s] w fun e w' => e = .returned (.bool (allD s.data.toList)) ∧ Below w.heap.size w w' := by
  have HT := Lib.hid (fun wx => trim_any' s wx hs)
  have hn := isEmpty_ne h0
  cases hd : s.data.toList.any nd with
  | false =>
    have he := trim_all' hd
    rw [he] at HT
    go_enter Tryz.func60, Tryz.ntmps60
    go_wp2_with fail
    refine (HT.out _).mono ?_
    rintro e w1 ⟨rfl, hb1⟩
    go_wp2_with fail
    go_ret
    exact ⟨retB (by unfold allD; rw [hd]; rfl), hb1⟩
  | true =>
    have he := trim_some' hd
    generalize Lib.trimS s.data.toList tens' = t at he HT
    go_enter Tryz.func60, Tryz.ntmps60
    go_wp2_with fail
    refine (HT.out _).mono ?_
    rintro e w1 ⟨rfl, hb1⟩
    go_wp2_with fail
    go_ret
    exact ⟨retB (by unfold allD; rw [hd]; cases t with | nil => exact absurd rfl he | cons => simp), hb1⟩
theorem digitsAlone_none (s : ByteArray) (w : World) (h0 : s.size = 0) :
    Calls Tryz.prog 60 #[.string s] w fun e w' => e = .returned (.bool false) ∧ Below w.heap.size w w' := by
  have hn := isEmpty_nil h0
  go_enter Tryz.func60, Tryz.ntmps60
  go_wp2_with fail
  go_ret
  exact ⟨rfl, Below.refl _ _⟩
/-- A number without a 0 before others. -/
def numB (s : ByteArray) : Bool := if s.size = 0 then false else if s = ⟨#[48]⟩ then true else if s.data.toList.head? = some 48 then false else allD s.data.toList
def idxB (s : ByteArray) : Bool := decide (s.size ≤ 4) && numB s
def partB (s : ByteArray) : Bool := keyB s || idxB s
set_option maxRecDepth 100000 in
set_option maxHeartbeats 1000000 in
theorem isNumber_any (s : ByteArray) (w : World) (hs : s.size ≤ 9223372036854775807) :
    Calls Tryz.prog 132 #[.string s] w fun e w' => e = .returned (.bool (numB s)) ∧ w = w' := by
  by_cases h0 : s.size = 0
  · have hn := isEmpty_nil h0
    have hl := toList_nil h0
    go_enter Tryz.func132, Tryz.ntmps132
    go_wp2_with fail
    go_ret
    exact ⟨retB (by unfold numB; rw [if_pos h0]), rfl⟩
  · by_cases hz : s = ⟨#[48]⟩
    · subst hz
      go_enter Tryz.func132, Tryz.ntmps132
      go_wp2_with fail
      go_ret
      exact ⟨retB (by decide), rfl⟩
    · have hp : 0 < s.size := by omega
      have i0 : (0 : Int) < (s.size : Int) := by omega
      have hn := isEmpty_ne hp
      have hz1 : (s.toList == [48]) = false := by
        cases h : s.toList == [48] with
        | false => rfl
        | true =>
          exfalso
          apply hz
          have h' := beq_iff_eq.1 h
          rw [ByteArray.toList_eq] at h'
          exact ByteArray.ext (Array.toList_inj.1 h')
      have HN := Lib.hid (show numB s = if s.data.toList.head? = some 48 then false else allD s.data.toList by unfold numB; rw [if_neg h0, if_neg hz])
      have hh : s.data.toList.head? = some s[0] := by rw [List.head?_eq_getElem?]; exact at_idx hp
      have HH := Lib.hid hh
      have HA := Lib.hid (fun wx => allDigits_any s wx hs)
      obtain ⟨c, hc⟩ : ∃ c, s[0] = c := ⟨_, rfl⟩
      rw [hc] at HH
      have hzz : ¬ s.toList = [48] := fun h => by rw [h] at hz1; simp at hz1
      clear hz hh h0
      by_cases h48 : (c.toNat : Int) = 48
      · have e1 : ((c.toNat : Int) == 48) = true := by simpa using h48
        have e2 : ((c.toNat : Int) != 48) = false := by simpa using h48
        have HC := Lib.hid (u8_ne (c := c) (n := 48) (by omega) (by omega))
        clear h48
        go_enter Tryz.func132, Tryz.ntmps132
        go_wp2_with fail
        go_ret
        exact ⟨retB (by rw [HN.out, HH.out, HC.out]; rfl), rfl⟩
      · have e1 : ((c.toNat : Int) == 48) = false := by simpa using h48
        have e2 : ((c.toNat : Int) != 48) = true := by simpa using h48
        go_enter Tryz.func132, Tryz.ntmps132
        have HC := Lib.hid h48
        clear h48
        go_wp2_with fail
        refine (HA.out _).mono ?_
        rintro e w' ⟨rfl, rfl⟩
        go_wp2_with fail
        go_ret
        exact ⟨retB (by rw [HN.out, HH.out, if_neg (fun h => HC.out (by cases h; rfl))]), rfl⟩
set_option maxRecDepth 100000 in
theorem isIndex_any (s : ByteArray) (w : World) (hs : s.size ≤ 9223372036854775807) :
    Calls Tryz.prog 106 #[.string s] w fun e w' => e = .returned (.bool (idxB s)) ∧ w = w' := by
  have HA := Lib.hid (fun wx => isNumber_any s wx hs)
  by_cases h4 : (s.size : Int) ≤ 4
  · go_enter Tryz.func106, Tryz.ntmps106
    go_wp2_with fail
    refine (HA.out _).mono ?_
    rintro e w' ⟨rfl, rfl⟩
    go_wp2_with fail
    go_ret
    exact ⟨retB (by unfold idxB; rw [decide_eq_true (show s.size ≤ 4 by omega)]; rfl), rfl⟩
  · have HC := Lib.hid h4
    go_enter Tryz.func106, Tryz.ntmps106
    go_wp2_with fail
    go_ret
    exact ⟨retB (by unfold idxB; rw [decide_eq_false (show ¬ s.size ≤ 4 by have := HC.out; omega)]; rfl), rfl⟩
set_option maxRecDepth 100000 in
theorem isPart_any (s : ByteArray) (w : World) (hs : s.size ≤ 9223372036854775807) :
    Calls Tryz.prog 54 #[.string s] w fun e w' => e = .returned (.bool (partB s)) ∧ w = w' := by
  have HA := Lib.hid (fun wx => isIndex_any s wx hs)
  have hk := fun wx => isKey_any s wx hs
  cases hkk : keyB s with
  | true =>
    rw [hkk] at hk
    have HK := Lib.hid hk
    have HKK := Lib.hid hkk
    clear hk hkk
    go_enter Tryz.func54, Tryz.ntmps54
    go_wp2_with fail
    refine (HK.out _).mono ?_
    rintro e w' ⟨rfl, rfl⟩
    go_wp2_with fail
    go_ret
    exact ⟨retB (by unfold partB; rw [HKK.out]; rfl), rfl⟩
  | false =>
    rw [hkk] at hk
    have HK := Lib.hid hk
    have HKK := Lib.hid hkk
    clear hk hkk
    go_enter Tryz.func54, Tryz.ntmps54
    go_wp2_with fail
    refine (HK.out _).mono ?_
    rintro e w' ⟨rfl, rfl⟩
    go_wp2_with fail
    refine (HA.out _).mono ?_
    rintro e w' ⟨rfl, rfl⟩
    go_wp2_with fail
    go_ret
    exact ⟨retB (by unfold partB; rw [HKK.out]; rfl), rfl⟩
/-- The reference's word for an index. -/
theorem numB_alt (s : ByteArray) (h0 : 0 < s.size) : numB s = (allD s.data.toList && (!(s[0] == 48) || decide (s = ⟨#[48]⟩))) := by
  unfold numB
  rw [if_neg (by omega)]
  have hh : s.data.toList.head? = some s[0] := by rw [List.head?_eq_getElem?]; exact at_idx h0
  by_cases hz : s = ⟨#[48]⟩
  · subst hz
    rw [if_pos rfl]
    have h1 : allD [48] = true := by decide
    have h2 : (⟨#[48]⟩ : ByteArray).data.toList = [48] := rfl
    rw [h2, h1]
    simp
  · rw [if_neg hz, hh]
    by_cases h48 : s[0] = 48
    · rw [if_pos (by rw [h48])]; simp [hz, h48]
    · rw [if_neg (by simpa using h48)]; simp [hz, h48]
end Go.Proofs.YtohkdckllmmfhaaGreatDoor
