/- DERIVED. What the reference's badByte and IsKey return. Condition: strings no longer than strings can be. -/
import Derived.Test.YteckcanghnligaaDoorConfFields
import Derived.Test.YteckcanghnligaaDoorShelf
import Derived.Shelf.Strings.SlTrimAscii
namespace Go.Proofs.YteckcanghnligaaDoor
set_option linter.unusedVariables false
open Go.RowKit
theorem mem_dropW {p : UInt8 → Bool} : ∀ {l : List UInt8} {x : UInt8}, x ∈ l → p x = false → x ∈ l.dropWhile p
  | a :: r, x, h, hp => by
    unfold List.dropWhile
    rcases List.mem_cons.1 h with rfl | h'
    · rw [hp]; exact h
    · cases p a
      · exact h
      · exact mem_dropW h' hp
theorem dropW_all {p : UInt8 → Bool} : ∀ {l : List UInt8}, (∀ x, x ∈ l → p x = true) → l.dropWhile p = []
  | [], _ => rfl
  | a :: r, h => by
    unfold List.dropWhile
    rw [h a (List.mem_cons_self ..)]
    exact dropW_all fun x hx => h x (List.mem_cons_of_mem _ hx)
theorem trimS_all {cs l : List UInt8} {p : UInt8 → Bool} (hc : ∀ b, cs.contains b = !p b) (h : l.any p = false) : Lib.trimS l cs = [] := by
  have hm : ∀ x, x ∈ l → cs.contains x = true := fun x hx => by
    rw [hc]
    have := List.any_eq_false.1 h x hx
    simpa using this
  have e : Lib.trimRightS l cs = [] := by
    unfold Lib.trimRightS
    rw [dropW_all fun x hx => hm x (List.mem_reverse.1 hx)]
    rfl
  unfold Lib.trimS
  rw [e]
  rfl
theorem trimS_some {cs l : List UInt8} {p : UInt8 → Bool} (hcs : ∀ b, cs.contains b = !p b) (h : l.any p = true) : Lib.trimS l cs ≠ [] := by
  obtain ⟨x, hx, hn⟩ := List.any_eq_true.1 h
  have hc : cs.contains x = false := by rw [hcs, hn]; rfl
  have h1 : x ∈ Lib.trimRightS l cs := by
    unfold Lib.trimRightS
    exact List.mem_reverse.2 (mem_dropW (List.mem_reverse.2 hx) hc)
  have h2 : x ∈ Lib.trimS l cs := mem_dropW h1 hc
  intro e
  rw [e] at h2
  cases h2
def keyCs : ByteArray := ⟨#[97, 98, 99, 100, 101, 102, 103, 104, 105, 106, 107, 108, 109, 110, 111, 112, 113, 114, 115, 116, 117, 118, 119, 120, 121, 122, 48, 49, 50, 51, 52, 53, 54, 55, 56, 57, 45, 95]⟩
theorem keyCs_all : ∀ n, n < 256 → keyCs.data.toList.contains (UInt8.ofNat n) = !nkB (UInt8.ofNat n) := by decide +kernel
theorem keyCs_nk (b : UInt8) : keyCs.data.toList.contains b = !nkB b := by
  have h := keyCs_all b.toNat b.toNat_lt
  rwa [UInt8.ofNat_toNat] at h
theorem trimK_any (s : ByteArray) (w : World) (hs : s.size ≤ maxLen) :
    Calls Tryd.prog 25 #[.string s, .string keyCs] w fun e w' => e = .returned (.string ⟨(Lib.trimS s.data.toList keyCs.data.toList).toArray⟩) ∧ Below w.heap.size w w' :=
  Any.strings_Trim_ascii Tryd.lays160 (fun w => by kernel_rfl) (by kernel_rfl) s _ w (by unfold maxLen at hs; omega) (by decide) (fun j b h => by
    have hm : b ∈ keyCs.data.toList := List.mem_of_getElem? h
    have : ∀ b, b ∈ keyCs.data.toList → b.toNat < 128 := by decide
    exact this b hm)

/-- A string has a byte that cannot be there. -/
def badS (s : ByteArray) : Bool := s.data.toList.any ctB
set_option maxRecDepth 100000 in
set_option maxHeartbeats 400000 in
theorem badByte_any (s : ByteArray) (w : World) (hs : s.size ≤ 9223372036854775807) :
    Calls Tryd.prog 19 #[.string s] w fun e w' => e = .returned (.bool (badS s)) ∧ w = w' := by
  go_enter Tryd.func19, Tryd.ntmps19
  go_wp2_with fail
  go_loop [3] (fun i => ∃ k : Nat, k ≤ s.size ∧ i = .int .i64 k ∧ (s.data.toList.take k).any ctB = false) (fun i => s.size - (intOf i).toNat)
  case atStart => exact ⟨0, Nat.zero_le _, rfl, rfl⟩
  case round =>
    obtain ⟨k, hk, rfl, h0⟩ := hrel
    have H0 := Lib.hid h0; clear h0
    by_cases hlt : k < s.size
    · obtain ⟨c, hck⟩ : ∃ c, s[k] = c := ⟨_, rfl⟩
      have hstep : ctB c = false → (s.data.toList.take (k + 1)).any ctB = false := fun h => any_snoc hlt H0.out (by rw [hck]; exact h)
      have hhit : ctB c = true → s.data.toList.any ctB = true := fun h => any_hit hlt (by rw [hck]; exact h)
      have HST := Lib.hid hstep; clear hstep
      have HHI := Lib.hid hhit; clear hhit
      by_cases h32 : (c.toNat : Int) < 32
      · by_cases h9 : (c.toNat : Int) = 9
        · have hb : ctB c = false := by rw [u8_ne (c := c) (n := 9) (by omega) (by omega)]; rfl
          have HQ := Lib.hid hb; clear hb
          go_wp2_with fail
          go_round
          case rel => exact ⟨k + 1, by omega, by go_num, HST.out HQ.out⟩
          case measure => simp [intOf]; omega
        · have z9 : ((c.toNat : Int) != 9) = true := by simpa using h9
          by_cases h10 : (c.toNat : Int) = 10
          · have hb : ctB c = false := by rw [u8_ne (c := c) (n := 10) (by omega) (by omega)]; rfl
            have HQ := Lib.hid hb; clear hb
            go_wp2_with fail
            go_round
            case rel => exact ⟨k + 1, by omega, by go_num, HST.out HQ.out⟩
            case measure => simp [intOf]; omega
          · have z10 : ((c.toNat : Int) != 10) = true := by simpa using h10
            have hb : ctB c = true := by
              have e9 : (c == 9) = false := by simp only [beq_eq_false_iff_ne, ne_eq]; rintro rfl; exact h9 rfl
              have e10 : (c == 10) = false := by simp only [beq_eq_false_iff_ne, ne_eq]; rintro rfl; exact h10 rfl
              unfold ctB
              rw [e9, e10, decide_eq_true (show c.toNat < 32 by omega)]
              rfl
            have HQ := Lib.hid hb; clear hb
            go_wp2_with fail
            go_ret
            exact ⟨retB (HHI.out HQ.out), rfl⟩
      · have hb : ctB c = false := by unfold ctB; rw [decide_eq_false (show ¬ c.toNat < 32 by omega)]; rfl
        have HQ := Lib.hid hb; clear hb
        go_wp2_with fail
        go_round
        case rel => exact ⟨k + 1, by omega, by go_num, HST.out HQ.out⟩
        case measure => simp [intOf]; omega
    · have hks : k = s.size := by omega
      have HK := Lib.hid hks; clear hks
      go_wp2_with fail
      go_ret
      exact ⟨retB (any_all HK.out H0.out), rfl⟩

set_option maxRecDepth 100000 in
set_option maxHeartbeats 1000000 in
theorem isKeyR_any (s : ByteArray) (w : World) (hs : s.size ≤ maxLen) :
    Calls Tryd.prog 20 #[.string s] w fun e w' => e = .returned (.bool (keyB s)) ∧ Below w.heap.size w w' := by
  by_cases h0 : s.size = 0
  · have hn := isEmpty_nil h0
    go_enter Tryd.func20, Tryd.ntmps20
    go_wp2_with fail
    go_ret
    exact ⟨retB (keyB_nil h0), Below.refl _ _⟩
  · have hn := isEmpty_ne (s := s) (by omega)
    have hp : 0 < s.size := by omega
    have i0 : (0 : Int) < (s.size : Int) := by omega
    have HT := Lib.hid (fun wX => trimK_any s wX hs)
    have KC := Lib.hid (keyB_cons hp)
    obtain ⟨c, hck⟩ : ∃ c, s[0] = c := ⟨_, rfl⟩
    rw [hck] at KC
    by_cases h40 : 40 < s.size
    · have i40 : (40 : Int) < (s.size : Int) := by omega
      go_enter Tryd.func20, Tryd.ntmps20
      go_wp2_with fail
      go_ret
      exact ⟨retB (by rw [KC.out]; simp; omega), Below.refl _ _⟩
    · have i40 : ¬ (40 : Int) < (s.size : Int) := by omega
      by_cases h97 : (c.toNat : Int) < 97
      · go_enter Tryd.func20, Tryd.ntmps20
        go_wp2_with fail
        go_ret
        exact ⟨retB (by rw [KC.out]; unfold smallB; rw [decide_eq_false (show ¬ 97 ≤ c.toNat by omega)]; simp), Below.refl _ _⟩
      · by_cases h122 : (122 : Int) < (c.toNat : Int)
        · go_enter Tryd.func20, Tryd.ntmps20
          go_wp2_with fail
          go_ret
          exact ⟨retB (by rw [KC.out]; unfold smallB; rw [decide_eq_false (show ¬ c.toNat ≤ 122 by omega)]; simp), Below.refl _ _⟩
        · have hsm : smallB c = true := by unfold smallB; rw [decide_eq_true (show 97 ≤ c.toNat by omega), decide_eq_true (show c.toNat ≤ 122 by omega)]; rfl
          rw [hsm, decide_eq_true (show s.size ≤ 40 by omega)] at KC
          cases hd : s.data.toList.any nkB with
          | false =>
            rw [trimS_all keyCs_nk hd] at HT
            rw [hd] at KC
            unfold keyCs at HT
            go_enter Tryd.func20, Tryd.ntmps20
            go_wp2_with fail
            refine (HT.out _).mono ?_
            rintro e w1 ⟨rfl, hb1⟩
            go_wp2_with fail
            go_ret
            exact ⟨retB (by rw [KC.out]; rfl), hb1⟩
          | true =>
            have he := trimS_some keyCs_nk hd
            rw [hd] at KC
            generalize Lib.trimS s.data.toList keyCs.data.toList = t at he HT
            unfold keyCs at HT
            go_enter Tryd.func20, Tryd.ntmps20
            go_wp2_with fail
            refine (HT.out _).mono ?_
            rintro e w1 ⟨rfl, hb1⟩
            go_wp2_with fail
            go_ret
            exact ⟨retB (by rw [KC.out]; cases t with | nil => exact absurd rfl he | cons => simp), hb1⟩
end Go.Proofs.YteckcanghnligaaDoor
