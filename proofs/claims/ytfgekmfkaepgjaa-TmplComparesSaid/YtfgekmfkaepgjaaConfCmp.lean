/- DERIVED. The order of values of settings, and what the library's comparisons return. Condition: rows of strings that lie in memory. -/
import Derived.Test.YtfgekmfkaepgjaaVal
import Derived.Test.YtfgekmfkaepgjaaShelf
import Derived.Lib.Hide
import Derived.StillTailTactics
import Derived.Laws.Cover1
namespace Go.Proofs.Ytfgekmfkaepgjaa
set_option linter.unusedVariables false
open Go.RowKit
theorem retC {a b : Int} (h : a = b) : Ending.returned (.int .i64 b) = .returned (.int .i64 a) := by rw [h]
/-- The order of two strings. -/
def cS (a b : ByteArray) : Int := if Op.bytesLess a.toList b.toList = true then -1 else if (a.toList == b.toList) = true then 0 else 1
/-- The order of two rows of strings. -/
def cK : List ByteArray → List ByteArray → Int
  | [], [] => 0
  | [], _ :: _ => -1
  | _ :: _, [] => 1
  | a :: ra, b :: rb => if cS a b ≠ 0 then cS a b else cK ra rb
/-- The first one that is not 0. -/
def c3 (a b c : Int) : Int := if a ≠ 0 then a else if b ≠ 0 then b else c
/-- The order of two values, but for their items. -/
def cF (k : Int) (bo : Bool) (i : Int) (t : ByteArray) (ks : List ByteArray) (k' : Int) (bo' : Bool) (i' : Int) (t' : ByteArray) (ks' : List ByteArray) : Int :=
  if Lib.compareInt k k' ≠ 0 then Lib.compareInt k k' else if bo = bo' then c3 (Lib.compareInt i i') (Lib.compareBytes t.data.toList t'.data.toList) (cK ks ks') else if bo' = true then -1 else 1
namespace Vals
/-- The order of two rows of values. -/
def cmp : Vals → Vals → Int
  | .nil, .nil => 0
  | .nil, .cons .. => -1
  | .cons .., .nil => 1
  | .cons k bo i t it ks r, .cons k' bo' i' t' it' ks' r' =>
    if cF k bo i t ks k' bo' i' t' ks' ≠ 0 then cF k bo i t ks k' bo' i' t' ks' else if it.cmp it' ≠ 0 then it.cmp it' else r.cmp r'
end Vals
/-- The order of two values. -/
def cOne (k : Int) (bo : Bool) (i : Int) (t : ByteArray) (it : Vals) (ks : List ByteArray) (k' : Int) (bo' : Bool) (i' : Int) (t' : ByteArray) (it' : Vals) (ks' : List ByteArray) : Int :=
  if cF k bo i t ks k' bo' i' t' ks' ≠ 0 then cF k bo i t ks k' bo' i' t' ks' else it.cmp it'
theorem compareInt_zero {a b : Int} : Lib.compareInt a b = 0 ↔ a = b := by unfold Lib.compareInt; split <;> (try split) <;> omega
theorem cK_nil_r : ∀ l : List ByteArray, cK l [] = if l = [] then 0 else 1
  | [] => rfl
  | _ :: _ => by simp [cK]
theorem cK_at {l m : List ByteArray} {j : Nat} {a b : ByteArray} (h : l[j]? = some a) (g : m[j]? = some b) : cK (l.drop j) (m.drop j) = if cS a b ≠ 0 then cS a b else cK (l.drop (j + 1)) (m.drop (j + 1)) := by
  obtain ⟨h1, rfl⟩ := List.getElem?_eq_some_iff.1 h
  obtain ⟨g1, rfl⟩ := List.getElem?_eq_some_iff.1 g
  rw [List.drop_eq_getElem_cons h1, List.drop_eq_getElem_cons g1]
  rfl
theorem cS_range (a b : ByteArray) : -1 ≤ cS a b ∧ cS a b ≤ 1 := by unfold cS; split <;> (try split) <;> omega
theorem cK_range : ∀ l m : List ByteArray, -1 ≤ cK l m ∧ cK l m ≤ 1
  | [], [] => by simp [cK]
  | [], _ :: _ => by simp [cK]
  | _ :: _, [] => by simp [cK]
  | a :: ra, b :: rb => by
    have h1 := cS_range a b
    have h2 := cK_range ra rb
    unfold cK
    split <;> omega
theorem compareInt_range (a b : Int) : -1 ≤ Lib.compareInt a b ∧ Lib.compareInt a b ≤ 1 := by unfold Lib.compareInt; split <;> (try split) <;> omega
theorem compareBytes_range : ∀ l m : List UInt8, -1 ≤ Lib.compareBytes l m ∧ Lib.compareBytes l m ≤ 1
  | [], [] => by simp [Lib.compareBytes]
  | [], _ :: _ => by simp [Lib.compareBytes]
  | _ :: _, [] => by simp [Lib.compareBytes]
  | a :: ra, b :: rb => by
    have h2 := compareBytes_range ra rb
    unfold Lib.compareBytes
    split
    · omega
    · split <;> omega

set_option maxRecDepth 100000 in
theorem compareS_any (a b : ByteArray) (w : World) :
    Calls Try.prog 62 #[.string a, .string b] w fun e w' => e = .returned (.int .i64 (cS a b)) ∧ w' = w := by
  have hn : ∀ s : ByteArray, ∀ wX, Calls Try.prog 64 #[.string s] wX fun e w' => e = .returned (.bool false) ∧ w' = wX := by
    intro s wX
    go_enter Try.func64, Try.ntmps64
    go_wp2_with fail
    go_ret
    exact ⟨by simp, rfl⟩
  have HNN := Lib.hid hn; clear hn
  cases h1 : Op.bytesLess a.toList b.toList with
  | true =>
    go_enter Try.func62, Try.ntmps62
    go_wp2_with fail
    refine (HNN.out _ _).mono ?_
    rintro e w' ⟨rfl, rfl⟩
    go_wp2_with fail
    refine (HNN.out _ _).mono ?_
    rintro e w' ⟨rfl, rfl⟩
    go_wp2_with fail
    go_ret
    exact ⟨by exact retC (by unfold cS; rw [h1]; rfl), rfl⟩
  | false =>
    cases h2 : (a.toList == b.toList) with
    | true =>
      go_enter Try.func62, Try.ntmps62
      go_wp2_with fail
      refine (HNN.out _ _).mono ?_
      rintro e w' ⟨rfl, rfl⟩
      go_wp2_with fail
      refine (HNN.out _ _).mono ?_
      rintro e w' ⟨rfl, rfl⟩
      go_wp2_with fail
      go_ret
      exact ⟨retC (by unfold cS; rw [h1, h2]; rfl), rfl⟩
    | false =>
      go_enter Try.func62, Try.ntmps62
      go_wp2_with fail
      refine (HNN.out _ _).mono ?_
      rintro e w' ⟨rfl, rfl⟩
      go_wp2_with fail
      refine (HNN.out _ _).mono ?_
      rintro e w' ⟨rfl, rfl⟩
      go_wp2_with fail
      go_ret
      exact ⟨retC (by unfold cS; rw [h1, h2]; rfl), rfl⟩

set_option maxRecDepth 100000 in
set_option maxHeartbeats 800000 in
theorem compareK_any (l m : List ByteArray) (A : Option Addr) (n c : Nat) (A' : Option Addr) (n' c' : Nat) (B : Nat) (w : World) (hn : n ≤ 1099511627776) (hn' : n' ≤ 1099511627776) (hl : KeysAt w B l A n) (hm : KeysAt w B m A' n') :
    Calls Try.prog 57 #[.slice A n c, .slice A' n' c'] w fun e w' => e = .returned (.int .i64 (cK l m)) ∧ w' = w := by
  obtain ⟨hlen, _, hcell⟩ := hl
  obtain ⟨hlen', _, hcell'⟩ := hm
  have HL := Lib.hid hlen; clear hlen
  have HL' := Lib.hid hlen'; clear hlen'
  have HC := Lib.hid hcell; clear hcell
  have HC' := Lib.hid hcell'; clear hcell'
  go_enter Try.func57, Try.ntmps57
  go_wp2_with fail
  go_loop [11] (fun i => ∃ j : Nat, j ≤ n ∧ j ≤ n' ∧ i = .int .i64 j ∧ cK l m = cK (l.drop j) (m.drop j)) (fun i => n - (intOf i).toNat)
  case atStart => exact ⟨0, Nat.zero_le _, Nat.zero_le _, rfl, rfl⟩
  case round =>
    obtain ⟨j, hj, hj', rfl, hx⟩ := hrel
    have HX := Lib.hid hx; clear hx
    by_cases hlt : j < n
    · obtain ⟨b, o, rfl, hb, hcl⟩ := HC.out (by omega)
      obtain ⟨s, hs⟩ : ∃ s, l[j]? = some s := ⟨_, List.getElem?_eq_getElem (by rw [← HL.out]; exact hlt)⟩
      have x0 := hcl j s hs
      by_cases hlt' : j < n'
      · obtain ⟨b', o', rfl, hb', hcl'⟩ := HC'.out (by omega)
        obtain ⟨s', hs'⟩ : ∃ s, m[j]? = some s := ⟨_, List.getElem?_eq_getElem (by rw [← HL'.out]; exact hlt')⟩
        have y0 := hcl' j s' hs'
        have hat := cK_at hs hs'
        have HS := Lib.hid (fun wX => compareS_any s s' wX)
        obtain ⟨x, hx⟩ : ∃ x, cS s s' = x := ⟨_, rfl⟩
        rw [hx] at hat HS
        have HAT := Lib.hid hat; clear hat hx hcl hcl'
        by_cases hx0 : x = 0
        · subst hx0
          go_wp2_with fail
          refine (HS.out _).mono ?_
          rintro e w' ⟨rfl, rfl⟩
          go_wp2_with fail
          go_round
          case rel => exact ⟨j + 1, by omega, by omega, by go_num, by rw [HX.out, HAT.out]; rfl⟩
          case measure => simp [intOf]; omega
        · go_wp2_with fail
          refine (HS.out _).mono ?_
          rintro e w' ⟨rfl, rfl⟩
          go_wp2_with fail
          go_ret
          exact ⟨retC (by rw [HX.out, HAT.out, if_pos hx0]), rfl⟩
      · obtain rfl : j = n' := by omega
        have hz : cK (l.drop j) (m.drop j) = 1 := by
          rw [List.drop_of_length_le (l := m) (by rw [← HL'.out]; exact Nat.le_refl _), cK_nil_r, if_neg]
          intro e
          have := congrArg List.length e
          have h1 := HL.out
          simp at this
          omega
        have HZ := Lib.hid hz; clear hz
        go_wp2_with fail
        go_ret
        exact ⟨retC (by rw [HX.out, HZ.out]), rfl⟩
    · obtain rfl : j = n := by omega
      have h1 : l.drop j = [] := List.drop_of_length_le (by rw [← HL.out]; exact Nat.le_refl _)
      by_cases hlt' : j < n'
      · have hz : cK (l.drop j) (m.drop j) = -1 := by
          rw [h1]
          cases he : m.drop j with
          | nil =>
            have := congrArg List.length he
            have h2 := HL'.out
            simp at this
            omega
          | cons => rfl
        have HZ := Lib.hid hz; clear hz h1
        go_wp2_with fail
        go_ret
        exact ⟨retC (by rw [HX.out, HZ.out]), rfl⟩
      · have hz : cK (l.drop j) (m.drop j) = 0 := by
          rw [h1, List.drop_of_length_le (l := m) (by rw [← HL'.out]; omega)]
          rfl
        have HZ := Lib.hid hz; clear hz h1
        go_wp2_with fail
        go_ret
        exact ⟨retC (by rw [HX.out, HZ.out]), rfl⟩

set_option maxRecDepth 100000 in
theorem or3_any (a b c : Int) (g : Nat) (w : World) (h0 : w.cell? ⟨g, 0, none⟩ = some (.int .i64 a)) (h1 : w.cell? ⟨g, 1, none⟩ = some (.int .i64 b)) (h2 : w.cell? ⟨g, 2, none⟩ = some (.int .i64 c)) :
    Calls Try.prog 56 #[.slice (some ⟨g, 0, none⟩) 3 3] w fun e w' => e = .returned (.int .i64 (c3 a b c)) ∧ w' = w := by
  have hc : ∀ (j : Nat) (x : Int), [a, b, c][j]? = some x → w.cell? ⟨g, j, none⟩ = some (.int .i64 x) := fun j x h => by
    match j, h with
    | 0, h => simp at h; subst h; exact h0
    | 1, h => simp at h; subst h; exact h1
    | 2, h => simp at h; subst h; exact h2
    | j + 3, h => simp at h
  have hz : ∀ (j : Nat) (x : Int), [a, b, c][j]? = some x → x = 0 → c3 a b c = (match j with | 0 => c3 0 b c | 1 => c3 a 0 c | _ => c3 a b 0) := fun j x h hx => by
    match j, h with
    | 0, h => simp at h; subst h; subst hx; rfl
    | 1, h => simp at h; subst h; subst hx; rfl
    | 2, h => simp at h; subst h; subst hx; rfl
    | j + 3, h => simp at h
  clear hz
  have HC := Lib.hid hc; clear hc h0 h1 h2
  go_enter Try.func56, Try.ntmps56
  go_wp2_with fail
  go_loop [8] (fun i => ∃ j : Nat, j ≤ 3 ∧ i = .int .i64 j ∧ (0 < j → a = 0) ∧ (1 < j → b = 0) ∧ (2 < j → c = 0)) (fun i => 3 - (intOf i).toNat)
  case atStart => exact ⟨0, Nat.zero_le _, rfl, by omega, by omega, by omega⟩
  case round =>
    obtain ⟨j, hj, rfl, g0, g1, g2⟩ := hrel
    have G := Lib.hid (And.intro g0 (And.intro g1 g2)); clear g0 g1 g2
    by_cases hlt : j < 3
    · obtain ⟨x, hx⟩ : ∃ x, [a, b, c][j]? = some x := ⟨_, List.getElem?_eq_getElem (by simpa using hlt)⟩
      have x0 := HC.out j x hx
      have HX := Lib.hid hx; clear hx
      by_cases hx0 : x = 0
      · subst hx0
        go_wp2_with fail
        go_round
        case rel =>
          refine ⟨j + 1, by omega, by go_num, ?_⟩
          have h := HX.out
          obtain ⟨g0, g1, g2⟩ := G.out
          match j, h with
          | 0, h => simp at h; exact ⟨fun _ => h, by omega, by omega⟩
          | 1, h => simp at h; exact ⟨fun _ => g0 (by omega), fun _ => h, by omega⟩
          | 2, h => simp at h; exact ⟨fun _ => g0 (by omega), fun _ => g1 (by omega), fun _ => h⟩
          | j + 3, h => simp at h
        case measure => simp [intOf]; omega
      · go_wp2_with fail
        go_ret
        refine ⟨?_, rfl⟩
        have h := HX.out
        obtain ⟨g0, g1, g2⟩ := G.out
        match j, h with
        | 0, h => simp at h; subst h; exact retC (by unfold c3; rw [if_pos hx0])
        | 1, h => simp at h; subst h; exact retC (by unfold c3; rw [g0 (by omega), if_neg (by simp), if_pos hx0])
        | 2, h => simp at h; subst h; exact retC (by unfold c3; rw [g0 (by omega), g1 (by omega), if_neg (by simp), if_neg (by simp)])
        | j + 3, h => simp at h
    · obtain rfl : j = 3 := by omega
      go_wp2_with fail
      go_ret
      obtain ⟨g0, g1, g2⟩ := G.out
      exact ⟨retC (by rw [g0 (by omega), g1 (by omega), g2 (by omega)]; rfl), rfl⟩
end Go.Proofs.Ytfgekmfkaepgjaa
