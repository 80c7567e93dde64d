/- DERIVED. What conf's checkKeys returns. Condition: at most 2^40 keys, each shorter than 2^63 bytes. -/
import Derived.Test.YteckcanghnligaaDoorConfSmall
import Derived.BigQuiet
import Derived.Deep.QuietTactic
namespace Go.Proofs.YteckcanghnligaaDoor
set_option linter.unusedVariables false
open Go.RowKit
/-- The key at a place, the one before it. -/
def prevOf (l : List ByteArray) (k : Nat) : Option ByteArray := if k = 0 then none else l[k - 1]?
theorem keysErr_cons (le : ByteArray → ByteArray → Bool) (p : Option ByteArray) (s : ByteArray) (r : List ByteArray) :
    keysErr le p (s :: r) = if keyB s = false then 12 else if (match p with | none => false | some q => le s q) = true then 5 else keysErr le (some s) r := rfl
theorem keysErr_at (le : ByteArray → ByteArray → Bool) {l : List ByteArray} {k : Nat} {s : ByteArray} (h : l[k]? = some s) :
    keysErr le (prevOf l k) (l.drop k) = if keyB s = false then 12 else if (match prevOf l k with | none => false | some q => le s q) = true then 5 else keysErr le (prevOf l (k + 1)) (l.drop (k + 1)) := by
  obtain ⟨hk, rfl⟩ := List.getElem?_eq_some_iff.1 h
  rw [List.drop_eq_getElem_cons hk, keysErr_cons]
  have e : prevOf l (k + 1) = some l[k] := by unfold prevOf; rw [if_neg (by omega), Nat.add_sub_cancel]; exact List.getElem?_eq_getElem hk
  rw [e]
/-- a is not behind b. -/
def leS (a b : ByteArray) : Bool := Op.bytesLess a.toList b.toList || a.toList == b.toList
set_option maxRecDepth 100000 in
set_option maxHeartbeats 1000000 in
theorem checkKeys_any (l : List ByteArray) (A : Option Addr) (n c : Nat) (w : World) (hn : n ≤ 1099511627776) (hl : KeysAt w w.heap.size l A n) :
    Calls Tryd.prog 37 #[.slice A n c] w fun e w' => e = .returned (.int .i64 (keysErr leS none l)) ∧ Below w.heap.size w w' := by
  obtain ⟨hlen, hsz, hcell⟩ := hl
  have HL := Lib.hid hlen; clear hlen
  have HZ := Lib.hid hsz; clear hsz
  have HC := Lib.hid hcell; clear hcell
  go_enter Tryd.func37, Tryd.ntmps37
  go_wp2_with fail
  go_loopw [7] (fun i wr => ∃ k : Nat, k ≤ n ∧ i = .int .i64 k ∧ keysErr leS none l = keysErr leS (prevOf l k) (l.drop k) ∧ Below w.heap.size w wr) (fun i _ => n - (intOf i).toNat)
  case atStart => exact ⟨0, Nat.zero_le _, rfl, rfl, Below.refl _ _⟩
  case round =>
    obtain ⟨k, hk, rfl, hx, hbw⟩ := hrel
    have HX := Lib.hid hx; clear hx
    by_cases hlt : k < n
    · obtain ⟨b, o, rfl, hb, hcl⟩ := HC.out (by omega)
      have hkl : k < l.length := by rw [← HL.out]; exact hlt
      obtain ⟨s, hs⟩ : ∃ s, l[k]? = some s := ⟨_, List.getElem?_eq_getElem hkl⟩
      have x0 := (hbw.cell (p := ⟨b, o + k, none⟩) hb).trans (hcl k s hs)
      have hss := HZ.out s (List.mem_of_getElem? hs)
      have hat := keysErr_at leS hs
      unfold maxLen at hss
      have HK := Lib.hid (fun wx => isKey_any s wx (by omega))
      have HAT := Lib.hid hat; clear hat
      cases hkb : keyB s with
      | false =>
        rw [hkb] at HK
        have HB := Lib.hid hkb; clear hkb
        go_wp2_with fail
        refine (HK.out _).mono ?_
        rintro e w' ⟨rfl, rfl⟩
        go_wp2_with fail
        go_ret
        exact ⟨retI (by rw [HX.out, HAT.out, if_pos HB.out]), hbw⟩
      | true =>
        rw [hkb] at HK
        have HB := Lib.hid hkb; clear hkb
        by_cases h0 : k = 0
        · subst h0
          simp only [Nat.add_zero] at x0
          go_wp2_with fail
          refine (HK.out _).mono ?_
          rintro e w' ⟨rfl, rfl⟩
          go_wp2_with fail
          go_roundw
          case rel => exact ⟨1, by omega, by go_num, by rw [HX.out, HAT.out, HB.out]; rfl, hbw⟩
          case measure => simp [intOf]; omega
        · obtain ⟨q, hq⟩ : ∃ q, l[k - 1]? = some q := ⟨_, List.getElem?_eq_getElem (by omega)⟩
          have x1 := (hbw.cell (p := ⟨b, o + (k - 1), none⟩) hb).trans (hcl (k - 1) q hq)
          have hpq : prevOf l k = some q := by unfold prevOf; rw [if_neg h0]; exact hq
          have HPQ := Lib.hid hpq; clear hpq
          cases hle : (Op.bytesLess s.toList q.toList || s.toList == q.toList) with
          | true =>
            go_wp2_with fail
            refine (HK.out _).mono ?_
            rintro e w' ⟨rfl, rfl⟩
            go_wp2_with fail
            go_ret
            exact ⟨retI (by rw [HX.out, HAT.out, HB.out, HPQ.out]; simp only [leS, hle]; rfl), hbw⟩
          | false =>
            go_wp2_with fail
            refine (HK.out _).mono ?_
            rintro e w' ⟨rfl, rfl⟩
            go_wp2_with fail
            go_roundw
            case rel => exact ⟨k + 1, by omega, by go_num, by rw [HX.out, HAT.out, HB.out, HPQ.out]; simp only [leS, hle]; rfl, hbw⟩
            case measure => simp [intOf]; omega
    · obtain rfl : k = n := by omega
      go_wp2_with fail
      go_ret
      exact ⟨retI (by rw [HX.out, List.drop_of_length_le (by rw [HL.out]; exact Nat.le_refl _)]; rfl), hbw⟩
end Go.Proofs.YteckcanghnligaaDoor
