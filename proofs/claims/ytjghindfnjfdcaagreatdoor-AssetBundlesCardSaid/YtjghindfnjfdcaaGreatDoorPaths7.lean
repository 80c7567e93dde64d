/- DERIVED. asset.checkPaths. Condition: the library's variable MaxLen holds a number. -/
import Derived.Test.YtjghindfnjfdcaaGreatDoorTAddr
import Derived.WalkSmall
import Derived.Lib.SlicesS
namespace Go.Proofs.YtjghindfnjfdcaaGreatDoor
open Go.RowKit
set_option linter.unusedVariables false
/-- A row of strings in memory below B. -/
def StrRow (w : World) (B : Nat) (A : Option Addr) (l : List ByteArray) : Prop := l = [] ∨ ∃ b off, A = some ⟨b, off, none⟩ ∧ b < B ∧ ∀ j x, l[j]? = some x → w.cell? ⟨b, off + j, none⟩ = some (.string x)
theorem StrRow.below {w w' : World} {B n : Nat} {A : Option Addr} {l : List ByteArray} (h : StrRow w B A l) (hb : Below n w w') (hn : B ≤ n) : StrRow w' B A l := by
  rcases h with h | ⟨b, off, hA, hl, hc⟩
  · exact .inl h
  · exact .inr ⟨b, off, hA, hl, fun j x hx => (hb.cell (p := ⟨b, off + j, none⟩) (by show b < n; omega)).trans (hc j x hx)⟩
theorem StrRow.more {w : World} {B B' : Nat} {A : Option Addr} {l : List ByteArray} (h : StrRow w B A l) (hB : B ≤ B') : StrRow w B' A l := by
  rcases h with h | ⟨b, off, hA, hl, hc⟩
  · exact .inl h
  · exact .inr ⟨b, off, hA, by omega, hc⟩
/-- The first error of paths, those ahead of which are d. -/
def pE : List ByteArray → List ByteArray → Int
  | _, [] => 0
  | d, x :: r => if tpathB x = false then 3 else if Lib.containsS d x = true then 6 else pE (d ++ [x]) r
def pathsE (l : List ByteArray) : Int := pE [] l
theorem pE_next {l : List ByteArray} {k : Nat} {x : ByteArray} (hx : l[k]? = some x) : pE (l.take k) (l.drop k) = if tpathB x = false then 3 else if Lib.containsS (l.take k) x = true then 6 else pE (l.take (k + 1)) (l.drop (k + 1)) := by
  have hk := (List.getElem?_eq_some_iff.1 hx).1
  have e : l.drop k = x :: l.drop (k + 1) := by
    rw [List.drop_eq_getElem_cons hk]
    congr 1
    exact (List.getElem?_eq_some_iff.1 hx).2
  rw [e]
  show (if tpathB x = false then 3 else if Lib.containsS (l.take k) x = true then 6 else pE (l.take k ++ [x]) (l.drop (k + 1)) : Int) = _
  rw [List.take_add_one, hx]
  rfl
set_option maxRecDepth 100000 in
set_option maxHeartbeats 800000 in
theorem paths_any (A : Option Addr) (n c : Nat) (l : List ByteArray) (w : World) (hl : l.length = n) (hn : n ≤ c) (hcm : c ≤ 9223372036854775807) (hm : MaxT w) (hR : StrRow w w.heap.size A l) :
    Calls Tryz.prog 12 #[.slice A n c] w fun e w' => e = .returned (.int .i64 (pathsE l)) ∧ Below w.heap.size w w' := by
  have HL := Lib.hid hl
  have HM := Lib.hid hm
  have HR := Lib.hid hR
  clear hl hm hR
  go_enter Tryz.func12, Tryz.ntmps12
  go_wp2_with fail
  go_loopw [7] (fun i wr => ∃ k : Nat, k ≤ n ∧ i = .int .i64 k ∧ pathsE l = pE (l.take k) (l.drop k) ∧ Below w.heap.size w wr) (fun i _ => n - (intOf i).toNat)
  case atStart => exact ⟨0, Nat.zero_le _, rfl, rfl, Below.refl _ _⟩
  case round =>
    obtain ⟨k, hk, rfl, he, hbw⟩ := hrel
    by_cases hlt : k < n
    · obtain ⟨x, hx⟩ : ∃ x, l[k]? = some x := ⟨_, List.getElem?_eq_getElem (by rw [HL.out]; exact hlt)⟩
      obtain ⟨b, off, rfl, hb, hc⟩ : ∃ b off, A = some ⟨b, off, none⟩ ∧ b < w.heap.size ∧ ∀ j x, l[j]? = some x → w.cell? ⟨b, off + j, none⟩ = some (.string x) := by
        rcases HR.out with h | h
        · rw [h] at hx; simp at hx
        · exact h
      have hac : wr.cell? ⟨b, off + k, none⟩ = some (.string x) := (hbw.cell (p := ⟨b, off + k, none⟩) hb).trans (hc k x hx)
      have hnx := he.trans (pE_next hx)
      have HC := Lib.hid (fun wX (hX : Below w.heap.size w wX) => checkPath_any x wX (HM.out.below hX))
      have HCT := Lib.hid (fun wX (hX : Below w.heap.size w wX) => Tryz.slices_Contains_string b off k c (l.take k) x wX (by rw [List.length_take, HL.out]; omega) (by omega) (fun j hj => by
        have hj2 : j < k := by rw [List.length_take] at hj; omega
        have hjl : j < l.length := by rw [HL.out]; omega
        refine (hX.cell (p := ⟨b, off + j, none⟩) hb).trans ?_
        rw [hc j l[j] (List.getElem?_eq_getElem hjl), List.getD_eq_getElem?_getD, List.getElem?_take_of_lt hj2, List.getElem?_eq_getElem hjl]
        rfl))
      have HBW := Lib.hid hbw
      clear he hx hc hbw
      cases hp : tpathB x with
      | false =>
        rw [if_pos hp] at hnx
        rw [hp] at HC
        have HN := Lib.hid hnx
        clear hnx hp
        go_wp2_with fail
        refine (HC.out _ HBW.out).mono ?_
        rintro e w1 ⟨rfl, hb1⟩
        have HB := Lib.hid (HBW.out.trans (hb1.mono HBW.out.size))
        clear hb1
        go_wp2_with fail
        go_ret
        exact ⟨by rw [HN.out]; rfl, HB.out⟩
      | true =>
        rw [if_neg (by rw [hp]; decide)] at hnx
        rw [hp] at HC
        cases hct : Lib.containsS (l.take k) x with
        | true =>
          rw [if_pos hct] at hnx
          have HN := Lib.hid hnx
          have HQ := Lib.hid (show Lib.containsS ((l.take k).take k) x = true by rw [List.take_take, Nat.min_self]; exact hct)
          clear hnx hp hct
          go_wp2_with fail
          refine (HC.out _ HBW.out).mono ?_
          rintro e w1 ⟨rfl, hb1⟩
          have HB := Lib.hid (HBW.out.trans (hb1.mono HBW.out.size))
          clear hb1
          go_wp2_with fail
          refine (HCT.out _ HB.out).mono ?_
          rintro e w' ⟨rfl, rfl⟩
          rw [HQ.out]
          go_wp2_with fail
          go_ret
          exact ⟨by rw [HN.out]; rfl, HB.out⟩
        | false =>
          rw [if_neg (by rw [hct]; decide)] at hnx
          have HN := Lib.hid hnx
          have HQ := Lib.hid (show Lib.containsS ((l.take k).take k) x = false by rw [List.take_take, Nat.min_self]; exact hct)
          clear hnx hp hct
          go_wp2_with fail
          refine (HC.out _ HBW.out).mono ?_
          rintro e w1 ⟨rfl, hb1⟩
          have HB := Lib.hid (HBW.out.trans (hb1.mono HBW.out.size))
          clear hb1
          go_wp2_with fail
          refine (HCT.out _ HB.out).mono ?_
          rintro e w' ⟨rfl, rfl⟩
          rw [HQ.out]
          go_wp2_with fail
          go_roundw
          case rel => exact ⟨k + 1, by omega, by go_num, HN.out, HB.out⟩
          case measure => simp [intOf]; omega
    · have hkn : k = n := by omega
      have hd : l.drop k = [] := List.drop_eq_nil_of_le (by rw [HL.out]; omega)
      rw [hd] at he
      have HN := Lib.hid he
      have HBW := Lib.hid hbw
      clear he hd hbw
      go_wp2_with fail
      go_ret
      exact ⟨by rw [HN.out]; cases l.take k <;> rfl, HBW.out⟩
end Go.Proofs.YtjghindfnjfdcaaGreatDoor
