/- DERIVED. asset.anyLarge of files in memory. Condition: a slice of files that a slice can hold. -/
import Derived.Test.YtjghindfnjfdcaaGreatDoorBunPlain
import Derived.Test.YtjghindfnjfdcaaGreatDoorShelf
import Derived.WalkKit
import Derived.WalkSpells
import Derived.WalkLawsBesides
import Derived.WalkSmall
import Derived.Laws.Rows
import Derived.Lib.Hide
import Derived.Shelf.Abstract
import Derived.Laws.EntriesVeiled
namespace Go.Proofs.YtjghindfnjfdcaaGreatDoor
open Go.RowKit
set_option linter.unusedVariables false
set_option linter.unusedSimpArgs false
/-- Files in memory below B. -/
def FilesAt (w : World) (B : Nat) (A : Option Addr) (L : List (ByteArray × ByteArray)) : Prop := L = [] ∨ ∃ b off, A = some ⟨b, off, none⟩ ∧ b < B ∧ ∀ (j : Nat) (p : ByteArray × ByteArray), L[j]? = some p → w.cell? ⟨b, off + j * 2, none⟩ = some (.string p.1) ∧ w.cell? ⟨b, off + j * 2 + 1, none⟩ = some (.string p.2)
theorem FilesAt.below {w w' : World} {B n : Nat} {A : Option Addr} {L : List (ByteArray × ByteArray)} (h : FilesAt w B A L) (hb : Below n w w') (hn : B ≤ n) : FilesAt w' B A L := by
  rcases h with h | ⟨b, off, hA, hl, hc⟩
  · exact .inl h
  · exact .inr ⟨b, off, hA, hl, fun j p hp => ⟨(hb.cell (p := ⟨b, off + j * 2, none⟩) (by show b < n; omega)).trans (hc j p hp).1, (hb.cell (p := ⟨b, off + j * 2 + 1, none⟩) (by show b < n; omega)).trans (hc j p hp).2⟩⟩
theorem FilesAt.more {w : World} {B B' : Nat} {A : Option Addr} {L : List (ByteArray × ByteArray)} (h : FilesAt w B A L) (hB : B ≤ B') : FilesAt w B' A L := by
  rcases h with h | ⟨b, off, hA, hl, hc⟩
  · exact .inl h
  · exact .inr ⟨b, off, hA, by omega, hc⟩
theorem FilesAt.at {w : World} {B : Nat} {A : Option Addr} {L : List (ByteArray × ByteArray)} (h : FilesAt w B A L) {k : Nat} {p : ByteArray × ByteArray} (hk : L[k]? = some p) : ∃ b off, A = some ⟨b, off, none⟩ ∧ b < B ∧ w.cell? ⟨b, off + k * 2, none⟩ = some (.string p.1) ∧ w.cell? ⟨b, off + k * 2 + 1, none⟩ = some (.string p.2) := by
  rcases h with h | ⟨b, off, hA, hl, hc⟩
  · rw [h] at hk; simp at hk
  · exact ⟨b, off, hA, hl, hc k p hk⟩
def fstL : List (ByteArray × ByteArray) → Int → Int
  | [], _ => -1
  | p :: r, k => if 20000 < p.2.size then k else fstL r (k + 1)
theorem fstL_any : ∀ (L : List (ByteArray × ByteArray)) (k : Int), 0 ≤ k → decide (0 ≤ fstL L k) = anyL L
  | [], k, h => by simp [fstL, anyL]
  | p :: r, k, h => by
    have ih := fstL_any r (k + 1) (by omega)
    unfold fstL
    by_cases h1 : 20000 < p.2.size
    · rw [if_pos h1, decide_eq_true h]; simp [anyL, h1]
    · rw [if_neg h1, ih]; simp [anyL, h1]
theorem fstL_ge : ∀ (L : List (ByteArray × ByteArray)) (k : Int), 0 ≤ k → -1 ≤ fstL L k
  | [], k, h => by simp [fstL]
  | p :: r, k, h => by
    unfold fstL
    split
    · omega
    · exact fstL_ge r (k + 1) (by omega)
theorem large1_any (p b : ByteArray) (w : World) : Calls Tryz.prog 34 #[.agg #[.string p, .string b]] w fun e w' => e = .returned (.bool (decide (20000 < b.size))) ∧ Below w.heap.size w w' := by
  have hb0 := (Below.refl w.heap.size w).alloc (Nat.le_refl _) (.cells #[.string p, .string b] 37)
  have HB := Lib.hid hb0
  clear hb0
  by_cases h : 20000 < b.size
  · have hi : (20000 : Int) < (b.size : Int) := by omega
    have HD := Lib.hid (decide_eq_true h)
    go_enter Tryz.func34, Tryz.ntmps34
    go_wp2_with fail
    go_ret
    exact ⟨by first | (rw [HD.out]; rfl) | rfl, HB.out⟩
  · have hi : ¬ (20000 : Int) < (b.size : Int) := by omega
    have HD := Lib.hid (decide_eq_false h)
    go_enter Tryz.func34, Tryz.ntmps34
    go_wp2_with fail
    go_ret
    exact ⟨by first | (rw [HD.out]; rfl) | rfl, HB.out⟩
set_option maxRecDepth 100000 in
set_option maxHeartbeats 800000 in
theorem idxF_any (A : Option Addr) (n c : Nat) (L : List (ByteArray × ByteArray)) (w : World) (hl : L.length = n) (hn : n ≤ 4611686018427387904) (hF : FilesAt w w.heap.size A L) :
    Calls Tryz.prog 65 #[.slice A n c, .func (.func 34) #[] #[]] w fun e w' => e = .returned (.int .i64 (fstL L 0)) ∧ Below w.heap.size w w' := by
  have eg : ∀ args w, (callFunc 34 args).run Tryz.prog w = .ok (.enter 34 args) w := enters_of Tryz.func34 (by kernel_rfl) rfl
  have HL := Lib.hid hl
  have HF := Lib.hid hF
  have HC := Lib.hid (fun p b wX => large1_any p b wX)
  clear hl hF
  go_enter Tryz.func65, Tryz.ntmps65
  go_wp2_with fail
  go_loopw [8] (fun i wr => ∃ k : Nat, k ≤ n ∧ i = .int .i64 k ∧ fstL L 0 = fstL (L.drop k) k ∧ Below w.heap.size w wr) (fun i _ => n - (intOf i).toNat)
  case atStart => exact ⟨0, Nat.zero_le _, rfl, rfl, Below.refl _ _⟩
  case round =>
    obtain ⟨k, hk, rfl, hx, hbw⟩ := hrel
    have HX := Lib.hid hx
    have HB := Lib.hid hbw
    clear hx hbw
    by_cases hlt : k < n
    · obtain ⟨p, hp⟩ : ∃ p, L[k]? = some p := ⟨_, List.getElem?_eq_getElem (by rw [HL.out]; exact hlt)⟩
      obtain ⟨b, off, rfl, hb, g0, g1⟩ := (HF.out.below HB.out (Nat.le_refl _)).at hp
      obtain ⟨p1, p2⟩ := p
      dsimp only at g0 g1
      have hd : L.drop k = (p1, p2) :: L.drop (k + 1) := by
        have h := List.drop_eq_getElem_cons (l := L) (i := k) (by rw [HL.out]; exact hlt)
        rw [h]
        congr 1
        exact (List.getElem?_eq_some_iff.1 hp).2
      have HN := Lib.hid (show fstL L 0 = if 20000 < p2.size then (k : Int) else fstL (L.drop (k + 1)) (k + 1) by rw [HX.out, hd]; rfl)
      clear hd hp
      go_wp2_with fail
      refine (HC.out p1 p2 _).mono ?_
      rintro e w2 ⟨rfl, hb2⟩
      have HB2 := Lib.hid (HB.out.trans (hb2.mono HB.out.size))
      clear hb2
      by_cases h20 : 20000 < p2.size
      · have hd : decide (20000 < p2.size) = true := decide_eq_true h20
        have HN2 := Lib.hid (HN.out.trans (if_pos h20))
        rw [hd]
        clear hd h20
        go_wp2_with fail
        go_ret
        exact ⟨by rw [HN2.out]; rfl, HB2.out⟩
      · have hd : decide (20000 < p2.size) = false := decide_eq_false h20
        have HN2 := Lib.hid (HN.out.trans (if_neg h20))
        rw [hd]
        clear hd h20
        go_wp2_with fail
        go_roundw
        case rel => exact ⟨k + 1, by omega, by go_num, by rw [HN2.out]; rfl, HB2.out⟩
        case measure => simp [intOf]; omega
    · obtain rfl : k = n := by omega
      have HN := Lib.hid (show fstL L 0 = -1 by rw [HX.out, List.drop_of_length_le (by rw [HL.out]; exact Nat.le_refl _)]; rfl)
      go_wp2_with fail
      go_ret
      exact ⟨by rw [HN.out]; rfl, HB.out⟩
set_option maxRecDepth 100000 in
set_option maxHeartbeats 800000 in
theorem anyLarge_any (A : Option Addr) (n c : Nat) (L : List (ByteArray × ByteArray)) (w : World) (hl : L.length = n) (hn : n ≤ 4611686018427387904) (hF : FilesAt w w.heap.size A L) :
    Calls Tryz.prog 7 #[.slice A n c] w fun e w' => e = .returned (.bool (anyL L)) ∧ Below w.heap.size w w' := by
  have hI := idxF_any A n c L w hl hn hF
  have hf := fstL_any L 0 (by decide)
  have hg := fstL_ge L 0 (by decide)
  generalize fstL L 0 = x at hI hf hg
  have HI := Lib.hid hI
  by_cases h0 : 0 ≤ x
  · have HA := Lib.hid (hf.symm.trans (decide_eq_true h0))
    clear hI hf hF
    have hc : Calls Tryz.prog 33 #[.slice A n c, .func (.func 34) #[] #[]] w fun e w' => e = .returned (.bool true) ∧ Below w.heap.size w w' := by
      go_enter Tryz.func33, Tryz.ntmps33
      go_wp2_with fail
      refine HI.out.mono ?_
      rintro e w1 ⟨rfl, hb1⟩
      go_wp2_with fail
      go_ret
      exact ⟨rfl, hb1⟩
    have HC := Lib.hid hc
    clear hc
    go_enter Tryz.func7, Tryz.ntmps7
    go_wp2_with fail
    refine HC.out.mono ?_
    rintro e w1 ⟨rfl, hb1⟩
    go_wp2_with fail
    go_ret
    exact ⟨by rw [HA.out]; rfl, hb1⟩
  · have HA := Lib.hid (hf.symm.trans (decide_eq_false h0))
    clear hI hf hF
    have hc : Calls Tryz.prog 33 #[.slice A n c, .func (.func 34) #[] #[]] w fun e w' => e = .returned (.bool false) ∧ Below w.heap.size w w' := by
      go_enter Tryz.func33, Tryz.ntmps33
      go_wp2_with fail
      refine HI.out.mono ?_
      rintro e w1 ⟨rfl, hb1⟩
      go_wp2_with fail
      go_ret
      exact ⟨by first | rfl | simp [h0], hb1⟩
    have HC := Lib.hid hc
    clear hc
    go_enter Tryz.func7, Tryz.ntmps7
    go_wp2_with fail
    refine HC.out.mono ?_
    rintro e w1 ⟨rfl, hb1⟩
    go_wp2_with fail
    go_ret
    exact ⟨by rw [HA.out]; rfl, hb1⟩
end Go.Proofs.YtjghindfnjfdcaaGreatDoor
