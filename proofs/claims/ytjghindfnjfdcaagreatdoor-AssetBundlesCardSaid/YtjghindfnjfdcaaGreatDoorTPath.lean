/- DERIVED. What tree.CheckPath, CheckAddress and the reference's IsPart, IsPath, IsAddress return. Condition: the library's variable MaxLen holds a number. -/
import Derived.Test.YtjghindfnjfdcaaGreatDoorTPart
import Derived.Test.YtjghindfnjfdcaaGreatDoorShelf
import Derived.Shelf.Strings.SlTrimAscii
namespace Go.Proofs.YtjghindfnjfdcaaGreatDoor
set_option linter.unusedVariables false
open Go.RowKit
/-- The library's variable MaxLen holds a number. -/
def MaxT (w : World) : Prop := 0 < w.heap.size ∧ ∃ m : Int, w.cell? ⟨0, 0, none⟩ = some (.int .i64 m)
theorem MaxT.below {w w' : World} (h : MaxT w) (hb : Below w.heap.size w w') : MaxT w' :=
  ⟨Nat.lt_of_lt_of_le h.1 hb.size, let ⟨m, hm⟩ := h.2; ⟨m, (hb.cell (p := ⟨0, 0, none⟩) h.1).trans hm⟩⟩
/-- The parts of a string lie in a new row. -/
def RowS (w : World) (b n : Nat) (l : List ByteArray) : Prop := n = l.length ∧ ∀ j x, l[j]? = some x → w.cell? ⟨b, j, none⟩ = some (.string x)
theorem rowS_new (w : World) (l : List ByteArray) : RowS (w.alloc (.cells (l.map Value.string).toArray 9)) w.heap.size l.length l :=
  ⟨rfl, fun j x hj => by rw [cell_of_row _ _ _ _ _ _ (heap_alloc_new w _)]; simp [hj]⟩
theorem tsplit_any (s : ByteArray) (w : World) (hm : MaxT w) (hs : s.size ≤ 200) :
    Calls Tryz.prog 39 #[.string s, .string slashS] w fun e w' => ∃ n, e = .returned (.slice (some ⟨w.heap.size, 0, none⟩) n n) ∧ n ≤ 201 ∧ RowS w' w.heap.size n (tparts s) ∧ Below w.heap.size w w' := by
  obtain ⟨_, m, hm2⟩ := hm
  refine (Tryz.strings_Split s slashS m w (by omega) hm2 (by decide)).mono ?_
  rintro e w' ⟨rfl, rfl⟩
  have hc0 : Lib.countB s slashS ≤ s.size := Lib.countB_le slashS (by decide) s.size s (Nat.le_refl _)
  refine ⟨_, rfl, by omega, ?_, (Below.refl _ _).alloc (Nat.le_refl _) _⟩
  have := rowS_new w (tparts s)
  rwa [tparts_len] at this
set_option maxRecDepth 100000 in
set_option maxHeartbeats 1000000 in
theorem tPath_any (s : ByteArray) (w : World) (hm : MaxT w) :
    Calls Tryz.prog 67 #[.string s] w fun e w' => e = .returned (.bool (tpathB s)) ∧ Below w.heap.size w w' := by
  by_cases h4 : (200 : Int) < (s.size : Int)
  · have HR := Lib.hid (show tpathB s = false by unfold tpathB; rw [decide_eq_false (show ¬ s.size ≤ 200 by omega)]; rfl)
    clear hm
    go_enter Tryz.func67, Tryz.ntmps67
    go_wp2_with fail
    go_ret
    exact ⟨retB HR.out, Below.refl _ _⟩
  · have HR := Lib.hid (show tpathB s = (tparts s).all tpartB by unfold tpathB; rw [decide_eq_true (show s.size ≤ 200 by omega)]; rfl)
    have HS := Lib.hid (tsplit_any s w hm (by omega))
    have hps := fun x (hx : x ∈ tparts s) => tparts_size s x hx
    have HP := Lib.hid (fun x hx => Nat.le_trans (hps x hx) (show s.size ≤ 200 by omega))
    clear hps hm
    unfold slashS at HS
    go_enter Tryz.func67, Tryz.ntmps67
    go_wp2_with fail
    refine HS.out.mono ?_
    rintro e w1 ⟨n, rfl, hn, hrow, hb1⟩
    have HRW := Lib.hid hrow; clear hrow
    go_wp2_with fail
    go_loop [11] (fun i => ∃ k : Nat, k ≤ n ∧ i = .int .i64 k ∧ ((tparts s).take k).all tpartB = true) (fun i => n - (intOf i).toNat)
    case atStart => exact ⟨0, Nat.zero_le _, rfl, rfl⟩
    case round =>
      obtain ⟨k, hk, rfl, hall⟩ := hrel
      have HALL := Lib.hid hall; clear hall
      by_cases hlt : k < n
      · obtain ⟨x, hx⟩ : ∃ x, (tparts s)[k]? = some x := ⟨_, List.getElem?_eq_getElem (by rw [← HRW.out.1]; exact hlt)⟩
        have x0 := HRW.out.2 k x hx
        have hsx := HP.out x (List.mem_of_getElem? hx)
        have hcall := fun wx => tPart_any x wx (by omega)
        have HX := Lib.hid hx
        clear hx hsx
        cases hok : tpartB x with
        | true =>
          rw [hok] at hcall
          have HC := Lib.hid hcall
          have HO := Lib.hid hok
          clear hcall hok
          go_wp2_with fail
          refine (HC.out _).mono ?_
          rintro e w' ⟨rfl, rfl⟩
          go_wp2_with fail
          go_round
          case rel => exact ⟨k + 1, by omega, by go_num, all_take' HX.out HALL.out HO.out⟩
          case measure => simp [intOf]; omega
        | false =>
          rw [hok] at hcall
          have HC := Lib.hid hcall
          have HO := Lib.hid hok
          clear hcall hok
          go_wp2_with fail
          refine (HC.out _).mono ?_
          rintro e w' ⟨rfl, rfl⟩
          go_wp2_with fail
          go_ret
          exact ⟨retB (by rw [HR.out, all_not' HX.out HO.out]), hb1⟩
      · obtain rfl : k = n := by omega
        go_wp2_with fail
        go_ret
        have ha := HALL.out
        rw [List.take_of_length_le (by rw [← HRW.out.1]; exact Nat.le_refl _)] at ha
        exact ⟨retB (by rw [HR.out, ha]), hb1⟩
theorem checkPath_any (s : ByteArray) (w : World) (hm : MaxT w) :
    Calls Tryz.prog 37 #[.string s] w fun e w' => e = .returned (.int .i64 (if tpathB s = true then 0 else 3)) ∧ Below w.heap.size w w' := by
  have h := tPath_any s w hm
  cases hb : tpathB s <;> (
    rw [hb] at h
    have H := Lib.hid h
    clear h hm
    go_enter Tryz.func37, Tryz.ntmps37
    go_wp2_with fail
    refine H.out.mono ?_
    rintro e w1 ⟨rfl, hb1⟩
    go_wp2_with fail
    go_ret
    exact ⟨rfl, hb1⟩)
/-! ### The reference -/
theorem mem_drop'' {p : UInt8 → Bool} : ∀ {l : List UInt8} {x : UInt8}, x ∈ l → p x = false → x ∈ l.dropWhile p
  | a :: r, x, h, hp => by
    unfold List.dropWhile
    rcases List.mem_cons.1 h with rfl | h'
    · rw [hp]; exact h
    · cases p a
      · exact h
      · exact mem_drop'' h' hp
theorem drop_all'' {p : UInt8 → Bool} : ∀ {l : List UInt8}, (∀ x, x ∈ l → p x = true) → l.dropWhile p = []
  | [], _ => rfl
  | a :: r, h => by
    unfold List.dropWhile
    rw [h a (List.mem_cons_self ..)]
    exact drop_all'' fun x hx => h x (List.mem_cons_of_mem _ hx)
theorem trimS_nil {cs l : List UInt8} {p : UInt8 → Bool} (hc : ∀ b, cs.contains b = !p b) (h : l.any p = false) : Lib.trimS l cs = [] := by
  have hm : ∀ x, x ∈ l → cs.contains x = true := fun x hx => by
    rw [hc]
    have := List.any_eq_false.1 h x hx
    simpa using this
  have e : Lib.trimRightS l cs = [] := by
    unfold Lib.trimRightS
    rw [drop_all'' fun x hx => hm x (List.mem_reverse.1 hx)]
    rfl
  unfold Lib.trimS
  rw [e]
  rfl
theorem trimS_ne {cs l : List UInt8} {p : UInt8 → Bool} (hcs : ∀ b, cs.contains b = !p b) (h : l.any p = true) : Lib.trimS l cs ≠ [] := by
  obtain ⟨x, hx, hn⟩ := List.any_eq_true.1 h
  have hc : cs.contains x = false := by rw [hcs, hn]; rfl
  have h1 : x ∈ Lib.trimRightS l cs := by
    unfold Lib.trimRightS
    exact List.mem_reverse.2 (mem_drop'' (List.mem_reverse.2 hx) hc)
  have h2 : x ∈ Lib.trimS l cs := mem_drop'' h1 hc
  intro e
  rw [e] at h2
  cases h2
def partCs : ByteArray := ⟨#[97, 98, 99, 100, 101, 102, 103, 104, 105, 106, 107, 108, 109, 110, 111, 112, 113, 114, 115, 116, 117, 118, 119, 120, 121, 122, 48, 49, 50, 51, 52, 53, 54, 55, 56, 57, 45, 95, 46]⟩
theorem partCs_all : ∀ n, n < 256 → partCs.data.toList.contains (UInt8.ofNat n) = !tnB (UInt8.ofNat n) := by decide +kernel
theorem partCs_tn (b : UInt8) : partCs.data.toList.contains b = !tnB b := by
  have h := partCs_all b.toNat b.toNat_lt
  rwa [UInt8.ofNat_toNat] at h
theorem trimT_any (s : ByteArray) (w : World) (hs : s.size ≤ maxLen) :
    Calls Tryz.prog 70 #[.string s, .string partCs] w fun e w' => e = .returned (.string ⟨(Lib.trimS s.data.toList partCs.data.toList).toArray⟩) ∧ Below w.heap.size w w' :=
  Any.strings_Trim_ascii Tryz.lays160 (fun w => by kernel_rfl) (by kernel_rfl) s _ w (by unfold maxLen at hs; omega) (by decide) (fun j b h => by
    have hm : b ∈ partCs.data.toList := List.mem_of_getElem? h
    have : ∀ b, b ∈ partCs.data.toList → b.toNat < 128 := by decide
    exact this b hm)
set_option maxRecDepth 100000 in
set_option maxHeartbeats 1000000 in
theorem rPart_any (s : ByteArray) (w : World) (hs : s.size ≤ 9223372036854775807) :
    Calls Tryz.prog 41 #[.string s] w fun e w' => e = .returned (.bool (tpartB s)) ∧ Below w.heap.size w w' := by
  by_cases h0 : s.size = 0
  · have hn := isEmpty_nil h0
    have hl := toList_nil h0
    have HR := Lib.hid (show tpartB s = false by unfold tpartB; rw [decide_eq_false (show ¬ 0 < s.size by omega)]; rfl)
    go_enter Tryz.func41, Tryz.ntmps41
    go_wp2_with fail
    go_ret
    exact ⟨retB HR.out, Below.refl _ _⟩
  · have hp : 0 < s.size := by omega
    have hn := isEmpty_ne hp
    by_cases h4 : (40 : Int) < (s.size : Int)
    · have HR := Lib.hid (show tpartB s = false by unfold tpartB; rw [decide_eq_false (show ¬ s.size ≤ 40 by omega)]; simp)
      go_enter Tryz.func41, Tryz.ntmps41
      go_wp2_with fail
      go_ret
      exact ⟨retB HR.out, Below.refl _ _⟩
    · have h4' : (s.size : Int) ≤ 40 := by omega
      clear h4
      cases h1 : (s.toList == [46]) with
      | true =>
        have g1 : (s.toList != [46]) = false := by simpa [bne] using h1
        have HR := Lib.hid (show tpartB s = false by unfold tpartB; rw [h1]; simp)
        go_enter Tryz.func41, Tryz.ntmps41
        go_wp2_with fail
        go_ret
        exact ⟨retB HR.out, Below.refl _ _⟩
      | false =>
        have g1 : (s.toList != [46]) = true := by simpa [bne] using h1
        cases h2 : (s.toList == [46, 46]) with
        | true =>
          have g2 : (s.toList != [46, 46]) = false := by simpa [bne] using h2
          have HR := Lib.hid (show tpartB s = false by unfold tpartB; rw [h2]; simp)
          go_enter Tryz.func41, Tryz.ntmps41
          go_wp2_with fail
          go_ret
          exact ⟨retB HR.out, Below.refl _ _⟩
        | false =>
          have g2 : (s.toList != [46, 46]) = true := by simpa [bne] using h2
          have HR := Lib.hid (show tpartB s = !(s.data.toList.any tnB) by unfold tpartB; rw [h1, h2, decide_eq_true hp, decide_eq_true (show s.size ≤ 40 by omega)]; rfl)
          have HT := Lib.hid (fun wx => trimT_any s wx (by unfold maxLen; omega))
          cases hd : s.data.toList.any tnB with
          | false =>
            rw [trimS_nil partCs_tn hd] at HT
            rw [hd] at HR
            unfold partCs at HT
            go_enter Tryz.func41, Tryz.ntmps41
            go_wp2_with fail
            refine (HT.out _).mono ?_
            rintro e w1 ⟨rfl, hb1⟩
            go_wp2_with fail
            go_ret
            exact ⟨retB (by rw [HR.out]; rfl), hb1⟩
          | true =>
            have he := trimS_ne partCs_tn hd
            rw [hd] at HR
            generalize Lib.trimS s.data.toList partCs.data.toList = t at he HT
            unfold partCs at HT
            go_enter Tryz.func41, Tryz.ntmps41
            go_wp2_with fail
            refine (HT.out _).mono ?_
            rintro e w1 ⟨rfl, hb1⟩
            go_wp2_with fail
            go_ret
            exact ⟨retB (by rw [HR.out]; cases t with | nil => exact absurd rfl he | cons => simp), hb1⟩
end Go.Proofs.YtjghindfnjfdcaaGreatDoor
