/- DERIVED. What cutParts, cutRoute and the reference's RouteParts return: the parts of a route. Condition: the library's variable MaxLen holds a number. -/
import Derived.Test.YtohkdckllmmfhaaGreatDoorPart
import Derived.Test.YtohkdckllmmfhaaGreatDoorConfKeys
namespace Go.Proofs.YtohkdckllmmfhaaGreatDoor
open Go.RowKit
set_option linter.unusedVariables false
/-- The library's variable MaxLen holds a number. -/
def MaxL (w : World) : Prop := 0 < w.heap.size ∧ ∃ m : Int, w.cell? ⟨0, 0, none⟩ = some (.int .i64 m)
theorem MaxL.below {w w' : World} (h : MaxL w) (hb : Below w.heap.size w w') : MaxL w' :=
  ⟨Nat.lt_of_lt_of_le h.1 hb.size, let ⟨m, hm⟩ := h.2; ⟨m, (hb.cell (p := ⟨0, 0, none⟩) h.1).trans hm⟩⟩
def dotS : ByteArray := ⟨#[46]⟩
def partsS (s : ByteArray) : List ByteArray := Lib.splitB dotS 0 (Lib.countB s dotS) s
def cutB (ok : ByteArray → Bool) (s : ByteArray) : Bool := decide (s.size ≤ 400) && (partsS s).all ok
theorem splitB_size (sep : ByteArray) : ∀ (k : Nat) (s x : ByteArray), x ∈ Lib.splitB sep 0 k s → x.size ≤ s.size
  | 0, s, x, h => by
    rw [Lib.splitB_zero] at h
    rw [List.mem_singleton.1 h]
    exact Nat.le_refl _
  | k + 1, s, x, h => by
    unfold Lib.splitB at h
    split at h
    · rw [List.mem_singleton.1 h]; exact Nat.le_refl _
    · rcases List.mem_cons.1 h with rfl | h
      · simp; omega
      · have := splitB_size sep k _ x h
        simp at this
        omega
theorem partsS_size (s x : ByteArray) (h : x ∈ partsS s) : x.size ≤ s.size := splitB_size dotS _ s x h
theorem partsS_len (s : ByteArray) : (partsS s).length = Lib.countB s dotS + 1 := Lib.splitB_all dotS (by decide) 0 _ s rfl
theorem all_take {ok : ByteArray → Bool} {l : List ByteArray} {k : Nat} {x : ByteArray} (h : l[k]? = some x) (h0 : (l.take k).all ok = true) (hx : ok x = true) : (l.take (k + 1)).all ok = true := by
  rw [List.take_add_one, h, List.all_append, h0]
  simp [hx]
theorem all_not {ok : ByteArray → Bool} {l : List ByteArray} {k : Nat} {x : ByteArray} (h : l[k]? = some x) (hx : ok x = false) : l.all ok = false := by
  rw [List.all_eq_false]
  exact ⟨x, List.mem_of_getElem? h, by rw [hx]; simp⟩
/-- The parts, and that they are all right; or none. -/
def CutPost (ok : Bool) (l : List ByteArray) (w : World) (e : Ending) (w' : World) : Prop :=
  ∃ (A : Option Addr) (n c : Nat), e = .returned (.tuple #[.slice A n c, .bool ok]) ∧ (if ok = true then n ≤ c ∧ c ≤ 4294967281 ∧ KeysAt w' w'.heap.size l A n else A = none ∧ n = 0 ∧ c = 0) ∧ Below w.heap.size w w'
theorem parts_lie (s : ByteArray) (w : World) (hs : s.size ≤ 400) : KeysAt (w.alloc (.cells ((partsS s).map Value.string).toArray 9)) (w.heap.size + 1) (partsS s) (some ⟨w.heap.size, 0, none⟩) (Lib.countB s dotS + 1) := by
  refine ⟨(partsS_len s).symm, fun x hx => by have := partsS_size s x hx; unfold maxLen; omega, fun _ => ⟨w.heap.size, 0, rfl, by omega, fun j x hj => ?_⟩⟩
  rw [cell_of_row _ _ _ _ _ _ (heap_alloc_new w _), Nat.zero_add]
  simp [hj]
set_option maxRecDepth 100000 in
set_option maxHeartbeats 1000000 in
theorem cutParts_any (f : FuncId) (ok : ByteArray → Bool) (hf : ∀ (x : ByteArray) (wx : World), x.size ≤ 9223372036854775807 → Calls Tryz.prog f #[.string x] wx fun e w' => e = .returned (.bool (ok x)) ∧ wx = w')
    (hen : ∀ args w, (callFunc f args).run Tryz.prog w = .ok (.enter f args) w) (s : ByteArray) (w : World) (hm : MaxL w) :
    Calls Tryz.prog 53 #[.string s, .func (Fn.func f) #[] #[]] w (CutPost (cutB ok s) (partsS s) w) := by
  by_cases h4 : (400 : Int) < (s.size : Int)
  · have hb : cutB ok s = false := by unfold cutB; rw [decide_eq_false (by omega)]; rfl
    rw [hb]
    clear hb hf
    go_enter Tryz.func53, Tryz.ntmps53
    go_wp2_with fail
    go_ret2
    exact ⟨none, 0, 0, rfl, ⟨rfl, rfl, rfl⟩, Below.refl _ _⟩
  · obtain ⟨hm1, m, hm2⟩ := hm
    have HS := Lib.hid (Tryz.strings_Split s dotS m w (by omega) hm2 (by decide))
    have HF := Lib.hid hf
    have hc0 : Lib.countB s dotS ≤ s.size := Lib.countB_le dotS (by decide) s.size s (Nat.le_refl _)
    have hcl : Lib.countB s dotS + 1 ≤ 401 := by omega
    have HK := Lib.hid (parts_lie s w (by omega))
    have hcb : cutB ok s = (partsS s).all ok := by unfold cutB; rw [decide_eq_true (by omega)]; rfl
    rw [hcb]
    have hpl := partsS_len s
    have e1 : (Lib.splitB dotS 0 (Lib.countB s dotS) s) = partsS s := rfl
    rw [e1] at HS
    generalize Lib.countB s dotS + 1 = n at HS hcl HK hpl
    generalize partsS s = l at HS HK hpl ⊢
    have HPL := Lib.hid hpl
    have HB := Lib.hid ((Below.refl w.heap.size w).alloc (Nat.le_refl _) (.cells (l.map Value.string).toArray 9))
    have HZ := Lib.hid (show (w.alloc (.cells (l.map Value.string).toArray 9)).heap.size = w.heap.size + 1 by simp)
    clear hf hm2 hm1 hc0 hcb hpl e1
    generalize w.alloc (.cells (l.map Value.string).toArray 9) = w1 at HS HK HB HZ
    unfold dotS at HS
    go_enter Tryz.func53, Tryz.ntmps53
    go_wp2_with fail
    refine HS.out.mono ?_
    rintro e w2 ⟨rfl, rfl⟩
    go_wp2_with fail
    go_loop [4, 7, 15] (fun v _ i => ∃ k : Nat, v = .slice (some ⟨w.heap.size, 0, none⟩) n n ∧ k ≤ n ∧ i = .int .i64 k ∧ (l.take k).all ok = true) (fun _ _ i => n - (intOf i).toNat)
    case atStart => exact ⟨0, rfl, Nat.zero_le _, rfl, rfl⟩
    case round =>
      obtain ⟨k, rfl, hk, rfl, hall⟩ := hrel
      have HALL := Lib.hid hall; clear hall
      by_cases hlt : k < n
      · have hkl : k < l.length := by rw [HPL.out]; exact hlt
        obtain ⟨x, hx⟩ : ∃ x, l[k]? = some x := ⟨_, List.getElem?_eq_getElem hkl⟩
        obtain ⟨b, o, hbo, -, hcell⟩ := HK.out.2.2 (by omega)
        cases hbo
        have x0 := hcell k x hx
        simp only [Nat.zero_add] at x0
        have hsx := HK.out.2.1 x (List.mem_of_getElem? hx)
        unfold maxLen at hsx
        have hcall := fun wx => HF.out x wx (by omega)
        have HX := Lib.hid hx
        clear hcell hx hkl hsx
        cases hok : ok x with
        | true =>
          rw [hok] at hcall
          have HC := Lib.hid hcall
          have HO := Lib.hid hok
          clear hcall hok
          go_wp2_with fail
          refine (HC.out _).mono ?_
          rintro e w' ⟨rfl, rfl⟩
          go_wp2_with fail
          go_round
          case rel => exact ⟨k + 1, rfl, by omega, by go_num, all_take HX.out HALL.out HO.out⟩
          case measure => simp [intOf]; omega
        | false =>
          rw [hok] at hcall
          have HC := Lib.hid hcall
          have HO := Lib.hid hok
          clear hcall hok
          go_wp2_with fail
          refine (HC.out _).mono ?_
          rintro e w' ⟨rfl, rfl⟩
          go_wp2_with fail
          go_ret2
          rw [all_not HX.out HO.out]
          exact ⟨none, 0, 0, rfl, ⟨rfl, rfl, rfl⟩, HB.out⟩
      · obtain rfl : k = n := by omega
        go_wp2_with fail
        go_ret2
        have ha : l.all ok = true := by
          have := HALL.out
          rwa [List.take_of_length_le (by rw [HPL.out]; exact Nat.le_refl _)] at this
        rw [ha]
        exact ⟨some ⟨w.heap.size, 0, none⟩, k, k, rfl, by rw [if_pos rfl, HZ.out]; exact ⟨Nat.le_refl _, by omega, HK.out⟩, HB.out⟩
/-- What cutRoute and RouteParts return. -/
def routeB (s : ByteArray) : Bool := decide (s.size = 0) || cutB partB s
def routeL (s : ByteArray) : List ByteArray := if s.size = 0 then [] else partsS s
theorem keys_nil (w : World) (B : Nat) : KeysAt w B [] none 0 := ⟨rfl, fun s h => by (cases h), fun h => absurd h (Nat.lt_irrefl 0)⟩
set_option maxRecDepth 100000 in
theorem cutRoute_any (s : ByteArray) (w : World) (hm : MaxL w) : Calls Tryz.prog 18 #[.string s] w (CutPost (routeB s) (routeL s) w) := by
  by_cases h0 : s.size = 0
  · have hn := isEmpty_nil h0
    have hb : routeB s = true := by unfold routeB; rw [decide_eq_true h0]; rfl
    have hl : routeL s = [] := by unfold routeL; rw [if_pos h0]
    rw [hb, hl]
    clear hb hl
    go_enter Tryz.func18, Tryz.ntmps18
    go_wp2_with fail
    go_ret2
    exact ⟨none, 0, 0, rfl, by rw [if_pos rfl]; exact ⟨Nat.le_refl _, Nat.zero_le _, keys_nil _ _⟩, Below.refl _ _⟩
  · have hn := isEmpty_ne (s := s) (by omega)
    have hb : routeB s = cutB partB s := by unfold routeB; rw [decide_eq_false h0]; rfl
    have hl : routeL s = partsS s := by unfold routeL; rw [if_neg h0]
    rw [hb, hl]
    have H := Lib.hid (cutParts_any 54 partB (fun x wx hx => isPart_any x wx hx) (enters_of Tryz.func54 (by kernel_rfl) rfl) s w hm)
    clear hb hl
    go_enter Tryz.func18, Tryz.ntmps18
    go_wp2_with fail
    refine H.out.mono ?_
    rintro e w1 ⟨A, n, c, rfl, hk, hb1⟩
    have HK := Lib.hid hk
    clear hk
    go_wp2_with fail
    go_ret2
    exact ⟨A, n, c, rfl, HK.out, hb1⟩
end Go.Proofs.YtohkdckllmmfhaaGreatDoor
