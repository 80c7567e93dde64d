/- DERIVED. What the reference's IsPath, and both sides' functions on addresses return. Condition: the library's variable MaxLen holds a number. -/
import Derived.Test.YtjghindfnjfdcaaGreatDoorTPath
namespace Go.Proofs.YtjghindfnjfdcaaGreatDoor
set_option linter.unusedVariables false
open Go.RowKit
theorem rPath1_any (s : ByteArray) (w : World) (hs : s.size ≤ 9223372036854775807) :
    Calls Tryz.prog 40 #[.string s] w fun e w' => e = .returned (.bool (!tpartB s)) ∧ Below w.heap.size w w' := by
  have H := Lib.hid (rPart_any s w hs)
  go_enter Tryz.func40, Tryz.ntmps40
  go_wp2_with fail
  refine H.out.mono ?_
  rintro e w1 ⟨rfl, hb1⟩
  go_wp2_with fail
  go_ret
  exact ⟨rfl, hb1⟩
set_option maxRecDepth 100000 in
set_option maxHeartbeats 800000 in
theorem indexPart_any (b n c : Nat) (l : List ByteArray) (w : World) (hn : n ≤ 201) (hb : b < w.heap.size) (hr : RowS w b n l) (hsz : ∀ x, x ∈ l → x.size ≤ 200) :
    Calls Tryz.prog 68 #[.slice (some ⟨b, 0, none⟩) n c, .func (.func 40) #[] #[]] w fun e w' => ∃ r : Int, e = .returned (.int .i64 r) ∧ decide (0 ≤ r) = !(l.all tpartB) ∧ Below w.heap.size w w' := by
  have HR := Lib.hid hr; clear hr
  have HSZ := Lib.hid hsz; clear hsz
  have eg : ∀ args w, (callFunc 40 args).run Tryz.prog w = .ok (.enter 40 args) w := enters_of Tryz.func40 (by kernel_rfl) rfl
  go_enter Tryz.func68, Tryz.ntmps68
  go_wp2_with fail
  go_loopw [8] (fun i wr => ∃ k : Nat, k ≤ n ∧ i = .int .i64 k ∧ (l.take k).all tpartB = true ∧ Below w.heap.size w wr) (fun i _ => n - (intOf i).toNat)
  case atStart => exact ⟨0, Nat.zero_le _, rfl, rfl, Below.refl _ _⟩
  case round =>
    obtain ⟨k, hk, rfl, hall, hbw⟩ := hrel
    have HALL := Lib.hid hall; clear hall
    by_cases hlt : k < n
    · obtain ⟨x, hx⟩ : ∃ x, l[k]? = some x := ⟨_, List.getElem?_eq_getElem (by rw [← HR.out.1]; exact hlt)⟩
      have x0 := (hbw.cell (p := ⟨b, k, none⟩) hb).trans (HR.out.2 k x hx)
      have hsx := HSZ.out x (List.mem_of_getElem? hx)
      have hcall := fun wx => rPath1_any x wx (by omega)
      have HX := Lib.hid hx
      clear hx hsx
      cases hok : tpartB x with
      | true =>
        rw [hok] at hcall
        have HC := Lib.hid hcall
        have HO := Lib.hid hok
        clear hcall hok
        go_wp2_with fail
        refine (HC.out _).mono ?_
        rintro e w' ⟨rfl, hb1⟩
        go_wp2_with fail
        go_roundw
        case rel => exact ⟨k + 1, by omega, by go_num, all_take' HX.out HALL.out HO.out, hbw.trans (hb1.mono hbw.size)⟩
        case measure => simp [intOf]; omega
      | false =>
        rw [hok] at hcall
        have HC := Lib.hid hcall
        have HO := Lib.hid hok
        clear hcall hok
        go_wp2_with fail
        refine (HC.out _).mono ?_
        rintro e w' ⟨rfl, hb1⟩
        go_wp2_with fail
        go_ret
        exact ⟨k, rfl, by rw [all_not' HX.out HO.out]; simp, hbw.trans (hb1.mono hbw.size)⟩
    · obtain rfl : k = n := by omega
      go_wp2_with fail
      go_ret
      have ha := HALL.out
      rw [List.take_of_length_le (by rw [← HR.out.1]; exact Nat.le_refl _)] at ha
      exact ⟨-1, rfl, by rw [ha]; rfl, hbw⟩
theorem containsPart_any (b n c : Nat) (l : List ByteArray) (w : World) (hn : n ≤ 201) (hb : b < w.heap.size) (hr : RowS w b n l) (hsz : ∀ x, x ∈ l → x.size ≤ 200) :
    Calls Tryz.prog 38 #[.slice (some ⟨b, 0, none⟩) n c, .func (.func 40) #[] #[]] w fun e w' => e = .returned (.bool (!(l.all tpartB))) ∧ Below w.heap.size w w' := by
  have H := Lib.hid (indexPart_any b n c l w hn hb hr hsz)
  clear hr hsz
  go_enter Tryz.func38, Tryz.ntmps38
  go_wp2_with fail
  refine H.out.mono ?_
  rintro e w1 ⟨r, rfl, hr, hb1⟩
  have HR := Lib.hid hr; clear hr
  go_wp2_with fail
  go_ret
  exact ⟨by rw [← HR.out]; rfl, hb1⟩
set_option maxRecDepth 100000 in
set_option maxHeartbeats 800000 in
theorem rPath_any (s : ByteArray) (w : World) (hm : MaxT w) :
    Calls Tryz.prog 14 #[.string s] w fun e w' => e = .returned (.bool (tpathB s)) ∧ Below w.heap.size w w' := by
  by_cases h4 : (s.size : Int) ≤ 200
  · have HR := Lib.hid (show tpathB s = (tparts s).all tpartB by unfold tpathB; rw [decide_eq_true (show s.size ≤ 200 by omega)]; rfl)
    have HS := Lib.hid (tsplit_any s w hm (by omega))
    have hps := fun x (hx : x ∈ tparts s) => tparts_size s x hx
    have HP := Lib.hid (fun x hx => Nat.le_trans (hps x hx) (show s.size ≤ 200 by omega))
    clear hps hm
    unfold slashS at HS
    go_enter Tryz.func14, Tryz.ntmps14
    go_wp2_with fail
    refine HS.out.mono ?_
    rintro e w1 ⟨n, rfl, hn, hrow, hb1⟩
    have hsz := hb1.size
    have hlt : w.heap.size < w1.heap.size := by
      have hp : 0 < n := by have h1 := hrow.1; rw [tparts_len] at h1; omega
      obtain ⟨x, hx⟩ : ∃ x, (tparts s)[0]? = some x := ⟨_, List.getElem?_eq_getElem (by rw [← hrow.1]; exact hp)⟩
      exact World.block_lt_of_cell? w1 _ (hrow.2 0 x hx)
    have HC := Lib.hid (containsPart_any w.heap.size n n (tparts s) w1 hn hlt hrow HP.out)
    clear hrow
    go_wp2_with fail
    refine HC.out.mono ?_
    rintro e w2 ⟨rfl, hb2⟩
    go_wp2_with fail
    go_ret
    exact ⟨retB (by simp [HR.out]), hb1.trans (hb2.mono hsz)⟩
  · have HR := Lib.hid (show tpathB s = false by unfold tpathB; rw [decide_eq_false (show ¬ s.size ≤ 200 by omega)]; rfl)
    clear hm
    go_enter Tryz.func14, Tryz.ntmps14
    go_wp2_with fail
    go_ret
    exact ⟨retB HR.out, Below.refl _ _⟩
/-! ### Addresses -/
def endsB (s : ByteArray) : Bool := decide (s.data.toList[0]? = some 47) && decide (s.data.toList[s.size - 1]? = some 47)
def taddrB (s : ByteArray) : Bool := (s.toList == [47]) || (decide (2 < s.size) && endsB s && tpathB (s.extract 1 (s.size - 1)))
theorem endsB_eq (s : ByteArray) (h : 2 < s.size) : endsB s = (decide (s[0] = 47) && decide (s[s.size - 1] = 47)) := by
  unfold endsB
  rw [at_idx (show 0 < s.size by omega), at_idx (show s.size - 1 < s.size by omega)]
  simp
def addrErr (s : ByteArray) : Int := if taddrB s = true then 0 else 3
end Go.Proofs.YtjghindfnjfdcaaGreatDoor
