/- DERIVED. asset.isNumber of the digits of a side. Condition: they are such digits. -/
import Derived.Test.YthlkibadiiiohaaDoorImgRdP
import Derived.RegionTactic
import Derived.BigRegion
import Derived.Deep.RegionLaw
import Derived.Deep.Cut
import Derived.OwnWalk
namespace Go.Proofs.YthlkibadiiiohaaDoor
open Go.RowKit
set_option linter.unusedVariables false
set_option linter.unusedSimpArgs false
theorem trim10_any (s : ByteArray) (hs : s.size ≤ 9223372036854775807) (w : World) : Calls Tryd.prog 27 #[.string s, .string ⟨#[48, 49, 50, 51, 52, 53, 54, 55, 56, 57]⟩] w fun e w' => e = .returned (.string ⟨(Lib.trimS s.data.toList dig10L).toArray⟩) ∧ Below w.heap.size w w' :=
  Any.strings_Trim_laid Tryd.lays160 (by kernel_rfl) s ⟨#[48, 49, 50, 51, 52, 53, 54, 55, 56, 57]⟩ w hs (by decide) (ascii_of_all (by decide))
theorem okNum_in {l : List UInt8} (h : okNum l = true) : 0 < l.length ∧ l.length ≤ 2 ∧ l.head? ≠ some 48 ∧ Lib.trimS l dig10L = [] ∧ (32 : UInt8) ∉ l ∧ (10 : UInt8) ∉ l := by
  unfold okNum at h
  simp only [Bool.and_eq_true, decide_eq_true_eq] at h
  obtain ⟨⟨⟨⟨⟨h1, h2⟩, h3⟩, h4⟩, h5⟩, h6⟩ := h
  exact ⟨h1, h2, h3, h4, h5, h6⟩
set_option maxRecDepth 100000 in
set_option maxHeartbeats 1600000 in
theorem isNumber_any (g : ByteArray) (hg : okNum g.data.toList = true) (w : World) : Calls Tryd.prog 34 #[.string g] w fun e w' => e = .returned (.bool true) ∧ Below w.heap.size w w' := by
  obtain ⟨h1, h2, h3, h4, _, _⟩ := okNum_in hg
  have hsz : g.data.toList.length = g.size := Array.length_toList
  rw [hsz] at h1 h2
  have hT := trim10_any g (by omega) w
  rw [h4] at hT
  have HT := Lib.hid hT
  obtain ⟨ch, hck⟩ : ∃ ch, g[0] = ch := ⟨_, rfl⟩
  have hne : ¬ ch = 48 := fun e => h3 (by
    rw [List.head?_eq_getElem?, Array.getElem?_toList, Array.getElem?_eq_getElem (show 0 < g.data.size from h1), ← e, ← hck]; rfl)
  have q1 : ¬ (ch.toNat : Int) = 48 := fun e => hne (UInt8.toNat_inj.1 (by exact_mod_cast e))
  have q2 : ((ch.toNat : Int) == 48) = false := by simpa using q1
  have q3 : ¬ g.toList = [] := fun e => by
    rw [ByteArray.toList_eq] at e
    rw [e] at hsz
    have : (0 : Nat) = g.size := hsz
    omega
  have q4 : (g.toList == []) = false := by simpa using q3
  have q5 : ¬ (4 : Int) < (g.size : Int) := by omega
  clear hT h4 h3 hsz hg hne
  go_enter Tryd.func34, Tryd.ntmps34
  go_wp2_with fail
  refine HT.out.mono ?_
  rintro e w1 ⟨rfl, hb1⟩
  go_wp2_with fail
  go_ret
  exact ⟨by first | rfl | simp, hb1⟩
end Go.Proofs.YthlkibadiiiohaaDoor
