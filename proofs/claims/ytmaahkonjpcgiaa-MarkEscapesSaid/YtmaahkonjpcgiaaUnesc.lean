/- DERIVED. What mastref1.Unescaped returns for every string of at most 200000 bytes: by a walk of its text. -/
import Derived.Test.YtmaahkonjpcgiaaEscWalk
import Derived.BigQuiet
import Derived.Deep.QuietTactic
import Derived.Deep.Draws
namespace Go.Proofs.Ytmaahkonjpcgiaa
open Go.RowKit
open EscPlain

def table : Array Value := #[.string ⟨#[38, 97, 109, 112, 59]⟩, .string ⟨#[38]⟩, .string ⟨#[38, 108, 116, 59]⟩, .string ⟨#[60]⟩, .string ⟨#[38, 103, 116, 59]⟩, .string ⟨#[62]⟩, .string ⟨#[38, 113, 117, 111, 116, 59]⟩, .string ⟨#[34]⟩, .string ⟨#[38, 35, 51, 57, 59]⟩, .string ⟨#[39]⟩]
theorem rs0 (l : List UInt8) : rstep (0 + 1) l = if Lib.hasPrefix l amp = true then (38, 5) else rstep 0 l := by
  show rstep 1 l = _
  simp only [rstep]
theorem rs1 (l : List UInt8) : rstep (1 + 1) l = if Lib.hasPrefix l lt = true then (60, 4) else rstep 1 l := by
  show rstep 2 l = _
  simp only [rstep]
theorem rs2 (l : List UInt8) : rstep (2 + 1) l = if Lib.hasPrefix l gt = true then (62, 4) else rstep 2 l := by
  show rstep 3 l = _
  simp only [rstep]
theorem rs3 (l : List UInt8) : rstep (3 + 1) l = if Lib.hasPrefix l quot = true then (34, 6) else rstep 3 l := by
  show rstep 4 l = _
  simp only [rstep]
theorem rs4 (l : List UInt8) : rstep (4 + 1) l = if Lib.hasPrefix l apos = true then (39, 5) else rstep 4 l := by
  show rstep 5 l = _
  simp only [rstep]
theorem ret_bytes {o : ByteArray} {l : List UInt8} (h : o.data.toList = l) : Ending.returned (.string o) = .returned (.string ⟨l.toArray⟩) := by
  subst h; rfl
theorem head_drop (s : ByteArray) (p : Nat) (h : p < s.size) : [s[p]] = [(s.data.toList.drop p).headD 0] := by
  rw [List.drop_eq_getElem_cons (by simpa using h)]
  rfl
theorem drop_list (s : ByteArray) (p : Nat) : (s.extract p s.size).data.toList = s.data.toList.drop p := rest_list s p
theorem hp_same (s p : ByteArray) (b : Bool) (w : World) (h : Lib.hasPrefix s.data.toList p.data.toList = b) :
    Calls Try.prog 32 #[.string s, .string p] w fun e w' => e = .returned (.bool b) ∧ w' = w :=
  (Try.strings_HasPrefix s p w).mono fun e w' ⟨he, hw⟩ => ⟨by rw [he, h], hw⟩
theorem block_kept {w : World} {b q : Nat} {o o' : Obj} (hb : b < w.heap.size) (h : w.heap[b]? = some o) : ((w.alloc o').drewN q).heap[b]? = some o := by
  show (w.alloc o').heap[b]? = some o
  rw [Below.heap_alloc _ _ _ hb]
  exact h

set_option maxRecDepth 100000 in
set_option maxHeartbeats 800000 in
theorem unescaped_any (s : ByteArray) (w : World) (hs : s.size ≤ 200000) :
    Calls Try.prog 14 #[.string s] w fun e w' => e = .returned (.string ⟨(unesc s.size s.data.toList).toArray⟩) ∧ Below w.heap.size w w' := by
  go_enter Try.func14, Try.ntmps14
  go_wp2_with fail
  go_loopw [3, 4] (fun o i wr => ∃ (pos f : Nat) (ob : ByteArray), pos ≤ s.size ∧ i = .int .i64 pos ∧ o = .string ob ∧ ob.data.toList ++ unesc f (s.data.toList.drop pos) = unesc s.size s.data.toList ∧ s.size - pos ≤ f ∧ ob.size ≤ pos ∧ Below w.heap.size w wr) (fun _ i _ => s.size - (intOf i).toNat)
  case atStart => exact ⟨0, s.size, ⟨#[]⟩, Nat.zero_le _, rfl, rfl, by simp, by omega, Nat.zero_le _, Below.refl _ _⟩
  case round =>
    obtain ⟨wo, rfl⟩ : ∃ wo : World, wo = wr := ⟨_, rfl⟩
    obtain ⟨pos, f, ob, hpos, rfl, rfl, hacc, hf, hol, hbw⟩ := hrel
    have HA := Lib.hid hacc; clear hacc
    by_cases hlt : pos < s.size
    · go_wp2_with fail
      go_loopw [5, 6, 25] (fun nx sz j wr => ∃ (k : Nat) (nb : ByteArray), k ≤ 5 ∧ j = .int .i64 k ∧ nx = .string nb ∧ nb.data.toList = [(rstep k (s.data.toList.drop pos)).1] ∧ sz = .int .i64 (rstep k (s.data.toList.drop pos)).2 ∧
          wr.heap[wo.heap.size]? = some (.cells table 69 (0, 0)) ∧ Below w.heap.size w wr) (fun _ _ j _ => 5 - (intOf j).toNat)
      case atStart => exact ⟨0, s.extract pos (pos + 1), by omega, rfl, rfl, by rw [one_list s pos hlt]; simp only [rstep]; rw [head_drop s pos hlt], by simp [rstep], heap_alloc_new wo _, hbw.alloc hbw.size _⟩
      case round =>
        obtain ⟨k, nb, hk, rfl, rfl, hnb, rfl, htab, hbr⟩ := hrel
        have hT : wo.heap.size < wr.heap.size := (Array.getElem?_eq_some_iff.1 htab).1
        have HT := Lib.hid htab; clear htab
        have HN := Lib.hid hnb; clear hnb
        have hbn : Below w.heap.size w wr := hbr
        by_cases hk5 : k < 5
        · have hl := Lib.hid (drop_list s pos)
          rcases (show k = 0 ∨ k = 1 ∨ k = 2 ∨ k = 3 ∨ k = 4 by omega) with rfl | rfl | rfl | rfl | rfl
          · have c0 : wr.cell? ⟨wo.heap.size, 0, none⟩ = some (.string ⟨#[38, 97, 109, 112, 59]⟩) := by rw [cell_of_row _ _ _ _ _ _ HT.out]; rfl
            have c1 : wr.cell? ⟨wo.heap.size, 1, none⟩ = some (.string ⟨#[38]⟩) := by rw [cell_of_row _ _ _ _ _ _ HT.out]; rfl
            obtain ⟨b, hb⟩ : ∃ b, Lib.hasPrefix (s.data.toList.drop pos) amp = b := ⟨_, rfl⟩
            have hp : ∀ wx, Calls Try.prog 32 #[.string (s.extract pos s.size), .string ⟨#[38, 97, 109, 112, 59]⟩] wx fun e w' => e = .returned (.bool b) ∧ w' = wx := fun wx => hp_same _ _ b wx (by rw [hl.out]; exact hb)
            have HP := Lib.hid hp; clear hp
            have HB := Lib.hid hb; clear hb
            cases b
            · go_wp2_with fail
              go_quiet ((go_at_call 32; exact Calls.quiet_of_same (HP.out _)))
              go_wp2_with fail
              go_roundw
              case rel =>
                have hr : rstep (0 + 1) (s.data.toList.drop pos) = rstep 0 (s.data.toList.drop pos) := (rs0 _).trans (if_neg (by rw [HB.out]; decide))
                exact ⟨0 + 1, nb, by omega, rfl, rfl, by rw [hr]; exact HN.out, by rw [hr], (block_kept hT HT.out), below_drewN (hbr.alloc hbr.size _) _⟩
              case measure => decide
            · go_wp2_with fail
              go_quiet ((go_at_call 32; exact Calls.quiet_of_same (HP.out _)))
              go_wp2_with fail
              go_quiet (fail)
              go_wp2_with fail
              go_roundw
              case rel =>
                have hr : rstep (0 + 1) (s.data.toList.drop pos) = (38, 5) := (rs0 _).trans (if_pos HB.out)
                exact ⟨0 + 1, ⟨#[38]⟩, by omega, rfl, rfl, by rw [hr], by rw [hr]; rfl, (block_kept hT HT.out), below_drewN (hbr.alloc hbr.size _) _⟩
              case measure => decide
          · have c0 : wr.cell? ⟨wo.heap.size, 2, none⟩ = some (.string ⟨#[38, 108, 116, 59]⟩) := by rw [cell_of_row _ _ _ _ _ _ HT.out]; rfl
            have c1 : wr.cell? ⟨wo.heap.size, 3, none⟩ = some (.string ⟨#[60]⟩) := by rw [cell_of_row _ _ _ _ _ _ HT.out]; rfl
            obtain ⟨b, hb⟩ : ∃ b, Lib.hasPrefix (s.data.toList.drop pos) lt = b := ⟨_, rfl⟩
            have hp : ∀ wx, Calls Try.prog 32 #[.string (s.extract pos s.size), .string ⟨#[38, 108, 116, 59]⟩] wx fun e w' => e = .returned (.bool b) ∧ w' = wx := fun wx => hp_same _ _ b wx (by rw [hl.out]; exact hb)
            have HP := Lib.hid hp; clear hp
            have HB := Lib.hid hb; clear hb
            cases b
            · go_wp2_with fail
              go_quiet ((go_at_call 32; exact Calls.quiet_of_same (HP.out _)))
              go_wp2_with fail
              go_roundw
              case rel =>
                have hr : rstep (1 + 1) (s.data.toList.drop pos) = rstep 1 (s.data.toList.drop pos) := (rs1 _).trans (if_neg (by rw [HB.out]; decide))
                exact ⟨1 + 1, nb, by omega, rfl, rfl, by rw [hr]; exact HN.out, by rw [hr], (block_kept hT HT.out), below_drewN (hbr.alloc hbr.size _) _⟩
              case measure => decide
            · go_wp2_with fail
              go_quiet ((go_at_call 32; exact Calls.quiet_of_same (HP.out _)))
              go_wp2_with fail
              go_quiet (fail)
              go_wp2_with fail
              go_roundw
              case rel =>
                have hr : rstep (1 + 1) (s.data.toList.drop pos) = (60, 4) := (rs1 _).trans (if_pos HB.out)
                exact ⟨1 + 1, ⟨#[60]⟩, by omega, rfl, rfl, by rw [hr], by rw [hr]; rfl, (block_kept hT HT.out), below_drewN (hbr.alloc hbr.size _) _⟩
              case measure => decide
          · have c0 : wr.cell? ⟨wo.heap.size, 4, none⟩ = some (.string ⟨#[38, 103, 116, 59]⟩) := by rw [cell_of_row _ _ _ _ _ _ HT.out]; rfl
            have c1 : wr.cell? ⟨wo.heap.size, 5, none⟩ = some (.string ⟨#[62]⟩) := by rw [cell_of_row _ _ _ _ _ _ HT.out]; rfl
            obtain ⟨b, hb⟩ : ∃ b, Lib.hasPrefix (s.data.toList.drop pos) gt = b := ⟨_, rfl⟩
            have hp : ∀ wx, Calls Try.prog 32 #[.string (s.extract pos s.size), .string ⟨#[38, 103, 116, 59]⟩] wx fun e w' => e = .returned (.bool b) ∧ w' = wx := fun wx => hp_same _ _ b wx (by rw [hl.out]; exact hb)
            have HP := Lib.hid hp; clear hp
            have HB := Lib.hid hb; clear hb
            cases b
            · go_wp2_with fail
              go_quiet ((go_at_call 32; exact Calls.quiet_of_same (HP.out _)))
              go_wp2_with fail
              go_roundw
              case rel =>
                have hr : rstep (2 + 1) (s.data.toList.drop pos) = rstep 2 (s.data.toList.drop pos) := (rs2 _).trans (if_neg (by rw [HB.out]; decide))
                exact ⟨2 + 1, nb, by omega, rfl, rfl, by rw [hr]; exact HN.out, by rw [hr], (block_kept hT HT.out), below_drewN (hbr.alloc hbr.size _) _⟩
              case measure => decide
            · go_wp2_with fail
              go_quiet ((go_at_call 32; exact Calls.quiet_of_same (HP.out _)))
              go_wp2_with fail
              go_quiet (fail)
              go_wp2_with fail
              go_roundw
              case rel =>
                have hr : rstep (2 + 1) (s.data.toList.drop pos) = (62, 4) := (rs2 _).trans (if_pos HB.out)
                exact ⟨2 + 1, ⟨#[62]⟩, by omega, rfl, rfl, by rw [hr], by rw [hr]; rfl, (block_kept hT HT.out), below_drewN (hbr.alloc hbr.size _) _⟩
              case measure => decide
          · have c0 : wr.cell? ⟨wo.heap.size, 6, none⟩ = some (.string ⟨#[38, 113, 117, 111, 116, 59]⟩) := by rw [cell_of_row _ _ _ _ _ _ HT.out]; rfl
            have c1 : wr.cell? ⟨wo.heap.size, 7, none⟩ = some (.string ⟨#[34]⟩) := by rw [cell_of_row _ _ _ _ _ _ HT.out]; rfl
            obtain ⟨b, hb⟩ : ∃ b, Lib.hasPrefix (s.data.toList.drop pos) quot = b := ⟨_, rfl⟩
            have hp : ∀ wx, Calls Try.prog 32 #[.string (s.extract pos s.size), .string ⟨#[38, 113, 117, 111, 116, 59]⟩] wx fun e w' => e = .returned (.bool b) ∧ w' = wx := fun wx => hp_same _ _ b wx (by rw [hl.out]; exact hb)
            have HP := Lib.hid hp; clear hp
            have HB := Lib.hid hb; clear hb
            cases b
            · go_wp2_with fail
              go_quiet ((go_at_call 32; exact Calls.quiet_of_same (HP.out _)))
              go_wp2_with fail
              go_roundw
              case rel =>
                have hr : rstep (3 + 1) (s.data.toList.drop pos) = rstep 3 (s.data.toList.drop pos) := (rs3 _).trans (if_neg (by rw [HB.out]; decide))
                exact ⟨3 + 1, nb, by omega, rfl, rfl, by rw [hr]; exact HN.out, by rw [hr], (block_kept hT HT.out), below_drewN (hbr.alloc hbr.size _) _⟩
              case measure => decide
            · go_wp2_with fail
              go_quiet ((go_at_call 32; exact Calls.quiet_of_same (HP.out _)))
              go_wp2_with fail
              go_quiet (fail)
              go_wp2_with fail
              go_roundw
              case rel =>
                have hr : rstep (3 + 1) (s.data.toList.drop pos) = (34, 6) := (rs3 _).trans (if_pos HB.out)
                exact ⟨3 + 1, ⟨#[34]⟩, by omega, rfl, rfl, by rw [hr], by rw [hr]; rfl, (block_kept hT HT.out), below_drewN (hbr.alloc hbr.size _) _⟩
              case measure => decide
          · have c0 : wr.cell? ⟨wo.heap.size, 8, none⟩ = some (.string ⟨#[38, 35, 51, 57, 59]⟩) := by rw [cell_of_row _ _ _ _ _ _ HT.out]; rfl
            have c1 : wr.cell? ⟨wo.heap.size, 9, none⟩ = some (.string ⟨#[39]⟩) := by rw [cell_of_row _ _ _ _ _ _ HT.out]; rfl
            obtain ⟨b, hb⟩ : ∃ b, Lib.hasPrefix (s.data.toList.drop pos) apos = b := ⟨_, rfl⟩
            have hp : ∀ wx, Calls Try.prog 32 #[.string (s.extract pos s.size), .string ⟨#[38, 35, 51, 57, 59]⟩] wx fun e w' => e = .returned (.bool b) ∧ w' = wx := fun wx => hp_same _ _ b wx (by rw [hl.out]; exact hb)
            have HP := Lib.hid hp; clear hp
            have HB := Lib.hid hb; clear hb
            cases b
            · go_wp2_with fail
              go_quiet ((go_at_call 32; exact Calls.quiet_of_same (HP.out _)))
              go_wp2_with fail
              go_roundw
              case rel =>
                have hr : rstep (4 + 1) (s.data.toList.drop pos) = rstep 4 (s.data.toList.drop pos) := (rs4 _).trans (if_neg (by rw [HB.out]; decide))
                exact ⟨4 + 1, nb, by omega, rfl, rfl, by rw [hr]; exact HN.out, by rw [hr], (block_kept hT HT.out), below_drewN (hbr.alloc hbr.size _) _⟩
              case measure => decide
            · go_wp2_with fail
              go_quiet ((go_at_call 32; exact Calls.quiet_of_same (HP.out _)))
              go_wp2_with fail
              go_quiet (fail)
              go_wp2_with fail
              go_roundw
              case rel =>
                have hr : rstep (4 + 1) (s.data.toList.drop pos) = (39, 5) := (rs4 _).trans (if_pos HB.out)
                exact ⟨4 + 1, ⟨#[39]⟩, by omega, rfl, rfl, by rw [hr], by rw [hr]; rfl, (block_kept hT HT.out), below_drewN (hbr.alloc hbr.size _) _⟩
              case measure => decide
        · obtain rfl : k = 5 := by omega
          have hstep := rstep_eq (s.data.toList.drop pos)
          have hne : s.data.toList.drop pos ≠ [] := fun h => by have := congrArg List.length h; simp at this; omega
          obtain ⟨f, rfl⟩ : ∃ f', f = f' + 1 := ⟨f - 1, by omega⟩
          have hun := unesc_cons f (s.data.toList.drop pos) hne
          have hp1 := ustep_pos (s.data.toList.drop pos)
          have hp2 := ustep_le (s.data.toList.drop pos) hne
          rw [List.length_drop, show s.data.toList.length = s.size by simp] at hp2
          rw [← hstep] at hun hp1 hp2
          clear hstep hne
          obtain ⟨st, hst⟩ : ∃ st, st = rstep 5 (s.data.toList.drop pos) := ⟨_, rfl⟩
          rw [← hst] at hun hp1 hp2 ⊢
          have hn := HN.out
          rw [← hst] at hn
          clear HN hst
          obtain ⟨c, wd⟩ := st
          simp only at hun hp1 hp2 hn ⊢
          rw [List.drop_drop] at hun
          have hnl : nb.size = 1 := by have := congrArg List.length hn; simpa using this
          have ha := fun wx => run_string_add_sum (P := Try.prog) (w := wx) ob nb (by omega)
          have HUN := Lib.hid hun; clear hun
          have HN := Lib.hid hn; clear hn
          have HNL := Lib.hid hnl; clear hnl
          go_wp2_with fail
          go_roundw
          case rel =>
            refine ⟨pos + wd, f, ob ++ nb, by omega, by go_num, rfl, ?_, by omega, ?_, hbr⟩
            · rw [← HA.out, HUN.out, ByteArray.data_append, Array.toList_append, HN.out]; simp
            · rw [ByteArray.size_append]; have := HNL.out; omega
          case measure => simp [intOf]; omega
    · obtain rfl : pos = s.size := by omega
      have hl : s.data.toList.drop s.size = [] := List.drop_eq_nil_of_le (by simp)
      have HL := Lib.hid hl; clear hl
      go_wp2_with fail
      go_ret
      refine ⟨ret_bytes ?_, hbw⟩
      have := HA.out
      rw [HL.out, unesc_nil, List.append_nil] at this
      exact this
end Go.Proofs.Ytmaahkonjpcgiaa
