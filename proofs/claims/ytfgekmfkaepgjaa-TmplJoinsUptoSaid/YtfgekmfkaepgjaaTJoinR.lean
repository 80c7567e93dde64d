/- DERIVED. What a reference returns for pieces: the joined strings. Condition: at most 2^21 letters and pieces. -/
import Derived.Test.YtfgekmfkaepgjaaTJoin
namespace Go.Proofs.Ytfgekmfkaepgjaa
set_option linter.unusedVariables false
open Go.RowKit

set_option maxRecDepth 100000 in
set_option maxHeartbeats 2000000 in
theorem joinedR_any (A : Option Addr) (n c : Nat) (l : List (Int × ByteArray)) (w : World) (hn : n = l.length) (hz : pz l ≤ 2097152) (hP : PiecesAt w w.heap.size A l) :
    Calls Try.prog 11 #[.slice A n c] w fun e w' => e = .returned (.string ⟨(cat txT l).toArray⟩) ∧ Below w.heap.size w w' := by
  obtain ⟨i0, hi, hz0, hz1, hz2⟩ := info_parts strInfo
  have HP := Lib.hid hP; clear hP
  have hlen := pz_len l
  have hnn : n ≤ 2097152 := by omega
  have HLN := Lib.hid hn
  have hkl : ∀ k, k < n → k < l.length := fun k h => by omega
  have HKL := Lib.hid hkl
  clear hn hkl
  go_enter Try.func11, Try.ntmps11
  go_wp2_with fail
  go_loopw [3, 8] (fun v i wr => ∃ k : Nat, k ≤ n ∧ i = .int .i64 k ∧ wr.ownsRow w.heap.size 9 1 v k ((l.take k).map (fun p => Value.string (txT p))) ∧ Below w.heap.size w wr) (fun _ i _ => n - (intOf i).toNat)
  case atStart => exact ⟨0, Nat.zero_le _, rfl, World.ownsRow_nil _ _ _ _, Below.refl _ _⟩
  case round =>
    obtain ⟨k, hk, rfl, hown, hbw⟩ := hrel
    have hw := hbw.size
    by_cases hlt : k < n
    · obtain ⟨p, hp⟩ : ∃ p, l[k]? = some p := ⟨_, List.getElem?_eq_getElem (HKL.out k hlt)⟩
      obtain ⟨c1, s1⟩ := p
      obtain ⟨b, off, rfl, hb, x0, x1⟩ := HP.out k c1 s1 hp
      have g0 : wr.cell? ⟨b, off + k * 2, none⟩ = some (.int .i64 c1) := (hbw.cell hb).trans x0
      have g1 : wr.cell? ⟨b, off + k * 2 + 1, none⟩ = some (.string s1) := (hbw.cell hb).trans x1
      clear x0 x1
      have HT : l.take (k + 1) = l.take k ++ [(c1, s1)] := take_snocL hp
      have HTT := Lib.hid HT
      have HO := Lib.hid hown
      clear hown HT hp hlen
      go_wp2_with (at_builtin; refine wpList_append_own _ rfl _ _ 25 rfl w.heap.size 9 i0 (.string .empty) 1 16 Try.underlying25 hi hz0 hz1 hz2 rfl (by decide) _ _ _ rfl ((HO.out.alloc _).alloc _) ⟨wr.heap.size + 1, 0, none⟩ 1 1 [.string s1] rfl rfl ?c1 ?c2 ?c3 ?c4 ?c5 ?_)
      try (case c1 => exact cell_one_newS _ _ _ _ (by simp))
      case c2 => first | rfl | (intro u hu; simp at hu; subst hu; rfl)
      case c3 => unfold maxLen; omega
      case c4 => omega
      case c5 => simp; omega
      intro v' w1 hown' hgrow _
      have hb1 := ((hbw.alloc hw _).alloc (by simp; omega) _).grown hgrow (by simp; omega) (fun j hj => (HO.out.lt j hj).1)
      clear hgrow
      have HO1 := Lib.hid hown'; clear hown'
      go_wp2_with fail
      go_roundw
      case rel =>
        refine ⟨k + 1, by omega, by go_num, ?_, hb1⟩
        have := HO1.out
        rw [HTT.out, List.map_append, List.map_take]
        exact this
      case measure => simp [intOf]; omega
    · obtain rfl : k = n := by omega
      have hall : (l.take k).map (fun p => Value.string (txT p)) = (l.map txT).map Value.string := by rw [HLN.out, List.take_length, List.map_map]; rfl
      rw [hall] at hown
      have hjl : (Lib.join ((l.map txT).map (·.data.toList)) []).length ≤ 140737488355328 := by
        rw [cat_join]
        have := cat_len txT_size l
        omega
      have hml : (l.map txT).length = k := by rw [List.length_map]; exact HLN.out.symm
      clear hall
      by_cases h0 : k = 0
      · subst h0
        obtain ⟨ao, cp, rfl⟩ := own0 hown
        have hnil : l = [] := List.eq_nil_of_length_eq_zero HLN.out.symm
        have HJ := Lib.hid (fun wX => Try.strings_Join_none ao cp ⟨#[]⟩ wX)
        have HNL := Lib.hid hnil
        clear hown hjl hml hnil
        go_wp2_with fail
        refine (HJ.out _).mono ?_
        rintro e w1 ⟨rfl, hw1⟩
        rw [hw1]
        clear hw1 w1
        dsimp only
        go_wp2_with fail
        go_ret
        exact ⟨ret_strJ (a := []) (by rw [HNL.out]; rfl), hbw⟩
      · obtain ⟨g, cap, rfl, hg1, hg2⟩ := hown.form (by omega)
        have hcap : k ≤ cap := by
          rcases hown.2 with ⟨hv, _⟩ | ⟨g', cap', cur, hv, _, _, _, hh, _⟩
          · cases hv
          · cases hv; first | exact hh | omega
        have HJ := Lib.hid (Try.strings_Join g 0 cap (l.map txT) ⟨#[]⟩ wr (fun j x hj => by
          rw [Nat.zero_add, hown.cellAt j (by have := (List.getElem?_eq_some_iff.1 hj).1; omega), List.getElem?_map, hj]; rfl) hg2 (by omega) (by omega) hjl)
        rw [hml] at HJ
        clear hown hjl hml
        go_wp2_with fail
        refine HJ.out.mono ?_
        rintro e w1 ⟨rfl, hb1⟩
        go_wp2_with fail
        go_ret
        exact ⟨ret_strJ (by rw [← cat_join, List.map_map]), hbw.trans (hb1.mono hw)⟩

end Go.Proofs.Ytfgekmfkaepgjaa
