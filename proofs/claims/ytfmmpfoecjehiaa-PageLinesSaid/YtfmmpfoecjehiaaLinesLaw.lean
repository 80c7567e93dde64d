/- DERIVED. What PageLines returns: true, given what CodeOf returns. -/
import Derived.Test.YtfmmpfoecjehiaaSameParts
namespace Go.Proofs.Ytfmmpfoecjehiaa
set_option linter.unusedVariables false
set_option linter.unusedSimpArgs false
open Go.RowKit
/-- What a line comes to. -/
def Key (s : ByteArray) (nm : L8) (gs : List (L8 × L8)) (o : Bool) (x : Int) : Prop :=
  if preL s = true ∧ preC s = false then
    (∃ nm' gs' o', GL ((bl s).drop 3) nm' gs' o' ∧ ((agErr (gB gs') ≠ 0 ∧ nm = [] ∧ gs = [] ∧ o = false ∧ x = agErr (gB gs')) ∨ (agErr (gB gs') = 0 ∧ nm = nm' ∧ gs = gs' ∧ o = o' ∧ x = 0))) ∨
    ((∀ nm gs o, ¬ GL ((bl s).drop 3) nm gs o) ∧ nm = [] ∧ gs = [] ∧ o = false ∧ x = 8)
  else nm = [] ∧ gs = [] ∧ o = false ∧ x = 7
theorem Key.det {s : ByteArray} {nm nm2 : L8} {gs gs2 : List (L8 × L8)} {o o2 : Bool} {x x2 : Int} (h : Key s nm gs o x) (h' : Key s nm2 gs2 o2 x2) : nm2 = nm ∧ gs2 = gs ∧ o2 = o ∧ x2 = x := by
  unfold Key at h h'
  by_cases hp : preL s = true ∧ preC s = false
  · rw [if_pos hp] at h h'
    rcases h with ⟨a, b, c, hg, h⟩ | ⟨hn, rfl, rfl, rfl, rfl⟩
    · rcases h' with ⟨a', b', c', hg', h'⟩ | ⟨hn', _⟩
      · obtain ⟨rfl, rfl, rfl⟩ := hg.det hg'
        rcases h with ⟨h0, rfl, rfl, rfl, rfl⟩ | ⟨h0, rfl, rfl, rfl, rfl⟩
        · rcases h' with ⟨_, rfl, rfl, rfl, rfl⟩ | ⟨h1, _⟩
          · exact ⟨rfl, rfl, rfl, rfl⟩
          · exact absurd h1 h0
        · rcases h' with ⟨h1, _⟩ | ⟨_, rfl, rfl, rfl, rfl⟩
          · exact absurd h0 h1
          · exact ⟨rfl, rfl, rfl, rfl⟩
      · exact absurd hg (hn' _ _ _)
    · rcases h' with ⟨a', b', c', hg', _⟩ | ⟨_, rfl, rfl, rfl, rfl⟩
      · exact absurd hg' (hn _ _ _)
      · exact ⟨rfl, rfl, rfl, rfl⟩
  · rw [if_neg hp] at h h'
    obtain ⟨rfl, rfl, rfl, rfl⟩ := h
    exact h'
theorem aat_nil (w : World) (B : Nat) (A : Option Addr) : AAt w B A (gB []) := fun j n v h => by simp [gB] at h
theorem ln_one {s : ByteArray} {w w' : World} {e : Ending} (h : LnPost s w e w') : ∃ nm gs o x A c, e = .returned (.tuple #[.agg (pcells nm (.slice A gs.length c) o), .int .i64 x]) ∧ gs.length ≤ 12 ∧ gs.length ≤ c ∧ AAt w' w'.heap.size A (gB gs) ∧ Below w.heap.size w w' ∧ Key s nm gs o x := by
  obtain ⟨h, hb⟩ := h
  unfold Key
  by_cases hp : preL s = true ∧ preC s = false
  · rw [if_pos hp] at h
    simp only [if_pos hp]
    rcases h with ⟨nm, gs, o, hg, ⟨h0, rfl⟩ | ⟨h0, A, c, rfl, h12, hc, ha⟩⟩ | ⟨hn, rfl⟩
    · exact ⟨[], [], false, _, none, 0, rfl, Nat.zero_le _, Nat.le_refl _, aat_nil _ _ _, hb, .inl ⟨nm, gs, o, hg, .inl ⟨h0, rfl, rfl, rfl, rfl⟩⟩⟩
    · exact ⟨nm, gs, o, 0, A, c, rfl, h12, hc, ha, hb, .inl ⟨nm, gs, o, hg, .inr ⟨h0, rfl, rfl, rfl, rfl⟩⟩⟩
    · exact ⟨[], [], false, 8, none, 0, rfl, Nat.zero_le _, Nat.le_refl _, aat_nil _ _ _, hb, .inr ⟨hn, rfl, rfl, rfl, rfl⟩⟩
  · rw [if_neg hp] at h
    simp only [if_neg hp]
    subst h
    exact ⟨[], [], false, 7, none, 0, rfl, Nat.zero_le _, Nat.le_refl _, aat_nil _ _ _, hb, rfl, rfl, rfl, rfl⟩
set_option maxRecDepth 100000 in
set_option maxHeartbeats 4000000 in
theorem lines_law (s : ByteArray) (w : World) (hco : s.size ≤ 20000 → ∀ wX, Calls Try.prog 6 #[.string s] wX (LnPost s wX)) :
    Calls Try.prog 3 #[.string s] w fun e w' => e = .returned (.bool true) ∧ Below w.heap.size w w' := by
  by_cases hbig : (20000 : Int) < (s.size : Int)
  · clear hco
    go_enter Try.func3, Try.ntmps3
    go_wp2_with fail
    go_ret
    exact ⟨rfl, Below.refl _ _⟩
  have hs : s.size ≤ 20000 := by omega
  have HL := Lib.hid (line_any s w hs)
  have HC := Lib.hid (hco hs)
  clear hco hs
  go_enter Try.func3, Try.ntmps3
  go_wp2_with fail
  refine HL.out.mono ?_
  rintro e w1 hp1
  obtain ⟨nm, gs, o, x, A1, c1, rfl, h12, hc1, ha1, hb1, K1⟩ := ln_one hp1
  have HK1 := Lib.hid K1
  obtain ⟨n, hn⟩ : ∃ n, gs.length = n := ⟨_, rfl⟩
  obtain ⟨NM, hNM⟩ : ∃ NM, bs nm = NM := ⟨_, rfl⟩
  unfold pcells
  rw [hn] at h12 hc1 ⊢
  rw [hNM]
  have HN := Lib.hid hn
  have HNM := Lib.hid hNM
  have HA1 := Lib.hid ha1
  have HB1 := Lib.hid hb1
  clear hp1 hn hNM K1 ha1 hb1
  go_wp2_with fail
  obtain ⟨W1, hW1⟩ : ∃ W1, w1.alloc (.cells #[.string ⟨#[]⟩, .string NM, .slice A1 n c1, .bool o, .slice none 0 0] 25) = W1 := ⟨_, rfl⟩
  have hs1 : W1.heap.size = w1.heap.size + 1 := by rw [← hW1]; simp
  have hb11 : Below w1.heap.size w1 W1 := by rw [← hW1]; exact (Below.refl _ _).alloc (Nat.le_refl _) _
  have hrd : W1.heap[w1.heap.size]? = some (.cells #[.string ⟨#[]⟩, .string NM, .slice A1 n c1, .bool o, .slice none 0 0] 25 (0, 0)) := by rw [← hW1]; exact heap_alloc_new w1 _
  rw [hW1]
  clear hW1
  refine (HC.out W1).mono ?_
  rintro e w2 hp2
  obtain ⟨nm2, gs2, o2, x2, A2, c2, rfl, h122, hc2, ha2, hb2, K2⟩ := ln_one hp2
  obtain ⟨rfl, rfl, rfl, rfl⟩ := HK1.out.det K2
  unfold pcells
  rw [HN.out] at hc2 ⊢
  rw [HNM.out]
  have hrd2 := (hb2.block w1.heap.size (by omega)).trans hrd
  have x0 := Lib.cell_of_heap hrd2 0
  have x1 := Lib.cell_of_heap hrd2 1
  have x2 := Lib.cell_of_heap hrd2 2
  have x3 := Lib.cell_of_heap hrd2 3
  have x4 := Lib.cell_of_heap hrd2 4
  have hw12 : w1.heap.size < w2.heap.size := by have := hb2.size; omega
  have hb12 : Below w1.heap.size w1 w2 := hb11.trans (hb2.mono (by omega))
  have HA2 := Lib.hid ha2
  have HB12 := Lib.hid hb12
  have HB02 := Lib.hid (HB1.out.trans (hb12.mono HB1.out.size))
  clear hp2 K2 hrd hrd2 hb11 hb2 hs1 h122 ha2 hb12
  go_wp2_with fail
  have hone : ∀ wX, (∃ p1 p2 p3, wX = ((w2.alloc p1).alloc p2).alloc p3 ∧ p2 = .cells #[.string ⟨#[]⟩, .string NM, .slice A1 n c1, .bool o2, .slice none 0 0] 25 ∧ p3 = .cells #[.string ⟨#[]⟩, .string NM, .slice A2 n c2, .bool o2, .slice none 0 0] 25) →
      Calls Try.prog 7 #[.slice (some ⟨w2.heap.size + 1, 0, none⟩) 1 1, .slice (some ⟨w2.heap.size + 1 + 1, 0, none⟩) 1 1] wX fun e w' => e = .returned (.bool true) ∧ Below w2.heap.size w2 w' := by
    rintro wX ⟨p1, p2, p3, rfl, rfl, rfl⟩
    have hbx : Below w2.heap.size w2 (((w2.alloc p1).alloc (.cells #[.string ⟨#[]⟩, .string NM, .slice A1 n c1, .bool o2, .slice none 0 0] 25)).alloc (.cells #[.string ⟨#[]⟩, .string NM, .slice A2 n c2, .bool o2, .slice none 0 0] 25)) :=
      (((Below.refl _ _).alloc (Nat.le_refl _) _).alloc (by simp) _).alloc (by simp; omega) _
    refine (sameOne (w2.heap.size + 1) (w2.heap.size + 1 + 1) NM A1 A2 n c1 c2 o2 (gB gs2) _ (by rw [gB_length]; exact HN.out.symm) h12 hc1 hc2 ?_ ?_ (by simp; try omega) (by simp; try omega) ?_ ?_).mono ?_
    · unfold Rd; simp [go_sem]
    · unfold Rd; simp [go_sem]
    · exact ((HA1.out.below HB12.out).more HB12.out.size |>.below hbx).more hbx.size
    · exact (HA2.out.below hbx).more hbx.size
    · rintro e w' ⟨rfl, hb⟩
      exact ⟨rfl, hbx.trans (hb.mono hbx.size)⟩
  have HONE := Lib.hid hone
  clear hone
  refine (HONE.out _ ⟨_, _, _, rfl, rfl, rfl⟩).mono ?_
  rintro e w3 ⟨rfl, hb3⟩
  have hb03 := HB02.out.trans (hb3.mono HB02.out.size)
  clear hb3
  go_wp2_with fail
  go_ret
  exact ⟨rfl, hb03⟩
end Go.Proofs.Ytfmmpfoecjehiaa
