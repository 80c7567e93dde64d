/- DERIVED. What conf's compareFields returns. Condition: at most 2^40 keys. -/
import Derived.Test.YtfgekmfkaepgjaaConfCmp
import Derived.BigQuiet
import Derived.Deep.QuietTactic
import Derived.WalkSmall
namespace Go.Proofs.Ytfgekmfkaepgjaa
set_option linter.unusedVariables false
open Go.RowKit
set_option maxRecDepth 100000 in
set_option maxHeartbeats 1000000 in
theorem compareFields_any (k : Int) (bo : Bool) (i : Int) (t : ByteArray) (A1 : Option Addr) (n1 c1 : Nat) (A2 : Option Addr) (n2 c2 : Nat) (it : Vals) (ks : List ByteArray) (b o : Nat)
    (k' : Int) (bo' : Bool) (i' : Int) (t' : ByteArray) (A1' : Option Addr) (n1' c1' : Nat) (A2' : Option Addr) (n2' c2' : Nat) (it' : Vals) (ks' : List ByteArray) (b' o' : Nat) (w : World)
    (h : VEl w w.heap.size b o k bo i t A1 n1 c1 A2 n2 c2 it ks) (h' : VEl w w.heap.size b' o' k' bo' i' t' A1' n1' c1' A2' n2' c2' it' ks') (hn : n2 ≤ 1099511627776) (hn' : n2' ≤ 1099511627776) :
    Calls Try.prog 45 #[.pointer (some ⟨b, o, none⟩), .pointer (some ⟨b', o', none⟩)] w
      fun e w' => e = .returned (.int .i64 (cF k bo i t ks k' bo' i' t' ks')) ∧ Below w.heap.size w w' := by
  have CI := Lib.hid (fun (a b : Int) (wX : World) => Try.cmp_Compare_int a b wX)
  have CS := Lib.hid (fun (a b : ByteArray) (wX : World) => Try.strings_Compare a b wX)
  have CK := Lib.hid (fun (wX : World) (hX : Below w.heap.size w wX) => compareK_any ks ks' A2 n2 c2 A2' n2' c2' w.heap.size wX hn hn' (h.ok.ks.below hX) (h'.ok.ks.below hX))
  obtain ⟨hlt, x0, x1, x2, x3, x4, x5, hok⟩ := h
  obtain ⟨hlt', y0, y1, y2, y3, y4, y5, hok'⟩ := h'
  clear x4 y4 hok hok'
  by_cases hk : k = k'
  · subst hk
    have hci : Lib.compareInt k k = 0 := by simp [Lib.compareInt]
    by_cases hb : bo = bo'
    · subst hb
      have hF : cF k bo i t ks k bo i' t' ks' = c3 (Lib.compareInt i i') (Lib.compareBytes t.data.toList t'.data.toList) (cK ks ks') := by
        unfold cF
        rw [hci, if_neg (by simp), if_pos rfl]
      have HF := Lib.hid hF; clear hF hci
      obtain ⟨p, hp⟩ : ∃ p, Lib.compareInt i i' = p := ⟨_, rfl⟩
      obtain ⟨q, hq⟩ : ∃ q, Lib.compareBytes t.data.toList t'.data.toList = q := ⟨_, rfl⟩
      obtain ⟨r, hr⟩ : ∃ r, cK ks ks' = r := ⟨_, rfl⟩
      have CI2 := Lib.hid (fun wX => CI.out i i' wX)
      have CS2 := Lib.hid (fun wX => CS.out t t' wX)
      rw [hp] at CI2 HF
      rw [hq] at CS2 HF
      rw [hr] at CK HF
      clear hp hq hr CI CS
      go_enter Try.func45, Try.ntmps45
      go_wp2_with fail
      go_quiet (fail)
      go_wp2_with fail
      have hb1 := below_drewN (Below.refl w.heap.size w) nq
      have x0 := (hb1.cell (p := ⟨b, o, none⟩) hlt).trans x0
      have x1 := (hb1.cell (p := ⟨b, o + 1, none⟩) hlt).trans x1
      have x2 := (hb1.cell (p := ⟨b, o + 2, none⟩) hlt).trans x2
      have x3 := (hb1.cell (p := ⟨b, o + 3, none⟩) hlt).trans x3
      have x5 := (hb1.cell (p := ⟨b, o + 5, none⟩) hlt).trans x5
      have y0 := (hb1.cell (p := ⟨b', o', none⟩) hlt').trans y0
      have y1 := (hb1.cell (p := ⟨b', o' + 1, none⟩) hlt').trans y1
      have y2 := (hb1.cell (p := ⟨b', o' + 2, none⟩) hlt').trans y2
      have y3 := (hb1.cell (p := ⟨b', o' + 3, none⟩) hlt').trans y3
      have y5 := (hb1.cell (p := ⟨b', o' + 5, none⟩) hlt').trans y5
      have hlt1 : b < (w.drewN nq).heap.size := Nat.lt_of_lt_of_le hlt hb1.size
      have hlt1' : b' < (w.drewN nq).heap.size := Nat.lt_of_lt_of_le hlt' hb1.size
      generalize w.drewN nq = w1 at *
      go_quiet (fail)
      go_wp2_with fail
      have hb2 : Below w.heap.size w (w1.drewN nq).drew := hb1.trans (below_drewN (Below.refl w.heap.size w1) nq).drew
      refine wp_region_still_tail 27 (by kernel_rfl) (by kernel_rfl) ?_
      simp only [List.take_succ_cons, List.take_zero, List.drop_succ_cons, List.drop_zero]
      change wpStill _ _ (w1.drewN nq).drew _ _ _
      repeat still_step
      still_call (CI2.out _)
      repeat still_step
      still_call (CS2.out _)
      repeat still_step
      still_call (CK.out _ hb2)
      repeat still_step
      refine wpStill_nil ?_
      change wpList _ _ _ _ _ (w1.drewN nq).drew
      generalize (w1.drewN nq).drew = w2 at hb2 ⊢
      go_wp2_with fail
      refine (or3_any p q r w2.heap.size _ (by simp) (by simp) (by simp)).mono ?_
      rintro e w3 ⟨rfl, rfl⟩
      go_wp2_with fail
      go_ret
      exact ⟨retC HF.out, hb2.alloc hb2.size _⟩
    · have hF : cF k bo i t ks k bo' i' t' ks' = if bo' = true then -1 else 1 := by
        unfold cF
        rw [hci, if_neg (by simp), if_neg hb]
      have HF := Lib.hid hF; clear hF hci CI CS CK
      have HBB := Lib.hid hb
      cases bo <;> cases bo'
      · exact absurd rfl hb
      · clear hb
        go_enter Try.func45, Try.ntmps45
        go_wp2_with fail
        go_quiet (fail)
        go_wp2_with fail
        go_quiet (fail)
        go_wp2_with fail
        go_ret
        exact ⟨retC HF.out, below_drewN (Below.refl _ _) _⟩
      · clear hb
        go_enter Try.func45, Try.ntmps45
        go_wp2_with fail
        go_quiet (fail)
        go_wp2_with fail
        go_quiet (fail)
        go_wp2_with fail
        go_ret
        exact ⟨retC HF.out, below_drewN (Below.refl _ _) _⟩
      · exact absurd rfl hb
  · have hne : ¬ Lib.compareInt k k' = 0 := fun e => hk (compareInt_zero.1 e)
    have hF : cF k bo i t ks k' bo' i' t' ks' = Lib.compareInt k k' := by
      unfold cF
      rw [if_pos hne]
    have zk : (k != k') = true := by simpa using hk
    obtain ⟨p, hp⟩ : ∃ p, Lib.compareInt k k' = p := ⟨_, rfl⟩
    have CI2 := Lib.hid (fun wX => CI.out k k' wX)
    rw [hp] at CI2 hF
    have HF := Lib.hid hF; clear hF hne CI CS CK hp
    go_enter Try.func45, Try.ntmps45
    go_wp2_with fail
    go_quiet (fail)
    go_wp2_with fail
    have hb1 := below_drewN (Below.refl w.heap.size w) nq
    have x0 := (hb1.cell (p := ⟨b, o, none⟩) hlt).trans x0
    have y0 := (hb1.cell (p := ⟨b', o', none⟩) hlt').trans y0
    generalize w.drewN nq = w1 at *
    go_quiet ((go_at_call 31; exact Calls.quiet_of_same (CI2.out _)))
    go_wp2_with fail
    go_ret
    exact ⟨retC HF.out, hb1.trans (below_drewN (Below.refl _ _) _)⟩
end Go.Proofs.Ytfgekmfkaepgjaa
