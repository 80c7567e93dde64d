/- DERIVED. What find and the reference's Step return for a value that is right and a part: where the part leads, or -1. Condition: at most 2^40 items; the library's variable ErrSyntax holds an error. -/
import Derived.Test.YtohkdckllmmfhaaGreatDoorStep
import Derived.WalkSpells
import Derived.WalkLawsBesides
namespace Go.Proofs.YtohkdckllmmfhaaGreatDoor
open Go.RowKit
set_option linter.unusedVariables false
/-- A value's box, and what came behind it. -/
def Behind (s : Sv) (w wX : World) : Prop := Below (w.heap.size + 1) (w.alloc s.box) wX
theorem Behind.cells {s : Sv} {w wX : World} (h : Behind s w wX) : wX.cell? ⟨w.heap.size, 0, none⟩ = some (.int .i64 s.k) ∧ wX.cell? ⟨w.heap.size, 1, none⟩ = some (.bool s.bo) ∧ wX.cell? ⟨w.heap.size, 2, none⟩ = some (.int .i64 s.i) ∧
    wX.cell? ⟨w.heap.size, 3, none⟩ = some (.string s.t) ∧ wX.cell? ⟨w.heap.size, 4, none⟩ = some (.slice s.A1 s.n1 s.c1) ∧ wX.cell? ⟨w.heap.size, 5, none⟩ = some (.slice s.A2 s.n2 s.c2) := svCells (svNew' h (by omega))
theorem Behind.size {s : Sv} {w wX : World} (h : Behind s w wX) : w.heap.size + 1 ≤ wX.heap.size := by
  have := Below.size h
  simpa using this
theorem Behind.old {s : Sv} {w wX : World} (h : Behind s w wX) : Below w.heap.size w wX := ((Below.refl _ w).alloc (Nat.le_refl _) s.box).trans (Below.mono h (by omega))
theorem Behind.call {s : Sv} {w wX wY : World} (h : Behind s w wX) (hb : Below wX.heap.size wX wY) : Behind s w wY := Below.trans h (hb.mono h.size)
theorem Behind.alloc {s : Sv} {w wX : World} (h : Behind s w wX) (o : Obj) : Behind s w (wX.alloc o) := h.call ((Below.refl _ _).alloc (Nat.le_refl _) o)
theorem Behind.drew {s : Sv} {w wX : World} (h : Behind s w wX) : Behind s w wX.drew := Below.drew h
theorem Behind.start (s : Sv) (w : World) : Behind s w (w.alloc s.box) := Below.refl _ _
set_option maxRecDepth 100000 in
set_option maxHeartbeats 1600000 in
theorem find_any (s : Sv) (p : ByteArray) (w : World) (hs : s.okB w w.heap.size) (hg : Good s.k s.items s.keys) (hn : s.n2 ≤ 1099511627776) (hp : partB p = true) (hps : p.size ≤ 400) (hv : ErrV w) :
    Calls Tryz.prog 55 #[s.val, .string p] w fun e w' => e = .returned (.int .i64 (stepI s.k s.items s.keys p)) ∧ Below w.heap.size w w' := by
  have hcm := hs.cm1
  have hnc := hs.nc1
  unfold maxLen at hcm
  have hnl := hs.at_.len_eq
  have HI := Lib.hid (Behind.start s w)
  obtain ⟨y0, y1, y2, y3, y4, y5⟩ := HI.out.cells
  by_cases h6 : s.k = 6
  · have e1 : (s.k == 6) = true := by simpa using h6
    have hst : stepI s.k s.items s.keys p = idxI s.keys p := by unfold stepI; rw [if_pos h6]
    rw [hst]
    have h1 := fun wX (hX : Behind s w wX) => bsearch_any s.keys s.A2 s.n2 s.c2 p wX ((hs.keep hX.old).ks) hg.rising hn
    by_cases hit : idxK s.keys p = some (lessK s.keys p)
    · have hi : idxI s.keys p = ((lessK s.keys p : Nat) : Int) := by unfold idxI; rw [hit]
      rw [hi]
      simp only [hit, decide_true] at h1
      generalize lessK s.keys p = j at h1 ⊢
      have H1 := Lib.hid h1
      clear hs hg hv hit hi h1 hst h6 hcm hnc hnl hp
      unfold Sv.box Sv.val at *
      go_enter Tryz.func55, Tryz.ntmps55
      go_wp2_with fail
      refine (H1.out _ HI.out).mono ?_
      rintro e w1 ⟨rfl, q, hq⟩
      have HB := Lib.hid (show Below w.heap.size w w1 by rw [hq]; exact below_drewN HI.out.old q)
      clear hq
      go_wp2_with fail
      go_ret
      exact ⟨rfl, HB.out⟩
    · have hi : idxI s.keys p = -1 := by unfold idxI; rw [less_miss hg.rising p hit]
      rw [hi]
      simp only [hit, decide_false] at h1
      generalize lessK s.keys p = j at h1
      have H1 := Lib.hid h1
      clear hs hg hv hit hi h1 hst h6 hcm hnc hnl hp
      unfold Sv.box Sv.val at *
      go_enter Tryz.func55, Tryz.ntmps55
      go_wp2_with fail
      refine (H1.out _ HI.out).mono ?_
      rintro e w1 ⟨rfl, q, hq⟩
      have HB := Lib.hid (show Below w.heap.size w w1 by rw [hq]; exact below_drewN HI.out.old q)
      clear hq
      go_wp2_with fail
      go_ret
      exact ⟨rfl, HB.out⟩
  · have e1 : (s.k == 6) = false := by simpa using h6
    by_cases h5 : s.k = 5
    · have e2 : (s.k == 5) = true := by simpa using h5
      have H1 := Lib.hid (fun wX (hX : Behind s w wX) => atoi_part p wX hp hps (hv.below hX.old))
      have hst : stepI s.k s.items s.keys p = if idxB p = true ∧ numI p < s.items.len then numI p else -1 := by
        unfold stepI
        rw [if_neg h6]
        by_cases hc : idxB p = true ∧ numI p < s.items.len
        · rw [if_pos ⟨h5, hc⟩, if_pos hc]
        · rw [if_neg (fun h => hc h.2), if_neg hc]
      rw [hst, ← hnl]
      have hpos := fun h => (atoi_idx (s := p) h).2
      clear hst h6 h5 hs hg hv hp hnl
      cases hi : idxB p with
      | true =>
        have hp0 := hpos hi
        simp only [true_and]
        rw [hi] at H1
        generalize numI p = x at H1 hp0 ⊢
        clear hi hpos
        have HP := Lib.hid hp0
        by_cases hx : x < (s.n1 : Int)
        · rw [if_pos hx]
          unfold Sv.box Sv.val at *
          go_enter Tryz.func55, Tryz.ntmps55
          go_wp2_with fail
          refine (H1.out _ HI.out).mono ?_
          rintro e w1 ⟨⟨x', er, rfl, hx', -⟩, hb⟩
          obtain ⟨rfl, rfl⟩ := hx' trivial
          have HB := Lib.hid (HI.out.call hb).old
          obtain ⟨z0, z1, z2, z3, z4, z5⟩ := (HI.out.call hb).cells
          clear hb y0 y1 y2 y3 y4 y5
          go_wp2_with fail
          go_ret
          exact ⟨rfl, HB.out⟩
        · rw [if_neg hx]
          unfold Sv.box Sv.val at *
          go_enter Tryz.func55, Tryz.ntmps55
          go_wp2_with fail
          refine (H1.out _ HI.out).mono ?_
          rintro e w1 ⟨⟨x', er, rfl, hx', -⟩, hb⟩
          obtain ⟨rfl, rfl⟩ := hx' trivial
          have HB := Lib.hid (HI.out.call hb).old
          obtain ⟨z0, z1, z2, z3, z4, z5⟩ := (HI.out.call hb).cells
          clear hb y0 y1 y2 y3 y4 y5
          go_wp2_with fail
          go_ret
          exact ⟨rfl, HB.out⟩
      | false =>
        rw [if_neg (by simp)]
        rw [hi] at H1
        clear hi hpos
        unfold Sv.box Sv.val at *
        go_enter Tryz.func55, Tryz.ntmps55
        go_wp2_with fail
        refine (H1.out _ HI.out).mono ?_
        rintro e w1 ⟨⟨x', er, rfl, -, hx'⟩, hb⟩
        obtain ⟨rfl, t, N, rfl⟩ := hx' trivial
        have HB := Lib.hid (HI.out.call hb).old
        obtain ⟨z0, z1, z2, z3, z4, z5⟩ := (HI.out.call hb).cells
        clear hb y0 y1 y2 y3 y4 y5
        go_wp2_with fail
        go_ret
        exact ⟨rfl, HB.out⟩
    · have e2 : (s.k == 5) = false := by simpa using h5
      have hst : stepI s.k s.items s.keys p = -1 := by unfold stepI; rw [if_neg h6, if_neg (fun h => h5 h.1)]
      rw [hst]
      have HB := Lib.hid HI.out.old
      clear hst h6 h5 hs hg hv hp hnl
      unfold Sv.box Sv.val at *
      go_enter Tryz.func55, Tryz.ntmps55
      go_wp2_with fail
      go_ret
      exact ⟨rfl, HB.out⟩
theorem part_first {p : ByteArray} (hp : partB p = true) : 0 < p.size ∧ ∃ c : UInt8, p.data.toList.head? = some c ∧ (keyB p = true → 97 ≤ c.toNat) ∧ (keyB p = false → c.toNat < 97) := by
  have hs : p.data.toList.length = p.size := by rw [Array.length_toList]; rfl
  cases hk : keyB p with
  | true =>
    obtain ⟨c, r, hl, h1, h2⟩ := key_first hk
    rw [hl] at hs
    simp at hs
    exact ⟨by omega, c, by rw [hl]; rfl, fun _ => h1, (fun h => by cases h)⟩
  | false =>
    unfold partB at hp
    rw [hk, Bool.false_or] at hp
    unfold idxB at hp
    simp only [Bool.and_eq_true] at hp
    have hn := hp.2
    have h0 : 0 < p.size := by
      rcases Nat.eq_zero_or_pos p.size with h | h
      · unfold numB at hn; rw [if_pos h] at hn; cases hn
      · exact h
    rw [numB_alt p h0] at hn
    simp only [Bool.and_eq_true] at hn
    have hd : p.data.toList.any nd = false := by
      have := hn.1
      unfold allD at this
      simpa using this
    cases hl : p.data.toList with
    | nil => rw [hl] at hs; simp at hs; omega
    | cons c r =>
      rw [hl] at hd
      simp only [List.any_cons, Bool.or_eq_false_iff] at hd
      have := hd.1
      unfold nd at this
      simp at this
      exact ⟨h0, c, rfl, (fun h => by cases h), fun _ => by omega⟩
theorem key_no_idx {l : List ByteArray} (hl : ∀ s, s ∈ l → keyB s = true) {p : ByteArray} (hp : keyB p = false) : idxI l p = -1 := by
  have : idxK l p = none := idxK_miss (fun hm => by rw [hl p hm] at hp; cases hp)
  unfold idxI
  rw [this]
set_option maxRecDepth 100000 in
set_option maxHeartbeats 1600000 in
theorem step_any (s : Sv) (p : ByteArray) (w : World) (hs : s.okB w w.heap.size) (hg : Good s.k s.items s.keys) (hky : ∀ x, x ∈ s.keys → keyB x = true) (hn : s.n2 ≤ 1099511627776) (hp : partB p = true) (hps : p.size ≤ 400) (hv : ErrV w) :
    Calls Tryz.prog 62 #[s.val, .string p] w fun e w' => e = .returned (.int .i64 (stepI s.k s.items s.keys p)) ∧ Below w.heap.size w w' := by
  have hcm := hs.cm1
  have hnc := hs.nc1
  unfold maxLen at hcm
  have hnl := hs.at_.len_eq
  have HI := Lib.hid (Behind.start s w)
  obtain ⟨y0, y1, y2, y3, y4, y5⟩ := HI.out.cells
  obtain ⟨hp0, c, hc, hck, hcn⟩ := part_first hp
  have i0 : (0 : Int) < (p.size : Int) := by omega
  have hcc : p[0] = c := by
    have := at_idx hp0
    rw [List.head?_eq_getElem?, this] at hc
    exact Option.some.inj hc
  have hne := isEmpty_ne hp0
  cases hk : keyB p with
  | true =>
    have h97 : (97 : Int) ≤ (c.toNat : Int) := by have := hck hk; omega
    by_cases h6 : s.k = 6
    · have e1 : (s.k == 6) = true := by simpa using h6
      have e2 : (s.k != 6) = false := by simpa using h6
      have hst : stepI s.k s.items s.keys p = idxI s.keys p := by unfold stepI; rw [if_pos h6]
      rw [hst]
      have H1 := Lib.hid (fun wX (hX : Behind s w wX) => index_any s.keys s.A2 s.n2 s.c2 p wX ((hs.keep hX.old).ks) hn)
      have HB := Lib.hid HI.out.old
      clear hs hg hky hv hst h6 hcm hnc hnl hp hk hck hcn hc
      unfold Sv.box Sv.val at *
      go_enter Tryz.func62, Tryz.ntmps62
      go_wp2_with fail
      refine (H1.out _ HI.out).mono ?_
      rintro e w1 ⟨rfl, rfl⟩
      go_wp2_with fail
      go_ret
      exact ⟨rfl, HB.out⟩
    · have e1 : (s.k == 6) = false := by simpa using h6
      have e2 : (s.k != 6) = true := by simpa using h6
      have hst : stepI s.k s.items s.keys p = -1 := by unfold stepI; rw [if_neg h6, if_neg (fun h => by rw [not_both hk] at h; cases h.2.1)]
      rw [hst]
      have HB := Lib.hid HI.out.old
      clear hs hg hky hv hst h6 hcm hnc hnl hp hk hck hcn hc
      unfold Sv.box Sv.val at *
      go_enter Tryz.func62, Tryz.ntmps62
      go_wp2_with fail
      go_ret
      exact ⟨rfl, HB.out⟩
  | false =>
    have h97 : ¬ (97 : Int) ≤ (c.toNat : Int) := by have := hcn hk; omega
    have hi : idxB p = true := by unfold partB at hp; rw [hk] at hp; simpa using hp
    have H1 := Lib.hid (fun wX (hX : Behind s w wX) => atoi_part p wX hp hps (hv.below hX.old))
    rw [hi] at H1
    have hp0 := (atoi_idx hi).2
    have hst : stepI s.k s.items s.keys p = if s.k = 5 ∧ numI p < s.items.len then numI p else -1 := by
      unfold stepI
      by_cases h6 : s.k = 6
      · rw [if_pos h6, if_neg (fun h => by omega), key_no_idx hky hk]
      · rw [if_neg h6]
        by_cases h : s.k = 5 ∧ numI p < s.items.len
        · rw [if_pos ⟨h.1, hi, h.2⟩, if_pos h]
        · rw [if_neg (fun h' => h ⟨h'.1, h'.2.2⟩), if_neg h]
    rw [hst, ← hnl]
    generalize numI p = x at H1 hp0 ⊢
    clear hs hg hky hv hst hnl hp hk hck hcn hc hi
    by_cases h5 : s.k = 5
    · have e2 : (s.k == 5) = true := by simpa using h5
      by_cases hx : x < (s.n1 : Int)
      · rw [if_pos ⟨h5, hx⟩]
        clear h5
        unfold Sv.box Sv.val at *
        go_enter Tryz.func62, Tryz.ntmps62
        go_wp2_with fail
        refine (H1.out _ HI.out).mono ?_
        rintro e w1 ⟨⟨x', er, rfl, hx', -⟩, hb⟩
        obtain ⟨rfl, rfl⟩ := hx' trivial
        have HB := Lib.hid (HI.out.call hb).old
        obtain ⟨z0, z1, z2, z3, z4, z5⟩ := (HI.out.call hb).cells
        clear hb y0 y1 y2 y3 y4 y5
        go_wp2_with fail
        go_ret
        exact ⟨rfl, HB.out⟩
      · rw [if_neg (fun h => hx h.2)]
        clear h5
        unfold Sv.box Sv.val at *
        go_enter Tryz.func62, Tryz.ntmps62
        go_wp2_with fail
        refine (H1.out _ HI.out).mono ?_
        rintro e w1 ⟨⟨x', er, rfl, hx', -⟩, hb⟩
        obtain ⟨rfl, rfl⟩ := hx' trivial
        have HB := Lib.hid (HI.out.call hb).old
        obtain ⟨z0, z1, z2, z3, z4, z5⟩ := (HI.out.call hb).cells
        clear hb y0 y1 y2 y3 y4 y5
        go_wp2_with fail
        go_ret
        exact ⟨rfl, HB.out⟩
    · have e2 : (s.k == 5) = false := by simpa using h5
      rw [if_neg (fun h => h5 h.1)]
      clear h5
      unfold Sv.box Sv.val at *
      go_enter Tryz.func62, Tryz.ntmps62
      go_wp2_with fail
      refine (H1.out _ HI.out).mono ?_
      rintro e w1 ⟨⟨x', er, rfl, hx', -⟩, hb⟩
      obtain ⟨rfl, rfl⟩ := hx' trivial
      have HB := Lib.hid (HI.out.call hb).old
      obtain ⟨z0, z1, z2, z3, z4, z5⟩ := (HI.out.call hb).cells
      clear hb y0 y1 y2 y3 y4 y5
      go_wp2_with fail
      go_ret
      exact ⟨rfl, HB.out⟩
end Go.Proofs.YtohkdckllmmfhaaGreatDoor
