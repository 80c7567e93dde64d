/- DERIVED. What Line of package page returns. Condition: strings of at most 20000 bytes. -/
import Derived.Test.YtfmmpfoecjehiaaArgErr
namespace Go.Proofs.Ytfmmpfoecjehiaa
set_option linter.unusedVariables false
set_option linter.unusedSimpArgs false
open Go.RowKit
/-- What a line is, from behind its first three bytes on: the name, the arguments, whether it opens. -/
def GL (l nm : L8) (gs : List (L8 × L8)) (o : Bool) : Prop := nm = l.take (lead nmC l) ∧ 0 < lead nmC l ∧ lead nmC l ≤ 20 ∧ PA (l.drop (lead nmC l)) gs o
theorem GL.det {l nm nm' : L8} {gs gs' : List (L8 × L8)} {o o' : Bool} (h : GL l nm gs o) (h' : GL l nm' gs' o') : nm = nm' ∧ gs = gs' ∧ o = o' := by
  obtain ⟨rfl, _, _, h1⟩ := h
  obtain ⟨rfl, _, _, h2⟩ := h'
  obtain ⟨h3, h4⟩ := h1.det h2
  exact ⟨rfl, h3, h4⟩
theorem GL.of_words {l W p0 : L8} {ps : List L8} {gs : List (L8 × L8)} {o : Bool} (hl : l = W ++ suf o) (hw : wds false [] W = p0 :: ps) (hc : codeNm p0 = true) (ha : ps.map argW = gs.map some) : GL l p0 gs o := by
  subst hl
  obtain ⟨h1, h2, h3⟩ := read_of_words (e := o) hw hc ha
  obtain ⟨h4, h5, _⟩ := code_parts hc
  refine ⟨?_, ?_, ?_, ?_⟩
  · rw [h1, h2]
  · rw [h1]; exact h4
  · rw [h1]; exact h5
  · rw [h1]; exact h3
theorem GL.words {l nm : L8} {gs : List (L8 × L8)} {o : Bool} (h : GL l nm gs o) : ∃ W ps, l = W ++ suf o ∧ wds false [] W = nm :: ps ∧ codeNm nm = true ∧ ps.map argW = gs.map some := by
  obtain ⟨rfl, h0, h1, h2⟩ := h
  exact words_of_read h0 h1 h2
def preL (s : ByteArray) : Bool := Lib.hasPrefix (bl s) [123, 60, 32]
def preC (s : ByteArray) : Bool := Lib.hasPrefix (bl s) [123, 60, 32, 47]
def zP : Value := .agg (pcells [] (.slice none 0 0) false)
/-- What is returned for a line. -/
def LnPost (s : ByteArray) (w : World) (e : Ending) (w' : World) : Prop :=
  (if preL s = true ∧ preC s = false then
    (∃ nm gs o, GL ((bl s).drop 3) nm gs o ∧ ((agErr (gB gs) ≠ 0 ∧ e = .returned (.tuple #[zP, .int .i64 (agErr (gB gs))])) ∨
      (agErr (gB gs) = 0 ∧ ∃ A c, e = .returned (.tuple #[.agg (pcells nm (.slice A gs.length c) o), .int .i64 0]) ∧ gs.length ≤ 12 ∧ gs.length ≤ c ∧ AAt w' w'.heap.size A (gB gs)))) ∨
    ((∀ nm gs o, ¬ GL ((bl s).drop 3) nm gs o) ∧ e = .returned (.tuple #[zP, .int .i64 8]))
  else e = .returned (.tuple #[zP, .int .i64 7])) ∧ Below w.heap.size w w'
theorem LnPost.no {s : ByteArray} {w w' : World} (h : ¬ (preL s = true ∧ preC s = false)) (hb : Below w.heap.size w w') : LnPost s w (.returned (.tuple #[zP, .int .i64 7])) w' := ⟨by rw [if_neg h], hb⟩
theorem LnPost.bad {s : ByteArray} {w w' : World} (h : preL s = true ∧ preC s = false) (hg : ∀ nm gs o, ¬ GL ((bl s).drop 3) nm gs o) (hb : Below w.heap.size w w') : LnPost s w (.returned (.tuple #[zP, .int .i64 8])) w' := ⟨by rw [if_pos h]; exact .inr ⟨hg, rfl⟩, hb⟩
theorem LnPost.err {s : ByteArray} {w w' : World} {nm : L8} {gs : List (L8 × L8)} {o : Bool} {x : Int} (h : preL s = true ∧ preC s = false) (hg : GL ((bl s).drop 3) nm gs o) (hx : agErr (gB gs) = x) (h0 : x ≠ 0) (hb : Below w.heap.size w w') : LnPost s w (.returned (.tuple #[zP, .int .i64 x])) w' :=
  ⟨by rw [if_pos h]; exact .inl ⟨nm, gs, o, hg, .inl ⟨by rw [hx]; exact h0, by rw [hx]⟩⟩, hb⟩
theorem LnPost.yes {s : ByteArray} {w w' : World} {nm : L8} {gs : List (L8 × L8)} {o : Bool} {A : Option Addr} {k c : Nat} (h : preL s = true ∧ preC s = false) (hg : GL ((bl s).drop 3) nm gs o) (hx : agErr (gB gs) = 0) (hk : k = gs.length) (hk12 : k ≤ 12) (hkc : k ≤ c)
    (ha : AAt w' w'.heap.size A (gB gs)) (hb : Below w.heap.size w w') : LnPost s w (.returned (.tuple #[.agg (pcells nm (.slice A k c) o), .int .i64 0])) w' := by
  subst hk
  exact ⟨by rw [if_pos h]; exact .inl ⟨nm, gs, o, hg, .inr ⟨hx, A, c, rfl, hk12, hkc, ha⟩⟩, hb⟩
theorem gB_length (gs : List (L8 × L8)) : (gB gs).length = gs.length := by simp [gB]
theorem hpre (s : ByteArray) (w : World) : Calls Try.prog 13 #[.string s, .string ⟨#[123, 60, 32]⟩] w fun e w' => e = .returned (.bool (preL s)) ∧ w = w' :=
  (Try.strings_HasPrefix s ⟨#[123, 60, 32]⟩ w).mono fun e w' h => ⟨h.1, h.2.symm⟩
theorem hclo (s : ByteArray) (w : World) : Calls Try.prog 13 #[.string s, .string ⟨#[123, 60, 32, 47]⟩] w fun e w' => e = .returned (.bool (preC s)) ∧ w = w' :=
  (Try.strings_HasPrefix s ⟨#[123, 60, 32, 47]⟩ w).mono fun e w' h => ⟨h.1, h.2.symm⟩
theorem pre_len {s : ByteArray} (h : preL s = true) : 3 ≤ s.size := by
  unfold preL Lib.hasPrefix at h
  have := (List.isPrefixOf_iff_prefix.1 h).length_le
  rw [bl_len] at this
  exact this
theorem own_cap {w : World} {base n c size : Nat} {A : Option Addr} {xs : List Value} {e : TypeId} (h : w.ownsRow base e size (.slice A n c) n xs) : n ≤ c := by
  rcases h.2 with ⟨hv, h0⟩ | ⟨g, cap, cur, hv, _, _, h1, _⟩
  · omega
  · injection hv with _ _ h3
    omega
set_option maxRecDepth 100000 in
set_option maxHeartbeats 4000000 in
theorem line_any (s : ByteArray) (w : World) (hs : s.size ≤ 20000) :
    Calls Try.prog 5 #[.string s] w (LnPost s w) := by
  have H1 := Lib.hid (fun wX => hpre s wX)
  have H2 := Lib.hid (fun wX => hclo s wX)
  cases hp : preL s with
  | false =>
    rw [hp] at H1
    have HN := Lib.hid (show ¬ (preL s = true ∧ preC s = false) by rw [hp]; simp)
    clear hp
    go_enter Try.func5, Try.ntmps5
    go_wp2_with (go_at_call 13; refine (H1.out _).mono ?_; rintro e w9 ⟨rfl, rfl⟩)
    refine bodyPost_ret (v := .tuple #[zP, .int .i64 7]) (by simp [results, Try.results5, go_sem, zP, pcells]; try rfl) rfl (LnPost.no HN.out ?_)
    first | exact (Below.refl _ _).alloc (Nat.le_refl _) _ | exact ((Below.refl _ _).alloc (Nat.le_refl _) _).setCell (by simp) _
  | true =>
    rw [hp] at H1
    cases hc : preC s with
    | true =>
      rw [hc] at H2
      have HN := Lib.hid (show ¬ (preL s = true ∧ preC s = false) by rw [hc]; simp)
      clear hp hc
      go_enter Try.func5, Try.ntmps5
      go_wp2_with (first | (go_at_call 13; with_reducible refine (H1.out _).mono ?_; rintro e w9 ⟨rfl, rfl⟩) | (go_at_call 13; with_reducible refine (H2.out _).mono ?_; rintro e w9 ⟨rfl, rfl⟩))
      refine bodyPost_ret (v := .tuple #[zP, .int .i64 7]) (by simp [results, Try.results5, go_sem, zP, pcells]; try rfl) rfl (LnPost.no HN.out ?_)
      first | exact (Below.refl _ _).alloc (Nat.le_refl _) _ | exact ((Below.refl _ _).alloc (Nat.le_refl _) _).setCell (by simp) _
    | false =>
      rw [hc] at H2
      have HY := Lib.hid (And.intro hp hc)
      have hl3 := pre_len hp
      have hx := ext_bs s 3
      obtain ⟨X, hX⟩ : ∃ X, s.extract 3 s.size = X := ⟨_, rfl⟩
      have hXl : bl X = (bl s).drop 3 := by rw [hx] at hX; rw [← hX, bl_bs]
      have hXz : X.size ≤ 20000 := by rw [← bl_len, hXl, List.length_drop, bl_len]; omega
      have hrl := fun wX => readLine_any X wX hXz
      rw [hXl] at hrl
      have HRL := Lib.hid hrl
      have a0 : (3 : Int) ≤ (s.size : Int) := by omega
      clear hp hc hx hXl hXz hrl
      go_enter Try.func5, Try.ntmps5
      go_wp2_with (first | (go_at_call 13; with_reducible refine (H1.out _).mono ?_; rintro e w9 ⟨rfl, rfl⟩) | (go_at_call 13; with_reducible refine (H2.out _).mono ?_; rintro e w9 ⟨rfl, rfl⟩))
      obtain ⟨W1, hW1⟩ : ∃ W1, w.alloc (.cells #[.string ⟨#[]⟩, .string ⟨#[]⟩, .slice none 0 0, .bool false, .slice none 0 0] 25) = W1 := ⟨_, rfl⟩
      have hbx : PBox W1 w.heap.size [] (.slice none 0 0) false := by rw [← hW1]; exact heap_alloc_new w _
      have hb1 : Below w.heap.size w W1 := by rw [← hW1]; exact (Below.refl _ _).alloc (Nat.le_refl _) _
      have hs1 : W1.heap.size = w.heap.size + 1 := by rw [← hW1]; simp
      rw [hW1]
      clear hW1
      refine (HRL.out _).mono ?_
      rintro e w2 ⟨hres, hb2⟩
      have hb02 : Below w.heap.size w w2 := hb1.trans (hb2.mono (by omega))
      have hbx2 := hbx.keep hb2 (by omega)
      have hw2 : w.heap.size < w2.heap.size := by have := hb2.size; omega
      obtain ⟨y0, y1, y2, y3, y4⟩ := hbx2.cells
      have z0 := hbx2.free 0
      have z1 := hbx2.free 1
      have z2 := hbx2.free 2
      have z3 := hbx2.free 3
      have z4 := hbx2.free 4
      have HBX2 := Lib.hid hbx2; clear hbx2 hbx
      have HB02 := Lib.hid hb02; clear hb02
      rcases hres with ⟨gs, o, A, c, g1, g2, g3, rfl, hown⟩ | ⟨hno, rfl⟩
      · have hgl : GL ((bl s).drop 3) (((bl s).drop 3).take (lead nmC ((bl s).drop 3))) gs o := ⟨rfl, g1, g2, g3⟩
        obtain ⟨nm, hnm⟩ : ∃ nm, ((bl s).drop 3).take (lead nmC ((bl s).drop 3)) = nm := ⟨_, rfl⟩
        rw [hnm] at hgl
        simp only [hnm]
        have HG := Lib.hid hgl
        clear hgl hnm g1 g2 g3 hb1
        have hown2 := own_below hown (Below.refl _ _)
        obtain ⟨k, hk⟩ : ∃ k, (gs.take 13).length = k := ⟨_, rfl⟩
        rw [hk] at hown ⊢
        have HK := Lib.hid hk
        have hk13 : k ≤ 13 := by rw [← hk, List.length_take]; omega
        have hkc := own_cap hown
        have HO := Lib.hid hown
        clear hown hown2 hk hb2
        by_cases h12 : 12 < k
        · have h12i : (12 : Int) < (k : Int) := by omega
          have HE := Lib.hid (show agErr (gB gs) = 4 by unfold agErr; rw [gB_length, if_pos (by have := HK.out; rw [List.length_take] at this; omega)])
          unfold pcells
          go_wp2_with fail
          refine bodyPost_ret (v := .tuple #[zP, .int .i64 4]) (by simp [results, Try.results5, go_sem, zP, pcells, y0, y1, y2, y3, y4, hw2]; try rfl) rfl (LnPost.err HY.out HG.out HE.out (by decide) ?_)
          repeat (first | with_reducible exact HB02.out | with_reducible refine below_setN ?_ (Nat.le_refl _) | refine Below.alloc ?_ (by simp; omega) _)
        · have h12i : ¬ (12 : Int) < (k : Int) := by omega
          have hgl12 : gs.length ≤ 12 := by have := HK.out; rw [List.length_take] at this; omega
          have htk : gs.take 13 = gs := List.take_of_length_le (by omega)
          have hkl : k = gs.length := by have := HK.out; rw [htk] at this; exact this.symm
          have HOg := Lib.hid (show w2.ownsRow (W1.heap.size + 1) 43 2 (.slice A k c) k (acells gs) by have := HO.out; rwa [htk] at this)
          have HKL := Lib.hid hkl
          have hag : agErr (gB gs) = nmErr (gB gs) := by unfold agErr; rw [gB_length, if_neg (by omega)]
          have hcn := fun wX (hX : Below w2.heap.size w2 wX) => checkNames_any A k c (gB gs) wX (by rw [gB_length]; exact hkl) (by omega) hkc (((aat_own HOg.out hkl).below hX).more hX.size)
          have h12l := hgl12
          rw [← hag] at hcn
          obtain ⟨x, hx⟩ : ∃ x, agErr (gB gs) = x := ⟨_, rfl⟩
          rw [hx] at hcn
          have HCN := Lib.hid hcn
          have HE := Lib.hid hx
          clear hcn hx hag htk hkl hgl12 h12l
          unfold pcells
          go_wp2_with fail
          obtain ⟨W3, hW3⟩ : ∃ W3, w2.alloc (.cells #[.string ⟨#[]⟩, .string (bs nm), .slice A k c, .bool o, .slice none 0 0] 25) = W3 := ⟨_, rfl⟩
          have hbx3 : PBox W3 w2.heap.size nm (.slice A k c) o := by rw [← hW3]; exact heap_alloc_new w2 _
          have hb3 : Below w2.heap.size w2 W3 := by rw [← hW3]; exact (Below.refl _ _).alloc (Nat.le_refl _) _
          have hs3 : W3.heap.size = w2.heap.size + 1 := by rw [← hW3]; simp
          rw [hW3]
          clear hW3
          refine (HCN.out _ hb3).mono ?_
          rintro e w4 ⟨rfl, hb4⟩
          have hb24 : Below w2.heap.size w2 w4 := hb3.trans (hb4.mono (by omega))
          have hbx4 := hbx3.keep hb4 (by omega)
          obtain ⟨v0, v1, v2, v3, v4⟩ := hbx4.cells
          have hbx24 := HBX2.out.keep hb24 hw2
          obtain ⟨y0, y1, y2, y3, y4⟩ := hbx24.cells
          have z0 := hbx24.free 0
          have z1 := hbx24.free 1
          have z2 := hbx24.free 2
          have z3 := hbx24.free 3
          have z4 := hbx24.free 4
          have hw4 : w2.heap.size < w4.heap.size := by have := hb4.size; omega
          have HB24 := Lib.hid hb24
          have hb04 := HB02.out.trans (hb24.mono (by omega))
          have HB04 := Lib.hid hb04
          clear hb24 hb04 hb3 hb4 hbx3 hbx4 hbx24
          by_cases hx0 : x = 0
          · subst hx0
            go_wp2_with fail
            refine bodyPost_ret (v := .tuple #[.agg (pcells nm (.slice A k c) o), .int .i64 0]) (by simp [results, Try.results5, go_sem, pcells, y0, y1, y2, y3, y4]; try rfl) rfl (LnPost.yes HY.out HG.out HE.out HKL.out (by have := HK.out; omega) hkc ?_ ?_)
            · have hown4 := own_below HOg.out HB24.out
              refine aat_own (e := 43) (base := W1.heap.size + 1) (k := k) (c := c) ?_ HKL.out
              repeat (first | with_reducible exact hown4 | with_reducible refine own_set ?_ (by omega))
            · repeat (first | with_reducible exact HB04.out | with_reducible refine below_setN ?_ (Nat.le_refl _))
          · have hx1 : (x == 0) = false := by simpa using hx0
            have hx2 : (x != 0) = true := by simpa using hx0
            have HX0 := Lib.hid hx0; clear hx0
            go_wp2_with fail
            refine bodyPost_ret (v := .tuple #[zP, .int .i64 x]) (by simp [results, Try.results5, go_sem, zP, pcells, y0, y1, y2, y3, y4]; try rfl) rfl (LnPost.err HY.out HG.out HE.out HX0.out ?_)
            repeat (first | with_reducible exact HB04.out | with_reducible refine below_setN ?_ (Nat.le_refl _))
      · have HG := Lib.hid (show ∀ nm gs o, ¬ GL ((bl s).drop 3) nm gs o from fun nm gs o h => hno gs o ⟨h.2.1, h.2.2.1, h.2.2.2⟩)
        clear hno hb2 hb1
        unfold pcells
        go_wp2_with fail
        refine bodyPost_ret (v := .tuple #[zP, .int .i64 8]) (by simp [results, Try.results5, go_sem, zP, pcells, y0, y1, y2, y3, y4, hw2]; try rfl) rfl (LnPost.bad HY.out HG.out ?_)
        repeat (first | with_reducible exact HB02.out | with_reducible refine below_setN ?_ (Nat.le_refl _) | refine Below.alloc ?_ (by simp; omega) _)
end Go.Proofs.Ytfmmpfoecjehiaa
