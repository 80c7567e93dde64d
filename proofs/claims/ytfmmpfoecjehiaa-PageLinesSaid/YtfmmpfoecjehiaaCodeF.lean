/- DERIVED. CodeOf of the reference at a line that ends by itself. -/
import Derived.Test.YtfmmpfoecjehiaaCodePre
namespace Go.Proofs.Ytfmmpfoecjehiaa
set_option linter.unusedVariables false
set_option linter.unusedSimpArgs false
open Go.RowKit
set_option maxRecDepth 100000 in
set_option maxHeartbeats 8000000 in
theorem codeOf_f (s : ByteArray) (w : World) (hs : s.size ≤ 20000) (hp : preL s = true) (hc : preC s = false) (hf : Lib.hasSuffix (bl s) (suf false) = true) :
    Calls Try.prog 6 #[.string s] w (LnPost s w) := by
  have H1 := Lib.hid (fun wX => hpre s wX)
  have H2 := Lib.hid (fun wX => hclo s wX)
  have hb0 := Lib.hid (Below.refl w.heap.size w)
  rw [hp] at H1
  rw [hc] at H2
  have HY := Lib.hid (And.intro hp hc)
  have hl3 := pre_len hp
  have hs1 := fun wX => hsuf s ⟨#[32, 47, 62, 125]⟩ wX hs
  have hs2 := fun wX => hsuf s ⟨#[32, 62, 125]⟩ wX hs
  clear hp hc
  have e1 : (bl (ByteArray.mk #[32, 47, 62, 125])) = suf false := rfl
  have e2 : (bl (ByteArray.mk #[32, 62, 125])) = suf true := rfl
  simp only [e1] at hs1
  simp only [e2] at hs2
  obtain ⟨X, hX, hXz, hXe⟩ := suffix_cut hf
  rw [hf] at hs1
  have hlen : (suf false).length = 4 := rfl
  rw [hlen] at hXz
  clear hf e1 e2 hlen
  have HS1 := Lib.hid hs1
  have HS2 := Lib.hid hs2
  clear hs1 hs2
  have x0 : (0 : Int) ≤ (s.size : Int) - 4 := by omega
  have x1 : (s.size : Int) - 4 ≤ (s.size : Int) := by omega
  have x2 : ((s.size : Int) - 4).toNat = X.length := by omega
  have HX := Lib.hid hX
  have hXs : (bs X).size = X.length := bs_size X
  obtain ⟨XX, hXX⟩ : ∃ XX, bs X = XX := ⟨_, rfl⟩
  rw [hXX] at hXe hXs
  by_cases hX3 : X.length < 3
  · have HG := Lib.hid (show ∀ nm gs o, ¬ GL ((bl s).drop 3) nm gs o from fun nm gs o h => by
      obtain ⟨W, ps, h1, _⟩ := h.ends hl3
      obtain ⟨_, h3⟩ := suf_end (HX.out.symm.trans h1)
      rw [h3, List.length_append, List.length_take, bl_len] at hX3
      omega)
    have hz3 : (XX.size : Int) < 3 := by omega
    have hz3n : XX.size < 3 := by omega
    clear hX hXX
    go_enter Try.func6, Try.ntmps6
    go_wp2_with (first | (go_at_call 13; with_reducible refine (H1.out _).mono ?_; rintro e w9 ⟨rfl, rfl⟩) | (go_at_call 13; with_reducible refine (H2.out _).mono ?_; rintro e w9 ⟨rfl, rfl⟩) | (go_at_call 16; with_reducible refine (HS1.out _).mono ?_; rintro e w9 ⟨rfl, rfl⟩) | (go_at_call 16; with_reducible refine (HS2.out _).mono ?_; rintro e w9 ⟨rfl, rfl⟩))
    refine bodyPost_ret (v := .tuple #[zP, .int .i64 8]) (by simp [results, Try.results6, go_sem, zP, pcells, ]; try rfl) rfl (LnPost.bad HY.out HG.out ?_)
    repeat (first | with_reducible exact hb0.out | with_reducible refine below_setN ?_ (by first | exact Nat.le_refl _ | omega) | refine Below.alloc ?_ (by simp; try omega) _)
  · have hz3 : ¬ (XX.size : Int) < 3 := by omega
    have hz3n : ¬ XX.size < 3 := by omega
    have hz3d : decide ((XX.size : Int) < 3) = false := decide_eq_false hz3
    have hz3i : (3 : Int) ≤ (XX.size : Int) := by omega
    -- the words
    have hW3 := bs_ext' X XX hXX 3
    obtain ⟨W, hWd⟩ : ∃ W, X.drop 3 = W := ⟨_, rfl⟩
    have hXW : X = (bl s).take 3 ++ W := by
      have : (bl s).take 3 = X.take 3 := by rw [hX, List.take_append_of_le_length (by omega)]
      rw [this, ← hWd, List.take_append_drop]
    have hlW : (bl s).drop 3 = W ++ suf false := by rw [hX, List.drop_append_of_le_length (by omega), hWd]
    have HLW := Lib.hid hlW
    rw [hWd] at hW3
    obtain ⟨YY, hYY⟩ : ∃ YY, XX.extract 3 XX.size = YY := ⟨_, rfl⟩
    have hYb : bl YY = W := by rw [← hYY, hW3, bl_bs]
    have hYz : YY.size ≤ 20000 := by
      rw [← bl_len, hYb, ← hWd, List.length_drop]
      omega
    have hwd := fun wX => words_any YY wX hYz
    have HWD := Lib.hid hwd
    have HYB := Lib.hid hYb
    have hnotG : ∀ p0 ps, wds false [] W = p0 :: ps → (codeNm p0 = false ∨ ∀ gs : List (L8 × L8), ps.map argW ≠ gs.map some) → ∀ nm gs o, ¬ GL ((bl s).drop 3) nm gs o := fun p0 ps hw hbad nm gs o h => by
      obtain ⟨W', ps', h1, h2, h3, h4⟩ := h.words
      rw [HLW.out] at h1
      obtain ⟨_, h5⟩ := suf_end h1
      subst h5
      rw [hw] at h2
      injection h2 with h6 h7
      subst h6 h7
      rcases hbad with h | h
      · rw [h] at h3; cases h3
      · exact h gs h4
    have HNG := Lib.hid hnotG
    have HWz := Lib.hid (show W.length ≤ 20000 by rw [← hYb, bl_len]; exact hYz)
    clear hX hXX hXW hlW hWd hwd hYb hnotG hXz hXs hYz hW3
    go_enter Try.func6, Try.ntmps6
    go_wp2_with (first | (go_at_call 13; with_reducible refine (H1.out _).mono ?_; rintro e w9 ⟨rfl, rfl⟩) | (go_at_call 13; with_reducible refine (H2.out _).mono ?_; rintro e w9 ⟨rfl, rfl⟩) | (go_at_call 16; with_reducible refine (HS1.out _).mono ?_; rintro e w9 ⟨rfl, rfl⟩) | (go_at_call 16; with_reducible refine (HS2.out _).mono ?_; rintro e w9 ⟨rfl, rfl⟩))
    obtain ⟨W0, hW0⟩ : ∃ W0, w.alloc (.cells #[.string ⟨#[]⟩, .string ⟨#[]⟩, .slice none 0 0, .bool false, .slice none 0 0] 25) = W0 := ⟨_, rfl⟩
    have hbx0 : PBox W0 w.heap.size [] (.slice none 0 0) false := by rw [← hW0]; exact heap_alloc_new w _
    have hb00 : Below w.heap.size w W0 := by rw [← hW0]; exact (Below.refl _ _).alloc (Nat.le_refl _) _
    have hs0 : W0.heap.size = w.heap.size + 1 := by rw [← hW0]; simp
    obtain ⟨W1, hW1⟩ : ∃ W1, W0.alloc (.cells #[.string ⟨#[]⟩, .string ⟨#[]⟩, .slice none 0 0, .bool false, .slice none 0 0] 25) = W1 := ⟨_, rfl⟩
    have hbx1 : PBox W1 (w.heap.size + 1) [] (.slice none 0 0) false := by rw [← hW1, ← hs0]; exact heap_alloc_new W0 _
    have hb01 : Below W0.heap.size W0 W1 := by rw [← hW1]; exact (Below.refl _ _).alloc (Nat.le_refl _) _
    have hs1 : W1.heap.size = w.heap.size + 2 := by rw [← hW1]; simp; omega
    have hbx0' := hbx0.keep hb01 (by omega)
    rw [hW0, hW1]
    clear hW0 hW1
    refine (HWD.out W1).mono ?_
    rintro e w2 ⟨A, c, rfl, hown, hb2⟩
    rw [HYB.out] at hown ⊢
    obtain ⟨p0, ps, hwp⟩ : ∃ p0 ps, wds false [] W = p0 :: ps := by
      cases h : wds false [] W with
      | nil => exact absurd h (wds_ne _ _ _)
      | cons p0 ps => exact ⟨p0, ps, rfl⟩
    rw [hwp] at hown ⊢
    have HWP := Lib.hid hwp; clear hwp
    simp only [List.length_cons, List.map_cons] at hown ⊢
    obtain ⟨m, hm⟩ : ∃ m, ps.length = m := ⟨_, rfl⟩
    rw [hm] at hown ⊢
    have HM := Lib.hid hm; clear hm
    have hcap := own_cap hown
    obtain ⟨g, c', hAc⟩ := Go.Joins.ownsRow_form hown (by omega)
    injection hAc with hA _ hc'
    subst hA hc'
    have hglt := hown.lt g rfl
    have hcell := hown.cells (g := g) rfl
    have c0 : w2.cell? ⟨g, 0, none⟩ = some (strV p0) := by
      have := hcell 0 (strV p0) rfl
      unfold Addr.add at this
      simpa using this
    have hcs : ∀ (j : Nat) (p : L8), ps[j]? = some p → w2.cell? ⟨g, 1 + j, none⟩ = some (.string (bs p)) := fun j p hj => by
      have := hcell (j + 1) (strV p) (by simp [hj])
      unfold Addr.add at this
      rw [if_neg (by omega)] at this
      simp only [Nat.zero_add] at this
      rw [show 1 + j = j + 1 by omega]
      exact this
    unfold strV at c0
    have HCS := Lib.hid hcs
    have hm20 : m ≤ 20001 := by
      have h1 := hown.1
      have h2 : (List.length (wds false [] W)) ≤ 20001 := by
        have := wds_length W false []
        have := HWz.out
        omega
      rw [HWP.out] at h2
      simp at h2
      have := HM.out
      omega
    clear hown hcell hcs
    have hb02 : Below w.heap.size w w2 := (hb00.trans (hb01.mono (by omega))).trans (hb2.mono (by omega))
    have hbx2 := hbx1.keep hb2 (by omega)
    have hbx02 := hbx0'.keep hb2 (by omega)
    have HB02 := Lib.hid hb02
    obtain ⟨y0, y1, y2, y3, y4⟩ := hbx02.cells
    have z0 := hbx02.free 0
    have z1 := hbx02.free 1
    have z2 := hbx02.free 2
    have z3 := hbx02.free 3
    have z4 := hbx02.free 4
    have u0 := (hbx2.cells).1
    have u1 := (hbx2.cells).2.1
    have uz1 := hbx2.free 1
    have hshort := words_short HWP.out
    have HSH := Lib.hid hshort
    have hcn := fun wX => codeName_any (bs p0) wX (by rw [bs_size]; have := hshort.1; have := HWz.out; omega)
    clear hshort
    rw [bl_bs] at hcn
    obtain ⟨P0, hP0⟩ : ∃ P0, bs p0 = P0 := ⟨_, rfl⟩
    rw [hP0] at c0 hcn
    have HP0 := Lib.hid hP0
    have HBX2 := Lib.hid (And.intro hbx2 hbx02)
    have hg1 : w.heap.size + 1 < g := by omega
    clear hP0 hbx2 hbx02 hb02 hbx0 hbx0' hbx1 hb00 hb01 hb2
    cases hcd : codeNm p0 with
    | false =>
      rw [hcd] at hcn
      have HCN := Lib.hid hcn
      have HG := Lib.hid (HNG.out p0 ps HWP.out (.inl hcd))
      clear hcd hcn
      go_wp2_with (go_at_call 18; refine (HCN.out _).mono ?_; rintro e w9 ⟨rfl, rfl⟩)
      refine bodyPost_ret (v := .tuple #[zP, .int .i64 8]) (by simp [results, Try.results6, go_sem, zP, pcells, y0, y1, y2, y3, y4]; try rfl) rfl (LnPost.bad HY.out HG.out ?_)
      repeat (first | with_reducible exact HB02.out | with_reducible refine below_setN ?_ (by first | exact Nat.le_refl _ | omega) | refine Below.alloc ?_ (by simp; try omega) _)
    | true =>
      rw [hcd] at hcn
      have HCN := Lib.hid hcn
      have HCD := Lib.hid hcd
      clear hcd hcn
      have hbx3 : PBox (w2.setCell ⟨w.heap.size + 1, 1, none⟩ (.string P0)) (w.heap.size + 1) p0 (.slice none 0 0) false := by rw [← HP0.out]; exact HBX2.out.1.name
      have hbx03 : PBox (w2.setCell ⟨w.heap.size + 1, 1, none⟩ (.string P0)) w.heap.size [] (.slice none 0 0) false := HBX2.out.2.far (by omega)
      have hsz3 : (w2.setCell ⟨w.heap.size + 1, 1, none⟩ (.string P0)).heap.size = w2.heap.size := by simp
      have hgb3 : (w2.setCell ⟨w.heap.size + 1, 1, none⟩ (.string P0)).heap[g]? = w2.heap[g]? := blk_far rfl (by omega)
      have hb03 : Below w.heap.size w (w2.setCell ⟨w.heap.size + 1, 1, none⟩ (.string P0)) := below_setN HB02.out (by omega)
      have hw22 : w.heap.size + 2 ≤ w2.heap.size := by omega
      have HST := Lib.hid (And.intro hbx3 (And.intro hbx03 (And.intro hsz3 (And.intro hgb3 hb03))))
      clear hbx3 hbx03 hsz3 hgb3 hb03
      obtain ⟨i0, hi, hz0, hz1, hz2⟩ := info_parts argInfo
      by_cases hc1 : c = 1
      · have hm0 : m = 0 := by omega
        subst hc1
        subst hm0
        go_wp2_with (go_at_call 18; refine (HCN.out _).mono ?_; rintro e w9 ⟨rfl, rfl⟩)
        go_loopw [58] (fun i wr => ∃ (k : Nat) (done : List (L8 × L8)) (A2 : Option Addr) (c2 : Nat), k ≤ 0 ∧ i = .int .i64 k ∧ (ps.take k).map argW = done.map some ∧ done.length = k ∧ PBox wr (w.heap.size + 1) p0 (.slice A2 k c2) false ∧ wr.ownsRow w2.heap.size 43 2 (.slice A2 k c2) k (acells done) ∧ PBox wr w.heap.size [] (.slice none 0 0) false ∧ wr.heap[g]? = w2.heap[g]? ∧ w2.heap.size ≤ wr.heap.size ∧ Below w.heap.size w wr) (fun i _ => 0 - (intOf i).toNat)
        case atStart => exact ⟨0, [], none, 0, Nat.zero_le _, rfl, rfl, rfl, HST.out.1, World.ownsRow_nil _ _ _ _, HST.out.2.1, HST.out.2.2.2.1, Nat.le_of_eq HST.out.2.2.1.symm, HST.out.2.2.2.2⟩
        case round =>
          obtain ⟨k, done, A2, c2, hk, rfl, hmap, hdl, hbx, hown, hbx0, hgb, hw2r, hbw⟩ := hrel
          have hw := hbw.size
          have HMAP := Lib.hid hmap; clear hmap
          have HDL := Lib.hid hdl; clear hdl
          have HGB := Lib.hid hgb; clear hgb
          obtain ⟨y0, y1, y2, y3, y4⟩ := hbx0.cells
          have z0 := hbx0.free 0
          have z1 := hbx0.free 1
          have z2 := hbx0.free 2
          have z3 := hbx0.free 3
          have z4 := hbx0.free 4
          obtain ⟨v0, v1, v2, v3, v4⟩ := hbx.cells
          have vz2 := hbx.free 2
          have HBX := Lib.hid hbx; clear hbx
          have HBX0 := Lib.hid hbx0; clear hbx0
          have HO := Lib.hid hown; clear hown
          have HBW := Lib.hid hbw; clear hbw
          by_cases hlt : k < 0
          · exact absurd hlt (Nat.not_lt_zero _)
          · have hkm : k = ps.length := by have := HM.out; omega
            have hmapE : ps.map argW = done.map some := by have := HMAP.out; rwa [hkm, List.take_length] at this
            have hgl : GL ((bl s).drop 3) p0 done false := GL.of_words HLW.out HWP.out HCD.out hmapE
            have HG := Lib.hid hgl
            have hae := fun wX (hX : Below wr.heap.size wr wX) => argsError_any A2 k c2 (gB done) wX (by rw [gB_length]; exact HDL.out.symm) (by omega) (own_cap HO.out) (((aat_own HO.out HDL.out.symm).below hX).more hX.size)
            obtain ⟨x, hx⟩ : ∃ x, agErr (gB done) = x := ⟨_, rfl⟩
            rw [hx] at hae
            have HAE := Lib.hid hae
            have HX0 := Lib.hid hx
            have hle12 : x = 0 → done.length ≤ 12 := fun h => by
              rw [h] at hx
              unfold agErr at hx
              split at hx
              · cases hx
              · rename_i h12
                rw [gB_length] at h12
                omega
            have HLE := Lib.hid hle12
            clear hkm hmapE hgl hae hx hle12
            have hkc := own_cap HO.out
            go_wp2_with fail
            refine (HAE.out _ (Below.refl _ _)).mono ?_
            rintro e w4 ⟨rfl, hb4⟩
            have hbx4 := HBX.out.keep hb4 (by omega)
            have hbx04 := HBX0.out.keep hb4 (by omega)
            obtain ⟨y0, y1, y2, y3, y4⟩ := hbx04.cells
            have z0 := hbx04.free 0
            have z1 := hbx04.free 1
            have z2 := hbx04.free 2
            have z3 := hbx04.free 3
            have z4 := hbx04.free 4
            obtain ⟨v0, v1, v2, v3, v4⟩ := hbx4.cells
            have HO4 := Lib.hid (own_below HO.out hb4)
            have HB04 := Lib.hid (HBW.out.trans (hb4.mono hw))
            clear hbx4 hbx04 hb4
            by_cases hx0 : x = 0
            · subst hx0
              have HL12 := Lib.hid (HLE.out rfl); clear HLE
              go_wp2_with fail
              refine bodyPost_ret (v := .tuple #[.agg (pcells p0 (.slice A2 k c2) false), .int .i64 0]) (by simp [results, Try.results6, go_sem, pcells, y0, y1, y2, y3, y4]; try rfl) rfl (LnPost.yes HY.out HG.out HX0.out HDL.out.symm (by have := HL12.out; have := HDL.out; omega) hkc ?_ ?_)
              · refine aat_own (e := 43) (base := w2.heap.size) (k := k) (c := c2) ?_ HDL.out.symm
                repeat (first | with_reducible exact HO4.out | with_reducible refine own_set ?_ (by omega))
              · repeat (first | with_reducible exact HB04.out | with_reducible refine below_setN ?_ (by first | exact Nat.le_refl _ | omega) | refine Below.alloc ?_ (by simp; try omega) _)
            · have hx1 : (x == 0) = false := by simpa using hx0
              have hx2 : (x != 0) = true := by simpa using hx0
              have HXN := Lib.hid hx0; clear hx0
              go_wp2_with fail
              refine bodyPost_ret (v := .tuple #[zP, .int .i64 x]) (by simp [results, Try.results6, go_sem, zP, pcells, y0, y1, y2, y3, y4]; try rfl) rfl (LnPost.err HY.out HG.out HX0.out HXN.out ?_)
              repeat (first | with_reducible exact HB04.out | with_reducible refine below_setN ?_ (by first | exact Nat.le_refl _ | omega) | refine Below.alloc ?_ (by simp; try omega) _)
      · have hc2 : 1 < c := by omega
        have hc2i : (1 : Int) < (c : Int) := by omega
        go_wp2_with (go_at_call 18; refine (HCN.out _).mono ?_; rintro e w9 ⟨rfl, rfl⟩)
        go_loopw [58] (fun i wr => ∃ (k : Nat) (done : List (L8 × L8)) (A2 : Option Addr) (c2 : Nat), k ≤ m ∧ i = .int .i64 k ∧ (ps.take k).map argW = done.map some ∧ done.length = k ∧ PBox wr (w.heap.size + 1) p0 (.slice A2 k c2) false ∧ wr.ownsRow w2.heap.size 43 2 (.slice A2 k c2) k (acells done) ∧ PBox wr w.heap.size [] (.slice none 0 0) false ∧ wr.heap[g]? = w2.heap[g]? ∧ w2.heap.size ≤ wr.heap.size ∧ Below w.heap.size w wr) (fun i _ => m - (intOf i).toNat)
        case atStart => exact ⟨0, [], none, 0, Nat.zero_le _, rfl, rfl, rfl, HST.out.1, World.ownsRow_nil _ _ _ _, HST.out.2.1, HST.out.2.2.2.1, Nat.le_of_eq HST.out.2.2.1.symm, HST.out.2.2.2.2⟩
        case round =>
          obtain ⟨k, done, A2, c2, hk, rfl, hmap, hdl, hbx, hown, hbx0, hgb, hw2r, hbw⟩ := hrel
          have hw := hbw.size
          have HMAP := Lib.hid hmap; clear hmap
          have HDL := Lib.hid hdl; clear hdl
          have HGB := Lib.hid hgb; clear hgb
          obtain ⟨y0, y1, y2, y3, y4⟩ := hbx0.cells
          have z0 := hbx0.free 0
          have z1 := hbx0.free 1
          have z2 := hbx0.free 2
          have z3 := hbx0.free 3
          have z4 := hbx0.free 4
          obtain ⟨v0, v1, v2, v3, v4⟩ := hbx.cells
          have vz2 := hbx.free 2
          have HBX := Lib.hid hbx; clear hbx
          have HBX0 := Lib.hid hbx0; clear hbx0
          have HO := Lib.hid hown; clear hown
          have HBW := Lib.hid hbw; clear hbw
          by_cases hlt : k < m
          · obtain ⟨p, hp⟩ : ∃ p, ps[k]? = some p := ⟨_, List.getElem?_eq_getElem (by rw [HM.out]; exact hlt)⟩
            have hpl : p.length ≤ 20000 := by have := HSH.out.2 p (List.mem_of_getElem? hp); have := HWz.out; omega
            have g0 : wr.cell? ⟨g, 1 + k, none⟩ = some (.string (bs p)) := (World.cell?_of_block (a := ⟨g, 1 + k, none⟩) HGB.out).trans (HCS.out k p hp)
            have hix := fun wX => Try.strings_IndexByte (bs p) 61 wX
            have hbl := bl_bs p
            have hgr : g < wr.heap.size := by omega
            have hrlt : w.heap.size < wr.heap.size := by omega
            have hrlt1 : w.heap.size + 1 < wr.heap.size := by omega
            obtain ⟨P, hP⟩ : ∃ P, bs p = P := ⟨_, rfl⟩
            have hPz : P.size = p.length := by rw [← hP, bs_size]
            have hPx := fun q => bs_ext' p P hP q
            have hPx0 := fun q => bs_ext0' p P hP q
            have hPb : bl P = p := by rw [← hP, bl_bs]
            rw [hP] at g0 hix
            have hix2 : ∀ wX, Calls Try.prog 19 #[.string P, .int .u8 61] wX fun e w' => e = .returned (.int .i64 (Lib.indexByte p 61)) ∧ wX = w' := fun wX => (hix wX).mono fun e w' h => ⟨by rw [h.1]; exact congrArg (fun l => Ending.returned (.int .i64 (Lib.indexByte l 61))) hPb, h.2.symm⟩
            rcases ixE p with ⟨hi1, hid⟩ | ⟨q, hi1, hid, hql⟩
            · rw [hi1] at hix2
              have hvo := fun wX => valueOf_any P wX (by omega)
              rw [hPb] at hvo
              have HIX := Lib.hid hix2
              have hargw := argW_no (p := p) (by rintro ⟨h, _⟩; omega)
              clear hix hix2 hbl hP hPz hPx hPx0 hPb hi1 hid
              cases hv : vOf p with
              | none =>
                rw [hv] at hvo
                have hvo2 : ∀ wX, Calls Try.prog 21 #[.string P] wX fun e w' => e = .returned (.tuple #[.string ⟨#[]⟩, .bool false]) ∧ wX = w' := hvo
                have HVO := Lib.hid hvo2
                have HG := Lib.hid (HNG.out p0 ps HWP.out (.inr (map_none hp (by rw [hargw, hv]; rfl))))
                clear hv hvo hvo2 hp
                go_wp2_with (first | (go_at_call 19; with_reducible refine (HIX.out _).mono ?_; rintro e w9 ⟨rfl, rfl⟩) | (go_at_call 21; with_reducible refine (HVO.out _).mono ?_; rintro e w9 ⟨rfl, rfl⟩))
                refine bodyPost_ret (v := .tuple #[zP, .int .i64 8]) (by simp [results, Try.results6, go_sem, zP, pcells, y0, y1, y2, y3, y4, hrlt]; try rfl) rfl (LnPost.bad HY.out HG.out ?_)
                repeat (first | with_reducible exact HBW.out | with_reducible refine below_setN ?_ (by first | exact Nat.le_refl _ | omega) | refine Below.alloc ?_ (by simp; try omega) _)
              | some v =>
                rw [hv] at hvo
                have hms := map_snoc hp HMAP.out (show argW p = some ([], v) by rw [hargw, hv]; rfl)
                have HMS := Lib.hid hms
                obtain ⟨VV, hVV⟩ : ∃ VV, bs v = VV := ⟨_, rfl⟩
                have hvo2 : ∀ wX, Calls Try.prog 21 #[.string P] wX fun e w' => e = .returned (.tuple #[.string VV, .bool true]) ∧ wX = w' := fun wX => (hvo wX).mono fun e w' h => ⟨by rw [h.1, ← hVV]; rfl, h.2⟩
                have HVO := Lib.hid hvo2
                have HVV := Lib.hid hVV
                obtain ⟨w6, hw6⟩ : ∃ w6, wr.alloc (.cells #[.string ⟨#[]⟩, .string VV] 43) = w6 := ⟨_, rfl⟩
                have hb6 : Below wr.heap.size wr w6 := by rw [← hw6]; exact (Below.refl _ _).alloc (Nat.le_refl _) _
                have hsz6 : w6.heap.size = wr.heap.size + 1 := by rw [← hw6]; simp
                have hc60 : w6.cell? ⟨wr.heap.size, 0, none⟩ = some (.string ⟨#[]⟩) := by rw [← hw6]; exact Lib.cell_of_heap (heap_alloc_new wr _) 0
                have hc61 : w6.cell? ⟨wr.heap.size, 1, none⟩ = some (.string VV) := by rw [← hw6]; exact Lib.cell_of_heap (heap_alloc_new wr _) 1
                have HNW := Lib.hid (World.news_of_block (heap_alloc_new w6 (.cells #[.string ⟨#[]⟩, .string VV] 43)))
                have HO6 := Lib.hid (own_below HO.out hb6)
                have hbx6 := HBX.out.keep hb6 (by omega)
                have HBX6 := Lib.hid hbx6
                have v2' := (hbx6.cells).2.2.1
                have HBX06 := Lib.hid (HBX0.out.keep hb6 (by omega))
                have HB6 := Lib.hid (And.intro hb6 hsz6)
                have hs6le : wr.heap.size + 1 ≤ w6.heap.size := Nat.le_of_eq hsz6.symm
                clear hv hvo hvo2 hp hms hVV hbx6 hb6 hsz6
                go_wp2_with (first | (go_at_call 19; with_reducible refine (HIX.out _).mono ?_; rintro e w9 ⟨rfl, rfl⟩))
                refine (HVO.out _).mono ?_
                rintro e w9 ⟨rfl, rfl⟩
                go_wp2_with (at_builtin; go_loud (refine wpList_append_lies _ rfl _ _ 22 rfl w2.heap.size 43 i0 _ 2 32 Try.underlying22 hi hz0 hz1 hz2 rfl (by decide) (.slice A2 k c2) k (acells done) rfl (HO6.out.alloc _) ⟨w6.heap.size, 0, none⟩ 1 1 [.string ⟨#[]⟩, .string VV] rfl rfl HNW.out (by simp [Value.oneCell']) (by omega) (by unfold maxLen; omega) (by omega) (by simp; omega) (w6.heap.size + 1) (by simp) ?_; intro gg cap2 w7 hown' hgrow hat3 hlt2; have hb7 := HBX6.out.grow (base := w2.heap.size) hgrow (fun q hq => (HO6.out.lt q hq).1) (by omega); have q2 := (hb7.cells).2.2.1; have qf2 := hb7.free 2; have HB7 := Lib.hid hb7; clear hb7))
                go_roundw
                case rel =>
                  have hlo : ∀ q, (Value.slice A2 k c2).ownBlock = some q → w2.heap.size ≤ q := fun q hq => (HO6.out.lt q hq).1
                  have hs6 := HB6.out.2
                  have hsz7 : w6.heap.size + 1 ≤ w7.heap.size := by have := hgrow.size; simpa using this
                  have hbG : Below w.heap.size w w7 := ((HBW.out.trans (HB6.out.1.mono hw)).alloc (by omega) _).grown hgrow (by simp; omega) (fun q hq => by have := hlo q hq; omega)
                  refine ⟨k + 1, done ++ [([], v)], some ⟨gg, 0, none⟩, cap2, by omega, by go_num, HMS.out, by rw [List.length_append, HDL.out]; rfl, HB7.out.put, ?_, (HBX06.out.grow (base := w2.heap.size) hgrow hlo (by omega)).far (by omega), blk_far ((blk_grow (by omega) hgrow hlo (by omega)).trans ((HB6.out.1.block g (by omega)).trans HGB.out)) (by omega), by simp; omega, below_setN hbG (by omega)⟩
                  rw [acells_snoc]
                  have hxx : [Value.string ⟨#[]⟩, Value.string VV] = [.string (bs []), .string (bs v)] := by rw [show (⟨#[]⟩ : ByteArray) = bs [] from rfl, HVV.out]
                  rw [← hxx]
                  exact own_set hown' (by omega)
                case measure => simp [intOf]; omega
            · by_cases hq0 : q = 0
              · subst hq0
                rw [hi1] at hix2
                have hvo := fun wX => valueOf_any P wX (by omega)
                rw [hPb] at hvo
                have hix3 : ∀ wX, Calls Try.prog 19 #[.string P, .int .u8 61] wX fun e w' => e = .returned (.int .i64 0) ∧ wX = w' := hix2
                have HIX := Lib.hid hix3
                have hargw := argW_no (p := p) (by rintro ⟨_, h⟩; rw [hid] at h; simp [argNm] at h)
                clear hix hix2 hix3 hbl hP hPz hPx hPx0 hPb hi1 hid
                cases hv : vOf p with
                | none =>
                  rw [hv] at hvo
                  have hvo2 : ∀ wX, Calls Try.prog 21 #[.string P] wX fun e w' => e = .returned (.tuple #[.string ⟨#[]⟩, .bool false]) ∧ wX = w' := hvo
                  have HVO := Lib.hid hvo2
                  have HG := Lib.hid (HNG.out p0 ps HWP.out (.inr (map_none hp (by rw [hargw, hv]; rfl))))
                  clear hv hvo hvo2 hp
                  go_wp2_with (first | (go_at_call 19; with_reducible refine (HIX.out _).mono ?_; rintro e w9 ⟨rfl, rfl⟩) | (go_at_call 21; with_reducible refine (HVO.out _).mono ?_; rintro e w9 ⟨rfl, rfl⟩))
                  refine bodyPost_ret (v := .tuple #[zP, .int .i64 8]) (by simp [results, Try.results6, go_sem, zP, pcells, y0, y1, y2, y3, y4, hrlt]; try rfl) rfl (LnPost.bad HY.out HG.out ?_)
                  repeat (first | with_reducible exact HBW.out | with_reducible refine below_setN ?_ (by first | exact Nat.le_refl _ | omega) | refine Below.alloc ?_ (by simp; try omega) _)
                | some v =>
                  rw [hv] at hvo
                  have hms := map_snoc hp HMAP.out (show argW p = some ([], v) by rw [hargw, hv]; rfl)
                  have HMS := Lib.hid hms
                  obtain ⟨VV, hVV⟩ : ∃ VV, bs v = VV := ⟨_, rfl⟩
                  have hvo2 : ∀ wX, Calls Try.prog 21 #[.string P] wX fun e w' => e = .returned (.tuple #[.string VV, .bool true]) ∧ wX = w' := fun wX => (hvo wX).mono fun e w' h => ⟨by rw [h.1, ← hVV]; rfl, h.2⟩
                  have HVO := Lib.hid hvo2
                  have HVV := Lib.hid hVV
                  obtain ⟨w6, hw6⟩ : ∃ w6, wr.alloc (.cells #[.string ⟨#[]⟩, .string VV] 43) = w6 := ⟨_, rfl⟩
                  have hb6 : Below wr.heap.size wr w6 := by rw [← hw6]; exact (Below.refl _ _).alloc (Nat.le_refl _) _
                  have hsz6 : w6.heap.size = wr.heap.size + 1 := by rw [← hw6]; simp
                  have hc60 : w6.cell? ⟨wr.heap.size, 0, none⟩ = some (.string ⟨#[]⟩) := by rw [← hw6]; exact Lib.cell_of_heap (heap_alloc_new wr _) 0
                  have hc61 : w6.cell? ⟨wr.heap.size, 1, none⟩ = some (.string VV) := by rw [← hw6]; exact Lib.cell_of_heap (heap_alloc_new wr _) 1
                  have HNW := Lib.hid (World.news_of_block (heap_alloc_new w6 (.cells #[.string ⟨#[]⟩, .string VV] 43)))
                  have HO6 := Lib.hid (own_below HO.out hb6)
                  have hbx6 := HBX.out.keep hb6 (by omega)
                  have HBX6 := Lib.hid hbx6
                  have v2' := (hbx6.cells).2.2.1
                  have HBX06 := Lib.hid (HBX0.out.keep hb6 (by omega))
                  have HB6 := Lib.hid (And.intro hb6 hsz6)
                  have hs6le : wr.heap.size + 1 ≤ w6.heap.size := Nat.le_of_eq hsz6.symm
                  clear hv hvo hvo2 hp hms hVV hbx6 hb6 hsz6
                  go_wp2_with (first | (go_at_call 19; with_reducible refine (HIX.out _).mono ?_; rintro e w9 ⟨rfl, rfl⟩))
                  refine (HVO.out _).mono ?_
                  rintro e w9 ⟨rfl, rfl⟩
                  go_wp2_with (at_builtin; go_loud (refine wpList_append_lies _ rfl _ _ 22 rfl w2.heap.size 43 i0 _ 2 32 Try.underlying22 hi hz0 hz1 hz2 rfl (by decide) (.slice A2 k c2) k (acells done) rfl (HO6.out.alloc _) ⟨w6.heap.size, 0, none⟩ 1 1 [.string ⟨#[]⟩, .string VV] rfl rfl HNW.out (by simp [Value.oneCell']) (by omega) (by unfold maxLen; omega) (by omega) (by simp; omega) (w6.heap.size + 1) (by simp) ?_; intro gg cap2 w7 hown' hgrow hat3 hlt2; have hb7 := HBX6.out.grow (base := w2.heap.size) hgrow (fun q hq => (HO6.out.lt q hq).1) (by omega); have q2 := (hb7.cells).2.2.1; have qf2 := hb7.free 2; have HB7 := Lib.hid hb7; clear hb7))
                  go_roundw
                  case rel =>
                    have hlo : ∀ q, (Value.slice A2 k c2).ownBlock = some q → w2.heap.size ≤ q := fun q hq => (HO6.out.lt q hq).1
                    have hs6 := HB6.out.2
                    have hsz7 : w6.heap.size + 1 ≤ w7.heap.size := by have := hgrow.size; simpa using this
                    have hbG : Below w.heap.size w w7 := ((HBW.out.trans (HB6.out.1.mono hw)).alloc (by omega) _).grown hgrow (by simp; omega) (fun q hq => by have := hlo q hq; omega)
                    refine ⟨k + 1, done ++ [([], v)], some ⟨gg, 0, none⟩, cap2, by omega, by go_num, HMS.out, by rw [List.length_append, HDL.out]; rfl, HB7.out.put, ?_, (HBX06.out.grow (base := w2.heap.size) hgrow hlo (by omega)).far (by omega), blk_far ((blk_grow (by omega) hgrow hlo (by omega)).trans ((HB6.out.1.block g (by omega)).trans HGB.out)) (by omega), by simp; omega, below_setN hbG (by omega)⟩
                    rw [acells_snoc]
                    have hxx : [Value.string ⟨#[]⟩, Value.string VV] = [.string (bs []), .string (bs v)] := by rw [show (⟨#[]⟩ : ByteArray) = bs [] from rfl, HVV.out]
                    rw [← hxx]
                    exact own_set hown' (by omega)
                  case measure => simp [intOf]; omega
              · rw [hi1] at hix2
                have HIX := Lib.hid hix2
                have hqp : 0 < q := by omega
                have hqd : decide (0 < q) = true := decide_eq_true hqp
                have hqi : (0 : Int) < (q : Int) := by omega
                have q0 : (0 : Int) ≤ (q : Int) := by omega
                have q1 : (q : Int) ≤ (P.size : Int) := by omega
                have hx0 := hPx0 q
                have hx1 := hPx (q + 1)
                have han := fun wX => argName_any (P.extract 0 q) wX (by rw [hx0, bs_size, List.length_take]; omega)
                have hbn : bl (P.extract 0 q) = p.take q := by rw [hx0, bl_bs]
                rw [hbn] at han
                obtain ⟨R1, hR1⟩ : ∃ R1, P.extract 0 q = R1 := ⟨_, rfl⟩
                rw [hR1] at han
                cases hnm : argNm (p.take q) with
                | false =>
                  rw [hnm] at han
                  have HAN := Lib.hid han
                  have hvo := fun wX => valueOf_any P wX (by omega)
                  rw [hPb] at hvo
                  have hargw := argW_no (p := p) (by rintro ⟨_, h⟩; rw [hid, hnm] at h; cases h)
                  clear hix hix2 hbl hP hPz hPx hPx0 hPb hi1 hid hnm han hbn hx0 hx1
                  cases hv : vOf p with
                  | none =>
                    rw [hv] at hvo
                    have hvo2 : ∀ wX, Calls Try.prog 21 #[.string P] wX fun e w' => e = .returned (.tuple #[.string ⟨#[]⟩, .bool false]) ∧ wX = w' := hvo
                    have HVO := Lib.hid hvo2
                    have HG := Lib.hid (HNG.out p0 ps HWP.out (.inr (map_none hp (by rw [hargw, hv]; rfl))))
                    clear hv hvo hvo2 hp
                    go_wp2_with (first | (go_at_call 19; with_reducible refine (HIX.out _).mono ?_; rintro e w9 ⟨rfl, rfl⟩) | (go_at_call 20; with_reducible refine (HAN.out _).mono ?_; rintro e w9 ⟨rfl, rfl⟩) | (go_at_call 21; with_reducible refine (HVO.out _).mono ?_; rintro e w9 ⟨rfl, rfl⟩))
                    refine bodyPost_ret (v := .tuple #[zP, .int .i64 8]) (by simp [results, Try.results6, go_sem, zP, pcells, y0, y1, y2, y3, y4, hrlt]; try rfl) rfl (LnPost.bad HY.out HG.out ?_)
                    repeat (first | with_reducible exact HBW.out | with_reducible refine below_setN ?_ (by first | exact Nat.le_refl _ | omega) | refine Below.alloc ?_ (by simp; try omega) _)
                  | some v =>
                    rw [hv] at hvo
                    have hms := map_snoc hp HMAP.out (show argW p = some ([], v) by rw [hargw, hv]; rfl)
                    have HMS := Lib.hid hms
                    obtain ⟨VV, hVV⟩ : ∃ VV, bs v = VV := ⟨_, rfl⟩
                    have hvo2 : ∀ wX, Calls Try.prog 21 #[.string P] wX fun e w' => e = .returned (.tuple #[.string VV, .bool true]) ∧ wX = w' := fun wX => (hvo wX).mono fun e w' h => ⟨by rw [h.1, ← hVV]; rfl, h.2⟩
                    have HVO := Lib.hid hvo2
                    have HVV := Lib.hid hVV
                    obtain ⟨w6, hw6⟩ : ∃ w6, wr.alloc (.cells #[.string ⟨#[]⟩, .string VV] 43) = w6 := ⟨_, rfl⟩
                    have hb6 : Below wr.heap.size wr w6 := by rw [← hw6]; exact (Below.refl _ _).alloc (Nat.le_refl _) _
                    have hsz6 : w6.heap.size = wr.heap.size + 1 := by rw [← hw6]; simp
                    have hc60 : w6.cell? ⟨wr.heap.size, 0, none⟩ = some (.string ⟨#[]⟩) := by rw [← hw6]; exact Lib.cell_of_heap (heap_alloc_new wr _) 0
                    have hc61 : w6.cell? ⟨wr.heap.size, 1, none⟩ = some (.string VV) := by rw [← hw6]; exact Lib.cell_of_heap (heap_alloc_new wr _) 1
                    have HNW := Lib.hid (World.news_of_block (heap_alloc_new w6 (.cells #[.string ⟨#[]⟩, .string VV] 43)))
                    have HO6 := Lib.hid (own_below HO.out hb6)
                    have hbx6 := HBX.out.keep hb6 (by omega)
                    have HBX6 := Lib.hid hbx6
                    have v2' := (hbx6.cells).2.2.1
                    have HBX06 := Lib.hid (HBX0.out.keep hb6 (by omega))
                    have HB6 := Lib.hid (And.intro hb6 hsz6)
                    have hs6le : wr.heap.size + 1 ≤ w6.heap.size := Nat.le_of_eq hsz6.symm
                    clear hv hvo hvo2 hp hms hVV hbx6 hb6 hsz6
                    go_wp2_with (first | (go_at_call 19; with_reducible refine (HIX.out _).mono ?_; rintro e w9 ⟨rfl, rfl⟩) | (go_at_call 20; with_reducible refine (HAN.out _).mono ?_; rintro e w9 ⟨rfl, rfl⟩))
                    refine (HVO.out _).mono ?_
                    rintro e w9 ⟨rfl, rfl⟩
                    go_wp2_with (at_builtin; go_loud (refine wpList_append_lies _ rfl _ _ 22 rfl w2.heap.size 43 i0 _ 2 32 Try.underlying22 hi hz0 hz1 hz2 rfl (by decide) (.slice A2 k c2) k (acells done) rfl (HO6.out.alloc _) ⟨w6.heap.size, 0, none⟩ 1 1 [.string ⟨#[]⟩, .string VV] rfl rfl HNW.out (by simp [Value.oneCell']) (by omega) (by unfold maxLen; omega) (by omega) (by simp; omega) (w6.heap.size + 1) (by simp) ?_; intro gg cap2 w7 hown' hgrow hat3 hlt2; have hb7 := HBX6.out.grow (base := w2.heap.size) hgrow (fun q hq => (HO6.out.lt q hq).1) (by omega); have q2 := (hb7.cells).2.2.1; have qf2 := hb7.free 2; have HB7 := Lib.hid hb7; clear hb7))
                    go_roundw
                    case rel =>
                      have hlo : ∀ q, (Value.slice A2 k c2).ownBlock = some q → w2.heap.size ≤ q := fun q hq => (HO6.out.lt q hq).1
                      have hs6 := HB6.out.2
                      have hsz7 : w6.heap.size + 1 ≤ w7.heap.size := by have := hgrow.size; simpa using this
                      have hbG : Below w.heap.size w w7 := ((HBW.out.trans (HB6.out.1.mono hw)).alloc (by omega) _).grown hgrow (by simp; omega) (fun q hq => by have := hlo q hq; omega)
                      refine ⟨k + 1, done ++ [([], v)], some ⟨gg, 0, none⟩, cap2, by omega, by go_num, HMS.out, by rw [List.length_append, HDL.out]; rfl, HB7.out.put, ?_, (HBX06.out.grow (base := w2.heap.size) hgrow hlo (by omega)).far (by omega), blk_far ((blk_grow (by omega) hgrow hlo (by omega)).trans ((HB6.out.1.block g (by omega)).trans HGB.out)) (by omega), by simp; omega, below_setN hbG (by omega)⟩
                      rw [acells_snoc]
                      have hxx : [Value.string ⟨#[]⟩, Value.string VV] = [.string (bs []), .string (bs v)] := by rw [show (⟨#[]⟩ : ByteArray) = bs [] from rfl, HVV.out]
                      rw [← hxx]
                      exact own_set hown' (by omega)
                    case measure => simp [intOf]; omega
                | true =>
                  rw [hnm] at han
                  have HAN := Lib.hid han
                  have hR1b : R1 = bs (p.take q) := by rw [← hR1]; exact hx0
                  have HR1 := Lib.hid hR1b
                  obtain ⟨R2, hR2⟩ : ∃ R2, P.extract (q + 1) P.size = R2 := ⟨_, rfl⟩
                  have hR2b : R2 = bs (p.drop (q + 1)) := by rw [← hR2]; exact hx1
                  have hvo := fun wX => valueOf_any R2 wX (by rw [hR2b, bs_size, List.length_drop]; omega)
                  have hb2' : bl R2 = p.drop (q + 1) := by rw [hR2b, bl_bs]
                  rw [hb2'] at hvo
                  have hargw := argW_name (p := p) (by omega) (by rw [hid]; exact hnm)
                  rw [hid] at hargw
                  have qw1 : IntKind.i64.wrap ((q : Int) + 1) = (q : Int) + 1 := IntWalk.i64_in _ (by omega)
                  have qw2 : (0 : Int) ≤ (q : Int) + 1 := by omega
                  have qw3 : ((q : Int) + 1).toNat = q + 1 := by omega
                  have qw4 : (q : Int) + 1 ≤ (P.size : Int) := by omega
                  clear hix hix2 hbl hP hPz hPx hPx0 hPb hi1 hid hnm han hbn hx0 hx1 hR2b hb2' hR1b
                  cases hv : vOf (p.drop (q + 1)) with
                  | none =>
                    rw [hv] at hvo
                    have hvo2 : ∀ wX, Calls Try.prog 21 #[.string R2] wX fun e w' => e = .returned (.tuple #[.string ⟨#[]⟩, .bool false]) ∧ wX = w' := hvo
                    have HVO := Lib.hid hvo2
                    have HG := Lib.hid (HNG.out p0 ps HWP.out (.inr (map_none hp (by rw [hargw, hv]; rfl))))
                    clear hv hvo hvo2 hp
                    go_wp2_with (first | (go_at_call 19; with_reducible refine (HIX.out _).mono ?_; rintro e w9 ⟨rfl, rfl⟩) | (go_at_call 20; with_reducible refine (HAN.out _).mono ?_; rintro e w9 ⟨rfl, rfl⟩) | (go_at_call 21; with_reducible refine (HVO.out _).mono ?_; rintro e w9 ⟨rfl, rfl⟩))
                    refine bodyPost_ret (v := .tuple #[zP, .int .i64 8]) (by simp [results, Try.results6, go_sem, zP, pcells, y0, y1, y2, y3, y4, hrlt]; try rfl) rfl (LnPost.bad HY.out HG.out ?_)
                    repeat (first | with_reducible exact HBW.out | with_reducible refine below_setN ?_ (by first | exact Nat.le_refl _ | omega) | refine Below.alloc ?_ (by simp; try omega) _)
                  | some v =>
                    rw [hv] at hvo
                    have hms := map_snoc hp HMAP.out (show argW p = some ((p.take q), v) by rw [hargw, hv]; rfl)
                    have HMS := Lib.hid hms
                    obtain ⟨VV, hVV⟩ : ∃ VV, bs v = VV := ⟨_, rfl⟩
                    have hvo2 : ∀ wX, Calls Try.prog 21 #[.string R2] wX fun e w' => e = .returned (.tuple #[.string VV, .bool true]) ∧ wX = w' := fun wX => (hvo wX).mono fun e w' h => ⟨by rw [h.1, ← hVV]; rfl, h.2⟩
                    have HVO := Lib.hid hvo2
                    have HVV := Lib.hid hVV
                    obtain ⟨w6, hw6⟩ : ∃ w6, wr.alloc (.cells #[.string R1, .string VV] 43) = w6 := ⟨_, rfl⟩
                    have hb6 : Below wr.heap.size wr w6 := by rw [← hw6]; exact (Below.refl _ _).alloc (Nat.le_refl _) _
                    have hsz6 : w6.heap.size = wr.heap.size + 1 := by rw [← hw6]; simp
                    have hc60 : w6.cell? ⟨wr.heap.size, 0, none⟩ = some (.string R1) := by rw [← hw6]; exact Lib.cell_of_heap (heap_alloc_new wr _) 0
                    have hc61 : w6.cell? ⟨wr.heap.size, 1, none⟩ = some (.string VV) := by rw [← hw6]; exact Lib.cell_of_heap (heap_alloc_new wr _) 1
                    have HNW := Lib.hid (World.news_of_block (heap_alloc_new w6 (.cells #[.string R1, .string VV] 43)))
                    have HO6 := Lib.hid (own_below HO.out hb6)
                    have hbx6 := HBX.out.keep hb6 (by omega)
                    have HBX6 := Lib.hid hbx6
                    have v2' := (hbx6.cells).2.2.1
                    have HBX06 := Lib.hid (HBX0.out.keep hb6 (by omega))
                    have HB6 := Lib.hid (And.intro hb6 hsz6)
                    have hs6le : wr.heap.size + 1 ≤ w6.heap.size := Nat.le_of_eq hsz6.symm
                    clear hv hvo hvo2 hp hms hVV hbx6 hb6 hsz6
                    go_wp2_with (first | (go_at_call 19; with_reducible refine (HIX.out _).mono ?_; rintro e w9 ⟨rfl, rfl⟩) | (go_at_call 20; with_reducible refine (HAN.out _).mono ?_; rintro e w9 ⟨rfl, rfl⟩))
                    refine (HVO.out _).mono ?_
                    rintro e w9 ⟨rfl, rfl⟩
                    go_wp2_with (at_builtin; go_loud (refine wpList_append_lies _ rfl _ _ 22 rfl w2.heap.size 43 i0 _ 2 32 Try.underlying22 hi hz0 hz1 hz2 rfl (by decide) (.slice A2 k c2) k (acells done) rfl (HO6.out.alloc _) ⟨w6.heap.size, 0, none⟩ 1 1 [.string R1, .string VV] rfl rfl HNW.out (by simp [Value.oneCell']) (by omega) (by unfold maxLen; omega) (by omega) (by simp; omega) (w6.heap.size + 1) (by simp) ?_; intro gg cap2 w7 hown' hgrow hat3 hlt2; have hb7 := HBX6.out.grow (base := w2.heap.size) hgrow (fun q hq => (HO6.out.lt q hq).1) (by omega); have q2 := (hb7.cells).2.2.1; have qf2 := hb7.free 2; have HB7 := Lib.hid hb7; clear hb7))
                    go_roundw
                    case rel =>
                      have hlo : ∀ q, (Value.slice A2 k c2).ownBlock = some q → w2.heap.size ≤ q := fun q hq => (HO6.out.lt q hq).1
                      have hs6 := HB6.out.2
                      have hsz7 : w6.heap.size + 1 ≤ w7.heap.size := by have := hgrow.size; simpa using this
                      have hbG : Below w.heap.size w w7 := ((HBW.out.trans (HB6.out.1.mono hw)).alloc (by omega) _).grown hgrow (by simp; omega) (fun q hq => by have := hlo q hq; omega)
                      refine ⟨k + 1, done ++ [((p.take q), v)], some ⟨gg, 0, none⟩, cap2, by omega, by go_num, HMS.out, by rw [List.length_append, HDL.out]; rfl, HB7.out.put, ?_, (HBX06.out.grow (base := w2.heap.size) hgrow hlo (by omega)).far (by omega), blk_far ((blk_grow (by omega) hgrow hlo (by omega)).trans ((HB6.out.1.block g (by omega)).trans HGB.out)) (by omega), by simp; omega, below_setN hbG (by omega)⟩
                      rw [acells_snoc]
                      have hxx : [Value.string R1, Value.string VV] = [.string (bs (p.take q)), .string (bs v)] := by rw [HR1.out, HVV.out]
                      rw [← hxx]
                      exact own_set hown' (by omega)
                    case measure => simp [intOf]; omega
          · have hkm : k = ps.length := by have := HM.out; omega
            have hmapE : ps.map argW = done.map some := by have := HMAP.out; rwa [hkm, List.take_length] at this
            have hgl : GL ((bl s).drop 3) p0 done false := GL.of_words HLW.out HWP.out HCD.out hmapE
            have HG := Lib.hid hgl
            have hae := fun wX (hX : Below wr.heap.size wr wX) => argsError_any A2 k c2 (gB done) wX (by rw [gB_length]; exact HDL.out.symm) (by omega) (own_cap HO.out) (((aat_own HO.out HDL.out.symm).below hX).more hX.size)
            obtain ⟨x, hx⟩ : ∃ x, agErr (gB done) = x := ⟨_, rfl⟩
            rw [hx] at hae
            have HAE := Lib.hid hae
            have HX0 := Lib.hid hx
            have hle12 : x = 0 → done.length ≤ 12 := fun h => by
              rw [h] at hx
              unfold agErr at hx
              split at hx
              · cases hx
              · rename_i h12
                rw [gB_length] at h12
                omega
            have HLE := Lib.hid hle12
            clear hkm hmapE hgl hae hx hle12
            have hkc := own_cap HO.out
            go_wp2_with fail
            refine (HAE.out _ (Below.refl _ _)).mono ?_
            rintro e w4 ⟨rfl, hb4⟩
            have hbx4 := HBX.out.keep hb4 (by omega)
            have hbx04 := HBX0.out.keep hb4 (by omega)
            obtain ⟨y0, y1, y2, y3, y4⟩ := hbx04.cells
            have z0 := hbx04.free 0
            have z1 := hbx04.free 1
            have z2 := hbx04.free 2
            have z3 := hbx04.free 3
            have z4 := hbx04.free 4
            obtain ⟨v0, v1, v2, v3, v4⟩ := hbx4.cells
            have HO4 := Lib.hid (own_below HO.out hb4)
            have HB04 := Lib.hid (HBW.out.trans (hb4.mono hw))
            clear hbx4 hbx04 hb4
            by_cases hx0 : x = 0
            · subst hx0
              have HL12 := Lib.hid (HLE.out rfl); clear HLE
              go_wp2_with fail
              refine bodyPost_ret (v := .tuple #[.agg (pcells p0 (.slice A2 k c2) false), .int .i64 0]) (by simp [results, Try.results6, go_sem, pcells, y0, y1, y2, y3, y4]; try rfl) rfl (LnPost.yes HY.out HG.out HX0.out HDL.out.symm (by have := HL12.out; have := HDL.out; omega) hkc ?_ ?_)
              · refine aat_own (e := 43) (base := w2.heap.size) (k := k) (c := c2) ?_ HDL.out.symm
                repeat (first | with_reducible exact HO4.out | with_reducible refine own_set ?_ (by omega))
              · repeat (first | with_reducible exact HB04.out | with_reducible refine below_setN ?_ (by first | exact Nat.le_refl _ | omega) | refine Below.alloc ?_ (by simp; try omega) _)
            · have hx1 : (x == 0) = false := by simpa using hx0
              have hx2 : (x != 0) = true := by simpa using hx0
              have HXN := Lib.hid hx0; clear hx0
              go_wp2_with fail
              refine bodyPost_ret (v := .tuple #[zP, .int .i64 x]) (by simp [results, Try.results6, go_sem, zP, pcells, y0, y1, y2, y3, y4]; try rfl) rfl (LnPost.err HY.out HG.out HX0.out HXN.out ?_)
              repeat (first | with_reducible exact HB04.out | with_reducible refine below_setN ?_ (by first | exact Nat.le_refl _ | omega) | refine Below.alloc ?_ (by simp; try omega) _)
end Go.Proofs.Ytfmmpfoecjehiaa
