/- DERIVED. What cutSection and Section of package page return. Conditions: strings of at most 2^20 bytes, at most 2^20 entries; the library's variables MaxLen and of powers of ten are as the program's text lays them. -/
import Derived.Test.YtfmmpfoecjehiaaDoorSect
namespace Go.Proofs.YtfmmpfoecjehiaaDoor
set_option linter.unusedVariables false
open Go.RowKit
/-- The entries lie in memory, below block B, as a slice with address A. -/
def EntsAt (w : World) (B : Nat) (A : Option Addr) (l : List Ent) : Prop :=
  ∀ j lv id t, l[j]? = some (lv, id, t) → (∃ b off, A = some ⟨b, off, none⟩ ∧ b < B ∧ w.cell? ⟨b, off + j * 3, none⟩ = some (.int .i64 lv) ∧ w.cell? ⟨b, off + j * 3 + 1, none⟩ = some (.string id) ∧ w.cell? ⟨b, off + j * 3 + 2, none⟩ = some (.string t)) ∧
    -9223372036854775808 ≤ lv ∧ lv ≤ 9223372036854775807 ∧ id.size ≤ 1048576
theorem EntsAt.below {w w' : World} {B : Nat} {A : Option Addr} {l : List Ent} (h : EntsAt w B A l) (hb : Below B w w') : EntsAt w' B A l := fun j lv id t hj => by
  obtain ⟨⟨b, off, e, hlt, x0, x1, x2⟩, r⟩ := h j lv id t hj
  exact ⟨⟨b, off, e, hlt, (hb.cell hlt).trans x0, (hb.cell hlt).trans x1, (hb.cell hlt).trans x2⟩, r⟩
theorem EntsAt.more {w : World} {B B' : Nat} {A : Option Addr} {l : List Ent} (h : EntsAt w B A l) (hB : B ≤ B') : EntsAt w B' A l := fun j lv id t hj => by
  obtain ⟨⟨b, off, e, hlt, x⟩, r⟩ := h j lv id t hj
  exact ⟨⟨b, off, e, Nat.lt_of_lt_of_le hlt hB, x⟩, r⟩
theorem EntsAt.drop {w : World} {B b off : Nat} {l : List Ent} (h : EntsAt w B (some ⟨b, off, none⟩) l) (k : Nat) : EntsAt w B (some ⟨b, off + k * 3, none⟩) (l.drop k) := fun j lv id t hj => by
  rw [List.getElem?_drop] at hj
  obtain ⟨⟨b', off', e, hlt, x0, x1, x2⟩, r⟩ := h (k + j) lv id t hj
  cases e
  refine ⟨⟨b, off + k * 3, rfl, hlt, ?_, ?_, ?_⟩, r⟩
  · rwa [show off + k * 3 + j * 3 = off + (k + j) * 3 by omega]
  · rwa [show off + k * 3 + j * 3 = off + (k + j) * 3 by omega]
  · rwa [show off + k * 3 + j * 3 = off + (k + j) * 3 by omega]
theorem index_any (s t : ByteArray) (w : World) (hv : VarsP w) (hs : s.size ≤ 1048576) :
    Calls Tryd.prog 12 #[.string s, .string t] w fun e w' => e = .returned (.int .i64 (idx s t)) ∧ w = w' := by
  obtain ⟨⟨_, m, hm⟩, _⟩ := hv
  exact (Tryd.strings_Index s t m w (by omega) hm).mono fun e w' h => ⟨h.1, h.2.symm⟩
theorem out_none : outO none = .tuple #[.string ⟨#[]⟩, .bool false] := rfl
theorem out_some (s : ByteArray) : outO (some s) = .tuple #[.string s, .bool true] := rfl
theorem rest_none {s t : ByteArray} (h : idx s t < 0) : restO s t = none := by unfold restO; rw [if_pos h]
theorem rest_some {s t : ByteArray} {a : Nat} (h : idx s t = a) : restO s t = some (s.extract a s.size) := by
  unfold restO; rw [if_neg (by omega), h]; rfl
theorem cut_none {s t u : ByteArray} (h : idx (s.extract t.size s.size) u < 0) : cutO s t u = none := by unfold cutO; rw [if_pos h]
theorem cut_some {s t u : ByteArray} {a : Nat} (h : idx (s.extract t.size s.size) u = a) : cutO s t u = some (s.extract 0 (t.size + a)) := by
  unfold cutO; rw [if_neg (by omega), h]; rfl
theorem out_form (o : Option ByteArray) : ∃ s b, outO o = .tuple #[.string s, .bool b] := by
  cases o with
  | none => exact ⟨_, _, rfl⟩
  | some s => exact ⟨_, _, rfl⟩
theorem ext_size (s : ByteArray) (a : Nat) (h : a ≤ s.size) : (s.extract a s.size).size = s.size - a := by simp
set_option maxRecDepth 100000 in
set_option maxHeartbeats 2000000 in
theorem cutSection_any (html : ByteArray) (lv : Int) (id t : ByteArray) (A : Option Addr) (n c : Nat) (l : List Ent) (w : World) (hv : VarsP w) (hh : html.size ≤ 1048576)
    (h0 : -9223372036854775808 ≤ lv) (h1 : lv ≤ 9223372036854775807) (hid : id.size ≤ 1048576) (hn : n = l.length) (hnm : n ≤ 1048576) (hE : EntsAt w w.heap.size A l) :
    Calls Tryd.prog 27 #[.string html, .agg #[.int .i64 lv, .string id, .string t], .slice A n c] w fun e w' => e = .returned (outO (cutSect html (lv, id, t) l)) ∧ Below w.heap.size w w' := by
  obtain ⟨W1, hW1⟩ : ∃ W1, w.alloc (ebox lv id t) = W1 := ⟨_, rfl⟩
  have hb01 : Below w.heap.size w W1 := by rw [← hW1]; exact (Below.refl _ _).alloc (Nat.le_refl _) _
  have hs1 : W1.heap.size = w.heap.size + 1 := by rw [← hW1]; simp
  have hbx : EBox W1 w.heap.size lv id t := by rw [← hW1]; exact EBox.new w lv id t
  have hts := tagB_size lv id
  have hti := itoaT_size lv h0 h1
  have hT := fun wX (hX : Below w.heap.size w wX) => startTag_any lv id t wX (hv.below hX) h0 h1 hid
  have hO : cutSect html (lv, id, t) l = (restO html (tagB lv id)).bind fun h => endO h (tagB lv id) (nextE lv l) := rfl
  generalize tagB lv id = tg at hts hT hO
  have hI := fun wX (hX : Below w.heap.size w wX) => index_any html tg wX (hv.below hX) hh
  have HT := Lib.hid hT; clear hT
  have HI := Lib.hid hI; clear hI
  have HB := Lib.hid hb01
  have HO := Lib.hid hO; clear hO
  have HBX := Lib.hid hbx
  obtain ⟨y0, y1, y2⟩ := hbx
  unfold ebox at hW1
  obtain ⟨x, hx⟩ : ∃ x, idx html tg = x := ⟨_, rfl⟩
  have hroom := idx_room html tg
  have hge := idx_ge html tg
  rw [hx] at HI hroom hge
  by_cases hneg : x < 0
  · have HR := Lib.hid (show cutSect html (lv, id, t) l = none by rw [HO.out, rest_none (by omega)]; rfl)
    clear hroom hge hx hE hn
    go_enter Tryd.func27, Tryd.ntmps27
    go_wp2_with fail
    refine (HT.out _ HB.out).mono ?_
    rintro e w2 ⟨rfl, hb2⟩
    have hb02 := HB.out.trans (hb2.mono (by omega))
    go_wp2_with fail
    refine (HI.out _ hb02).mono ?_
    rintro e w3 ⟨rfl, rfl⟩
    go_wp2_with fail
    go_ret2
    exact ⟨by rw [HR.out]; rfl, hb02⟩
  · obtain ⟨a, rfl⟩ : ∃ a : Nat, x = a := ⟨x.toNat, by omega⟩
    obtain ⟨h, hext⟩ : ∃ h, html.extract a html.size = h := ⟨_, rfl⟩
    have hhz : h.size = html.size - a := by rw [← hext]; exact ext_size _ _ (by have := hroom (by omega); omega)
    have hrm := hroom (by omega)
    have hO2 : cutSect html (lv, id, t) l = endO h tg (nextE lv l) := by rw [HO.out, rest_some hx, hext]; rfl
    have HO2 := Lib.hid hO2
    have hfirst : tg.size ≤ h.size := by omega
    have i1 : (0 : Int) ≤ (a : Int) := by omega
    have i0 : decide ((a : Int) < 0) = false := decide_eq_false (by omega)
    have i2 : (a : Int) ≤ (html.size : Int) := by omega
    have HH := Lib.hid (show h.size ≤ 1048576 by omega)
    have HF := Lib.hid hfirst
    have HN := Lib.hid hn
    have HE := Lib.hid hE
    have hi2 := fun (u : ByteArray) wX (hX : Below w.heap.size w wX) => index_any (h.extract tg.size h.size) u wX (hv.below hX) (by rw [ext_size _ _ hfirst]; omega)
    have HI2 := Lib.hid hi2
    have HV := Lib.hid hv
    clear hO2 hx hhz hrm hroom hge hi2 hn hE hv hfirst hti hts
    go_enter Tryd.func27, Tryd.ntmps27
    go_wp2_with fail
    refine (HT.out _ HB.out).mono ?_
    rintro e w2 ⟨rfl, hb2⟩
    have hb02 := HB.out.trans (hb2.mono (by omega))
    go_wp2_with fail
    refine (HI.out _ hb02).mono ?_
    rintro e w3 ⟨rfl, rfl⟩
    have hb12 : Below (w.heap.size + 1) W1 w2 := by rw [← hs1]; exact hb2
    have HX := Lib.hid hext; clear hext
    go_wp2_with fail
    rw [HX.out]
    have hb0r := Below.refl (w.heap.size + 1) W1
    go_loopw [24] (fun i wr => ∃ k : Nat, k ≤ n ∧ i = .int .i64 k ∧ nextE lv l = nextE lv (l.drop k) ∧ Below (w.heap.size + 1) W1 wr) (fun i _ => n - (intOf i).toNat)
    case atStart => exact ⟨0, Nat.zero_le _, rfl, rfl, hb12⟩
    case round =>
      obtain ⟨k, hk, rfl, hnx, hbw⟩ := hrel
      have hwr := hbw.size
      obtain ⟨y0, y1, y2⟩ := HBX.out.keep hbw (by omega)
      have hb0w : Below w.heap.size w wr := HB.out.trans (hbw.mono (by omega))
      have HNX := Lib.hid hnx; clear hnx
      by_cases hlt : k < n
      · obtain ⟨⟨lv2, id2, t2⟩, hp⟩ : ∃ p, l[k]? = some p := ⟨_, List.getElem?_eq_getElem (by rw [← HN.out]; exact hlt)⟩
        obtain ⟨⟨b, off, rfl, hb, x0, x1, x2⟩, l0, l1, hid2⟩ := HE.out k lv2 id2 t2 hp
        have g0 := (hb0w.cell (p := ⟨b, off + k * 3, none⟩) hb).trans x0
        have g1 := (hb0w.cell (p := ⟨b, off + k * 3 + 1, none⟩) hb).trans x1
        have g2 := (hb0w.cell (p := ⟨b, off + k * 3 + 2, none⟩) hb).trans x2
        clear x0 x1 x2
        have HP := Lib.hid hp; clear hp
        have HW := Lib.hid (And.intro hb0w (And.intro hbw hwr))
        have hwlt : w.heap.size < wr.heap.size := by omega
        have hblt : b < wr.heap.size := by have := hb0w.size; omega
        by_cases hle : lv2 ≤ lv
        · go_wp2_with fail
          obtain ⟨W2, hW2⟩ : ∃ W2, wr.alloc (ebox lv2 id2 t2) = W2 := ⟨_, rfl⟩
          have hb2 : Below wr.heap.size wr W2 := by rw [← hW2]; exact (Below.refl _ _).alloc (Nat.le_refl _) _
          have hs2 : W2.heap.size = wr.heap.size + 1 := by rw [← hW2]; simp
          have hbx2 : EBox W2 wr.heap.size lv2 id2 t2 := by rw [← hW2]; exact EBox.new wr lv2 id2 t2
          obtain ⟨z0, z1, z2⟩ := hbx2
          obtain ⟨q0, q1, q2⟩ := (HBX.out.keep hbw (by omega)).keep hb2 hwlt
          have hbW2 : Below w.heap.size w W2 := hb0w.trans (hb2.mono hb0w.size)
          have hnx2 : nextE lv l = some (lv2, id2, t2) := by rw [HNX.out, nextE_drop HP.out, if_pos hle]
          have hO4 : cutSect html (lv, id, t) l = cutO h tg (tagB lv2 id2) := by rw [HO2.out, hnx2]; rfl
          have hT2 := fun wX (hX : Below w.heap.size w wX) => startTag_any lv2 id2 t2 wX (HV.out.below hX) l0 l1 hid2
          have hI3 := fun wX (hX : Below w.heap.size w wX) => HI2.out (tagB lv2 id2) wX hX
          generalize tagB lv2 id2 = tg2 at hO4 hT2 hI3
          have HO4 := Lib.hid hO4
          have HBX2 := Lib.hid (EBox.mk z0 z1 z2)
          have HT2 := Lib.hid (fun wX (hX : Below (wr.heap.size + 1) W2 wX) => (hT2 wX (hbW2.trans (hX.mono (by have := hb0w.size; omega)))).mono (fun e w' h => (⟨h.1, hX.trans (h.2.mono (by have := hX.size; omega)), let g := (EBox.mk z0 z1 z2).keep (hX.trans (h.2.mono (by have := hX.size; omega))) (by omega); ⟨g.x0, g.x1, g.x2⟩⟩ : _ ∧ Below (wr.heap.size + 1) W2 w' ∧ w'.cell? ⟨wr.heap.size, 0, none⟩ = some (.int .i64 lv2) ∧ w'.cell? ⟨wr.heap.size, 1, none⟩ = some (.string id2) ∧ w'.cell? ⟨wr.heap.size, 2, none⟩ = some (.string t2))))
          have HI3 := Lib.hid (fun wX (hX : Below (wr.heap.size + 1) W2 wX) => (hI3 wX (hbW2.trans (hX.mono (by have := hb0w.size; omega)))).mono (fun e w' h => (⟨h.1, by rw [← h.2]; exact hX, let g := (EBox.mk z0 z1 z2).keep hX (by omega); by rw [← h.2]; exact ⟨g.x0, g.x1, g.x2⟩⟩ : _ ∧ Below (wr.heap.size + 1) W2 w' ∧ w'.cell? ⟨wr.heap.size, 0, none⟩ = some (.int .i64 lv2) ∧ w'.cell? ⟨wr.heap.size, 1, none⟩ = some (.string id2) ∧ w'.cell? ⟨wr.heap.size, 2, none⟩ = some (.string t2))))
          have HBW2 := Lib.hid hbW2
          have HS2 := Lib.hid hs2
          unfold ebox at hW2
          clear hO4 hT2 hI3 hnx2 hbW2 hb2 hs2
          have hf1 : (0 : Int) ≤ (tg.size : Int) := by omega
          have hf2 : (tg.size : Int) ≤ (h.size : Int) := by have := HF.out; omega
          obtain ⟨sb, hsb⟩ : ∃ sb, h.extract tg.size h.size = sb := ⟨_, rfl⟩
          rw [hsb] at HI3
          obtain ⟨y, hy⟩ : ∃ y, idx sb tg2 = y := ⟨_, rfl⟩
          rw [hy] at HI3
          have HY := Lib.hid (And.intro hsb hy)
          clear hy
          go_wp2_with fail
          rw [hW2]
          refine (HT.out _ HBW2.out).mono ?_
          rintro e w4 ⟨rfl, hb4⟩
          have hb4' : Below (wr.heap.size + 1) W2 w4 := by rw [← HS2.out]; exact hb4
          obtain ⟨z0, z1, z2⟩ := HBX2.out.keep hb4' (by omega)
          clear hb4
          go_wp2_with fail
          go_region_held3 (fun w' => Below (wr.heap.size + 1) W2 w' ∧ w'.cell? ⟨wr.heap.size, 0, none⟩ = some (.int .i64 lv2) ∧ w'.cell? ⟨wr.heap.size, 1, none⟩ = some (.string id2) ∧ w'.cell? ⟨wr.heap.size, 2, none⟩ = some (.string t2))
            (first | exact ⟨hb4'.drew, z0, z1, z2⟩ | exact ⟨hb5, s0, s1, s2⟩)
            (first
              | (go_at_call 45; with_reducible refine Calls.mono (HT2.out _ (by first | exact hb4'.drew | exact hb5)) ?_; rintro e w5 ⟨rfl, hb5, s0, s1, s2⟩)
              | (go_at_call 12; with_reducible refine Calls.mono (HI3.out _ (by first | exact hb4'.drew | exact hb5)) ?_; rintro e w5 ⟨rfl, hb5, s0, s1, s2⟩))
          have hbE : Below w.heap.size w w5 := HBW2.out.trans (hb5.mono (by omega))
          have HBE := Lib.hid hbE
          clear hbE
          by_cases hy0 : y < 0
          · have HR := Lib.hid (show cutSect html (lv, id, t) l = none by rw [HO4.out, cut_none (by rw [HY.out.1, HY.out.2]; exact hy0)])
            go_wp2_with fail
            go_ret2
            exact ⟨by rw [HR.out]; rfl, HBE.out⟩
          · have hyr := idx_room sb tg2
            rw [HY.out.2] at hyr
            have hsz := ext_size h tg.size HF.out
            rw [HY.out.1] at hsz
            obtain ⟨d, rfl⟩ : ∃ d : Nat, y = d := ⟨y.toNat, by omega⟩
            have HR := Lib.hid (show cutSect html (lv, id, t) l = some (h.extract 0 (tg.size + d)) by rw [HO4.out, cut_some (by rw [HY.out.1, HY.out.2])])
            have hd1 := hyr (by omega)
            have hd2 : tg.size + d ≤ h.size := by have := HF.out; omega
            have hd3 := HH.out
            have hd4 : (0 : Int) ≤ (tg.size : Int) + (d : Int) := by omega
            have hd5 : (tg.size : Int) + (d : Int) ≤ (h.size : Int) := by omega
            clear hyr hsz hd1
            go_wp2_with fail
            go_ret2
            exact ⟨by rw [HR.out]; rfl, HBE.out⟩
        · go_wp2_with fail
          go_roundw
          case rel => exact ⟨k + 1, by omega, by go_num, by rw [HNX.out, nextE_drop HP.out, if_neg hle], HW.out.2.1.trans ((Below.refl _ _).alloc (by omega) _)⟩
          case measure => simp [intOf]; omega
      · have hkn : k = l.length := by have := HN.out; omega
        have hO3 : endO h tg (nextE lv l) = some h := by rw [HNX.out, hkn, List.drop_length]; rfl
        have HO3 := Lib.hid hO3
        clear hkn hO3
        go_wp2_with fail
        go_ret2
        exact ⟨by rw [HO2.out, HO3.out]; rfl, hb0w⟩
/-- What a content is: its HTML, its other two strings, its entries, its number of words, its other two lists. -/
def cbox (h s p : ByteArray) (A : Option Addr) (n c : Nat) (x : Int) (r b : Value) : Array Value := #[.string h, .string s, .string p, .slice A n c, .int .i64 x, r, b]
set_option maxRecDepth 100000 in
set_option maxHeartbeats 2000000 in
theorem section_any (html s p id : ByteArray) (A : Option Addr) (n c : Nat) (x : Int) (r q : Value) (l : List Ent) (w : World) (hv : VarsP w) (hh : html.size ≤ 1048576)
    (hn : n = l.length) (hnm : n ≤ 1048576) (hnc : n ≤ c) (hcm : c ≤ maxLen) (hE : EntsAt w w.heap.size A l) (hr : ∃ A n c, r = .slice A n c) (hq : ∃ A n c, q = .slice A n c) :
    Calls Tryd.prog 10 #[.agg (cbox html s p A n c x r q), .string id] w fun e w' => e = .returned (outO (sectO html id l)) ∧ Below w.heap.size w w' := by
  obtain ⟨A1, n1, c1, rfl⟩ := hr
  obtain ⟨A2, n2, c2, rfl⟩ := hq
  unfold cbox
  unfold maxLen at hcm
  obtain ⟨W1, hW1⟩ : ∃ W1, w.alloc (.cells #[.string html, .string s, .string p, .slice A n c, .int .i64 x, .slice A1 n1 c1, .slice A2 n2 c2] 36) = W1 := ⟨_, rfl⟩
  have hb01 : Below w.heap.size w W1 := by rw [← hW1]; exact (Below.refl _ _).alloc (Nat.le_refl _) _
  have hs1 : W1.heap.size = w.heap.size + 1 := by rw [← hW1]; simp
  have hcell : W1.cell? ⟨w.heap.size, 0, none⟩ = some (.string html) ∧ W1.cell? ⟨w.heap.size, 3, none⟩ = some (.slice A n c) := by
    rw [← hW1]
    exact ⟨cell_of_row _ _ _ _ _ _ (heap_alloc_new w _), cell_of_row _ _ _ _ _ _ (heap_alloc_new w _)⟩
  obtain ⟨y0, y3⟩ := hcell
  have HY := Lib.hid (And.intro y0 y3)
  have HB := Lib.hid hb01
  have HN := Lib.hid hn
  have HE := Lib.hid hE
  have HV := Lib.hid hv
  clear hn hE hv
  go_enter Tryd.func10, Tryd.ntmps10
  go_wp2_with fail
  go_loopw [11] (fun i wr => ∃ k : Nat, k ≤ n ∧ i = .int .i64 k ∧ sectO html id l = sectO html id (l.drop k) ∧ Below (w.heap.size + 1) W1 wr) (fun i _ => n - (intOf i).toNat)
  case atStart => exact ⟨0, Nat.zero_le _, rfl, rfl, Below.refl _ _⟩
  case round =>
    obtain ⟨k, hk, rfl, hnx, hbw⟩ := hrel
    have hwr := hbw.size
    have hwlt : w.heap.size < wr.heap.size := by omega
    have y0 := (hbw.cell (p := ⟨w.heap.size, 0, none⟩) (by show w.heap.size < _; omega)).trans HY.out.1
    have y3 := (hbw.cell (p := ⟨w.heap.size, 3, none⟩) (by show w.heap.size < _; omega)).trans HY.out.2
    have hb0w : Below w.heap.size w wr := HB.out.trans (hbw.mono (by omega))
    have HNX := Lib.hid hnx; clear hnx
    by_cases hlt : k < n
    · obtain ⟨⟨lv2, id2, t2⟩, hp⟩ : ∃ p, l[k]? = some p := ⟨_, List.getElem?_eq_getElem (by rw [← HN.out]; exact hlt)⟩
      obtain ⟨⟨b, off, rfl, hb, x0, x1, x2⟩, l0, l1, hid2⟩ := HE.out k lv2 id2 t2 hp
      have g0 := (hb0w.cell (p := ⟨b, off + k * 3, none⟩) hb).trans x0
      have g1 := (hb0w.cell (p := ⟨b, off + k * 3 + 1, none⟩) hb).trans x1
      have g2 := (hb0w.cell (p := ⟨b, off + k * 3 + 2, none⟩) hb).trans x2
      clear x0 x1 x2
      have HP := Lib.hid hp; clear hp
      have HW := Lib.hid (And.intro hb0w (And.intro hbw hwr))
      have hblt : b < wr.heap.size := by have := hb0w.size; omega
      have hsd := sectO_drop (html := html) (id := id) HP.out
      cases heq : (id2.toList == id.toList) with
      | true =>
        have hO : sectO html id l = cutSect html (lv2, id2, t2) (l.drop (k + 1)) := by rw [HNX.out, hsd, if_pos heq]
        have HO := Lib.hid hO
        obtain ⟨W2, hW2⟩ : ∃ W2, wr.alloc (ebox lv2 id2 t2) = W2 := ⟨_, rfl⟩
        have hb2 : Below wr.heap.size wr W2 := by rw [← hW2]; exact (Below.refl _ _).alloc (Nat.le_refl _) _
        have hs2 : W2.heap.size = wr.heap.size + 1 := by rw [← hW2]; simp
        have hbx2 : EBox W2 wr.heap.size lv2 id2 t2 := by rw [← hW2]; exact EBox.new wr lv2 id2 t2
        obtain ⟨z0, z1, z2⟩ := hbx2
        have v0 := (hb2.cell (p := ⟨w.heap.size, 0, none⟩) hwlt).trans y0
        have v3 := (hb2.cell (p := ⟨w.heap.size, 3, none⟩) hwlt).trans y3
        have hbW2 : Below w.heap.size w W2 := hb0w.trans (hb2.mono hb0w.size)
        have hC : ∀ wX, Below (wr.heap.size + 1) W2 wX → ∀ A' n' c', n' = n - (k + 1) → (k + 1 < n → A' = some ⟨b, off + (k + 1) * 3, none⟩) → Calls Tryd.prog 27 #[.string html, .agg #[.int .i64 lv2, .string id2, .string t2], .slice A' n' c'] wX fun e w' => e = .returned (outO (cutSect html (lv2, id2, t2) (l.drop (k + 1)))) ∧ Below (wr.heap.size + 1) W2 w' := fun wX hX A' n' c' hn' hA' => by
          have hbX : Below w.heap.size w wX := hbW2.trans (hX.mono (by omega))
          have hEX : EntsAt wX wX.heap.size A' (l.drop (k + 1)) := by
            by_cases hk1 : k + 1 < n
            · rw [hA' hk1]
              exact ((HE.out.below hbX).more hbX.size).drop (k + 1)
            · have : l.drop (k + 1) = [] := List.drop_eq_nil_of_le (by have := HN.out; omega)
              rw [this]
              intro j lv id t hj
              simp at hj
          exact (cutSection_any html lv2 id2 t2 A' n' c' (l.drop (k + 1)) wX (HV.out.below hbX) hh l0 l1 hid2 (by rw [List.length_drop]; have := HN.out; omega) (by omega) hEX).mono fun e w' h => ⟨h.1, hX.trans (h.2.mono (by have := hX.size; omega))⟩
        obtain ⟨rs, rb, hro⟩ := out_form (cutSect html (lv2, id2, t2) (l.drop (k + 1)))
        rw [hro] at hC
        have HC := Lib.hid (fun wX hX A' n' c' h1 h2 => (hC wX hX A' n' c' h1 h2).mono (fun e w' h => (⟨h.1, h.2, (h.2.cell (p := ⟨w.heap.size, 0, none⟩) (by show w.heap.size < _; omega)).trans v0, (h.2.cell (p := ⟨w.heap.size, 3, none⟩) (by show w.heap.size < _; omega)).trans v3, let g := (EBox.mk z0 z1 z2).keep h.2 (by omega); ⟨g.x0, g.x1, g.x2⟩⟩ : _ ∧ Below (wr.heap.size + 1) W2 w' ∧ w'.cell? ⟨w.heap.size, 0, none⟩ = some (.string html) ∧ w'.cell? ⟨w.heap.size, 3, none⟩ = some (.slice (some ⟨b, off, none⟩) n c) ∧ w'.cell? ⟨wr.heap.size, 0, none⟩ = some (.int .i64 lv2) ∧ w'.cell? ⟨wr.heap.size, 1, none⟩ = some (.string id2) ∧ w'.cell? ⟨wr.heap.size, 2, none⟩ = some (.string t2))))
        have HBW2 := Lib.hid (And.intro hbW2 hs2)
        have e1 : IntKind.i64.wrap ((k : Int) + 1) = (k : Int) + 1 := IntWalk.i64_in _ (by omega)
        have e2 : (0 : Int) ≤ (k : Int) + 1 := by omega
        have e3 : ((k : Int) + 1).toNat = k + 1 := by omega
        have e4 : (k : Int) + 1 ≤ (n : Int) := by omega
        have e5 : (k : Int) + 1 ≤ (c : Int) := by omega
        unfold ebox at hW2
        clear hC hO hsd hb2 hbW2 hs2
        have HRO := Lib.hid hro
        by_cases hkc : c = k + 1
        · subst hkc
          go_wp2_with fail
          try rw [hW2]
          go_region_held3 (fun w' => Below (wr.heap.size + 1) W2 w' ∧ w'.cell? ⟨w.heap.size, 0, none⟩ = some (.string html) ∧ w'.cell? ⟨w.heap.size, 3, none⟩ = some (.slice (some ⟨b, off, none⟩) n (k + 1)) ∧ w'.cell? ⟨wr.heap.size, 0, none⟩ = some (.int .i64 lv2) ∧ w'.cell? ⟨wr.heap.size, 1, none⟩ = some (.string id2) ∧ w'.cell? ⟨wr.heap.size, 2, none⟩ = some (.string t2))
            (first | exact ⟨(Below.refl _ _).drew, v0, v3, z0, z1, z2⟩ | exact ⟨hb5, s0, s1, s2, s3, s4⟩)
            (first | (go_at_call 27; with_reducible refine Calls.mono (HC.out _ (Below.refl _ _).drew _ _ _ (by omega) (by omega)) ?_; rintro e w5 ⟨rfl, hb5, s0, s1, s2, s3, s4⟩))
          all_goals
            go_wp2_with fail
            go_ret2
            exact ⟨by rw [HO.out, HRO.out]; rfl, HBW2.out.1.trans (hb5.mono (by omega))⟩
        · have hkc2 : k + 1 < c := by omega
          have e6 : (k : Int) + 1 < (c : Int) := by omega
          go_wp2_with fail
          try rw [hW2]
          go_region_held3 (fun w' => Below (wr.heap.size + 1) W2 w' ∧ w'.cell? ⟨w.heap.size, 0, none⟩ = some (.string html) ∧ w'.cell? ⟨w.heap.size, 3, none⟩ = some (.slice (some ⟨b, off, none⟩) n c) ∧ w'.cell? ⟨wr.heap.size, 0, none⟩ = some (.int .i64 lv2) ∧ w'.cell? ⟨wr.heap.size, 1, none⟩ = some (.string id2) ∧ w'.cell? ⟨wr.heap.size, 2, none⟩ = some (.string t2))
            (first | exact ⟨(Below.refl _ _).drew, v0, v3, z0, z1, z2⟩ | exact ⟨hb5, s0, s1, s2, s3, s4⟩)
            (first | (go_at_call 27; with_reducible refine Calls.mono (HC.out _ (Below.refl _ _).drew _ _ _ (by omega) (by intro _; rfl)) ?_; rintro e w5 ⟨rfl, hb5, s0, s1, s2, s3, s4⟩))
          all_goals
            go_wp2_with fail
            go_ret2
            exact ⟨by rw [HO.out, HRO.out]; rfl, HBW2.out.1.trans (hb5.mono (by omega))⟩
      | false =>
        go_wp2_with fail
        go_roundw
        case rel => exact ⟨k + 1, by omega, by go_num, by rw [HNX.out, hsd, if_neg (by rw [heq]; simp)], HW.out.2.1.trans ((Below.refl _ _).alloc (by omega) _)⟩
        case measure => simp [intOf]; omega
    · have hkn : k = l.length := by have := HN.out; omega
      have HR := Lib.hid (show sectO html id l = none by rw [HNX.out, hkn, List.drop_length]; rfl)
      clear hkn
      go_wp2_with fail
      go_ret2
      exact ⟨by rw [HR.out]; rfl, hb0w⟩
end Go.Proofs.YtfmmpfoecjehiaaDoor
