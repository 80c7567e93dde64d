/- DERIVED. What the reference's has returns: what a table has at a key. Condition: at most 2^40 keys. -/
import Derived.Test.YtohkdckllmmfhaaDoorSetting
import Derived.Deep.Cut
import Derived.Deep.CutRange
namespace Go.Proofs.YtohkdckllmmfhaaDoor
set_option linter.unusedVariables false
open Go.RowKit
/-- The number of a key, or -1. -/
def idxI (l : List ByteArray) (x : ByteArray) : Int := match idxK l x with | none => -1 | some j => ((j : Nat) : Int)
theorem index_any (l : List ByteArray) (A : Option Addr) (n c : Nat) (x : ByteArray) (w : World) (hl : KeysAt w w.heap.size l A n) (hn : n ≤ 1099511627776) :
    Calls Tryd.prog 17 #[.slice A n c, .string x] w fun e w' => e = .returned (.int .i64 (idxI l x)) ∧ w' = w := by
  obtain ⟨hnl, hsz, hc⟩ := hl
  by_cases h0 : n = 0
  · subst h0
    obtain rfl : l = [] := List.eq_nil_of_length_eq_zero hnl.symm
    refine (Tryd.slices_Index_string_empty A c x w).mono ?_
    rintro e w' ⟨rfl, rfl⟩
    exact ⟨by simp [idxI, idxK, Lib.idxOfS, Lib.idxFromS], rfl⟩
  · obtain ⟨b, o, rfl, hb, hcell⟩ := hc (by omega)
    refine (Tryd.slices_Index_string b o n c l x w (by omega) (by omega) (fun j hj => ?_)).mono ?_
    · refine hcell j _ ?_
      rw [List.getD_eq_getElem?_getD, List.getElem?_eq_getElem hj]
      rfl
    · rintro e w' ⟨rfl, rfl⟩
      refine ⟨?_, rfl⟩
      rw [List.take_of_length_le (by omega), idxOf_K]
      rfl
set_option maxRecDepth 100000 in
set_option maxHeartbeats 3200000 in
theorem has_miss (s : Sv) (key : ByteArray) (w : World) (hs : s.okB w w.heap.size) (hn : s.n2 ≤ 1099511627776) (hk : ¬ s.k = 6 ∨ idxK s.keys key = none) :
    Calls Tryd.prog 9 #[s.val, .string key] w (SetPost .nil w) := by
  have H1 := Lib.hid (fun wX (hX : Below (w.heap.size + 2) ((w.alloc s.box).alloc Sv.zero.box) wX) =>
    (index_any s.keys s.A2 s.n2 s.c2 key wX ((hs.ks.below (svTwo1 hX).1).more (svTwo1 hX).1.size) hn).mono (R' := fun e w' => e = .returned (.int .i64 (idxI s.keys key)) ∧ Below (w.heap.size + 2) ((w.alloc s.box).alloc Sv.zero.box) w') (fun e w' h => ⟨h.1, h.2 ▸ hX⟩))
  have H0 := Lib.hid (Below.refl (w.heap.size + 2) ((w.alloc s.box).alloc Sv.zero.box))
  have hor : (s.k == 6) = false ∧ (s.k != 6) = true ∨ (s.k == 6) = true ∧ (s.k != 6) = false ∧ idxI s.keys key = -1 := by
    rcases hk with h | h
    · exact .inl ⟨by simpa using h, by simpa using h⟩
    · by_cases h6 : s.k = 6
      · exact .inr ⟨by simpa using h6, by simpa using h6, by unfold idxI; rw [h]⟩
      · exact .inl ⟨by simpa using h6, by simpa using h6⟩
  obtain ⟨x, hx⟩ : ∃ x, idxI s.keys key = x := ⟨_, rfl⟩
  rw [hx] at H1 hor
  clear hs hn hk hx
  have y := svCells (svTwo1 H0.out).2.2.1
  obtain ⟨y0, y1, y2, y3, y4, y5⟩ := y
  obtain ⟨sk, sbo, si, st, sA1, sn1, sc1, sA2, sn2, sc2, sit, sks⟩ := s
  dsimp only at hor y0 y1 y2 y3 y4 y5 ⊢
  unfold Sv.box at H0 H1 y0 y1 y2 y3 y4 y5
  have hz : Sv.zero = ⟨0, false, 0, ⟨#[]⟩, none, 0, 0, none, 0, 0, .nil, []⟩ := rfl
  rw [hz] at H0 H1 y0 y1 y2 y3 y4 y5
  dsimp only at H0 H1 y0 y1 y2 y3 y4 y5
  clear hz
  unfold Sv.val
  dsimp only
  have HOR := Lib.hid hor
  clear hor
  go_enter Tryd.func9, Tryd.ntmps9
  go_wp2_with fail
  refine (H1.out _ H0.out).mono ?_
  rintro e w1 ⟨rfl, hb1⟩
  have hT := svTwo1 (a := ⟨sk, sbo, si, st, sA1, sn1, sc1, sA2, sn2, sc2, sit, sks⟩) (b := Sv.zero) hb1
  clear y0 y1 y2 y3 y4 y5
  have y := svCells hT.2.2.1
  obtain ⟨y0, y1, y2, y3, y4, y5⟩ := y
  dsimp only at y0 y1 y2 y3 y4 y5
  obtain ⟨hB3, hR3⟩ := svPut (a := Sv.zero) hT
  have HT := Lib.hid (svThere hT.2.2.2)
  obtain ⟨w3, hw3⟩ : ∃ w3, w1.setCells (w.heap.size + 1) 0 (#[Value.int .i64 0, .bool false, .int .i64 0, .string ⟨#[]⟩, .slice none 0 0, .slice none 0 0] : Array Value).toList = w3 := ⟨_, rfl⟩
  rw [show Sv.zero.cs.toList = (#[Value.int .i64 0, .bool false, .int .i64 0, .string ⟨#[]⟩, .slice none 0 0, .slice none 0 0] : Array Value).toList from rfl, hw3] at hB3 hR3
  have HW3 := Lib.hid hw3
  have HB := Lib.hid hB3
  have HR := Lib.hid hR3
  clear hT hb1 hw3 hB3 hR3
  rcases HOR.out with ⟨k1, k2⟩ | ⟨k1, k2, rfl⟩
  all_goals
    go_upto_region 3 with (fail)
    go_wp2_with (refine wpList_store_mid rfl 25 (.tmp 4) (.tmp 25) rfl (w.heap.size + 1) 0 #[.int .i64 0, .bool false, .int .i64 0, .string ⟨#[]⟩, .slice none 0 0, .slice none 0 0] rfl rfl HT.out sv_size (by simp [Value.oneCell']) ?_; rw [HW3.out])
    refine bodyPost_ret (v := .tuple #[Sv.zero.val, .bool false]) ?_ rfl ⟨Sv.zero, rfl, rfl, Sv.zero_ok _ _, HB.out⟩
    exact svRes rfl _ _ (w.heap.size + 1) Sv.zero _ rfl rfl HR.out
set_option maxRecDepth 100000 in
set_option maxHeartbeats 3200000 in
theorem has_hit (s : Sv) (key : ByteArray) (w : World) (hs : s.okB w w.heap.size) (hg : Good s.k s.items s.keys) (hn : s.n2 ≤ 1099511627776) (hk : s.k = 6) (j : Nat) (hm : idxK s.keys key = some j)
    (k1 : Int) (bo1 : Bool) (i1 : Int) (t1 : ByteArray) (it : Vals) (ks : List ByteArray) (r : Vals) (e1 : s.items.drop j = .cons k1 bo1 i1 t1 it ks r) :
    Calls Tryd.prog 9 #[s.val, .string key] w (SetPost (.cons k1 bo1 i1 t1 it ks .nil) w) := by
  have hk1 : (s.k == 6) = true := by simpa using hk
  have hk2 : (s.k != 6) = false := by simpa using hk
  have hnl := hs.at_.len_eq
  have hjk := idxK_lt hm
  have hmany := hg.many hk
  have hjn : j < s.n1 := by omega
  have hcm := hs.cm1
  have hnc := hs.nc1
  unfold maxLen at hcm
  have H1 := Lib.hid (fun wX (hX : Below (w.heap.size + 2) ((w.alloc s.box).alloc Sv.zero.box) wX) =>
    (index_any s.keys s.A2 s.n2 s.c2 key wX ((hs.ks.below (svTwo1 hX).1).more (svTwo1 hX).1.size) hn).mono (R' := fun e w' => e = .returned (.int .i64 (j : Int)) ∧ Below (w.heap.size + 2) ((w.alloc s.box).alloc Sv.zero.box) w') (fun e w' h => ⟨by rw [h.1]; unfold idxI; rw [hm], h.2 ▸ hX⟩))
  have H0 := Lib.hid (Below.refl (w.heap.size + 2) ((w.alloc s.box).alloc Sv.zero.box))
  obtain ⟨b, off, k2, bo2, i2, t2, B1, m1, d1, B2, m2, d2, it2, ks2, r2, hA, e1', e2, E⟩ := hs.at_.el j hjn
  rw [e1] at e1'
  cases e1'
  have HE := Lib.hid (fun wX (hX : Below w.heap.size w wX) => E.below hX)
  have hbl := E.lt
  clear hs hg hn hm hk hmany hjk hnl e1 e2 E
  have y := svCells (svTwo1 H0.out).2.2.1
  obtain ⟨y0, y1, y2, y3, y4, y5⟩ := y
  obtain ⟨sk, sbo, si, st, sA1, sn1, sc1, sA2, sn2, sc2, sit, sks⟩ := s
  dsimp only at hA hjn hcm hnc hk1 hk2 y0 y1 y2 y3 y4 y5 ⊢
  subst hA
  unfold Sv.box at H0 H1 y0 y1 y2 y3 y4 y5
  have hz : Sv.zero = ⟨0, false, 0, ⟨#[]⟩, none, 0, 0, none, 0, 0, .nil, []⟩ := rfl
  rw [hz] at H0 H1 y0 y1 y2 y3 y4 y5
  dsimp only at H0 H1 y0 y1 y2 y3 y4 y5
  clear hz
  unfold Sv.val
  dsimp only
  go_enter Tryd.func9, Tryd.ntmps9
  go_wp2_with fail
  refine (H1.out _ H0.out).mono ?_
  rintro e w1 ⟨rfl, hb1⟩
  have hT := svTwo1 (a := ⟨sk, sbo, si, st, some ⟨b, off, none⟩, sn1, sc1, sA2, sn2, sc2, sit, sks⟩) (b := Sv.zero) hb1
  have hE := HE.out w1 hT.1
  clear y0 y1 y2 y3 y4 y5
  have y := svCells hT.2.2.1
  obtain ⟨y0, y1, y2, y3, y4, y5⟩ := y
  dsimp only at y0 y1 y2 y3 y4 y5
  have HOK := Lib.hid hE.ok
  obtain ⟨hlb, x0, x1, x2, x3, x4, x5, -⟩ := hE
  have HT := Lib.hid (svThere hT.2.2.2)
  obtain ⟨hB3, hR3⟩ := svPut (a := ⟨k1, bo1, i1, t1, B1, m1, d1, B2, m2, d2, it, ks⟩) hT
  obtain ⟨w3, hw3⟩ : ∃ w3, w1.setCells (w.heap.size + 1) 0 (#[Value.int .i64 k1, .bool bo1, .int .i64 i1, .string t1, .slice B1 m1 d1, .slice B2 m2 d2] : Array Value).toList = w3 := ⟨_, rfl⟩
  rw [show (Sv.mk k1 bo1 i1 t1 B1 m1 d1 B2 m2 d2 it ks).cs.toList = (#[Value.int .i64 k1, .bool bo1, .int .i64 i1, .string t1, .slice B1 m1 d1, .slice B2 m2 d2] : Array Value).toList from rfl, hw3] at hB3 hR3
  have HW3 := Lib.hid hw3
  have HB := Lib.hid hB3
  have HR := Lib.hid hR3
  clear hT hb1 hw3 hB3 hR3
  go_upto_region 4 with (fail)
  go_wp2_with (refine wpList_store_mid rfl 25 (.tmp 4) (.tmp 30) rfl (w.heap.size + 1) 0 #[Value.int .i64 k1, .bool bo1, .int .i64 i1, .string t1, .slice B1 m1 d1, .slice B2 m2 d2] rfl rfl HT.out sv_size (by simp [Value.oneCell']) ?_; rw [HW3.out])
  refine bodyPost_ret (v := .tuple #[(Sv.mk k1 bo1 i1 t1 B1 m1 d1 B2 m2 d2 it ks).val, .bool true]) ?_ rfl ⟨Sv.mk k1 bo1 i1 t1 B1 m1 d1 B2 m2 d2 it ks, rfl, rfl, ?_, HB.out⟩
  · exact svRes rfl _ _ (w.heap.size + 1) (Sv.mk k1 bo1 i1 t1 B1 m1 d1 B2 m2 d2 it ks) _ rfl rfl HR.out
  · have hk := HOK.out
    have hk3 : VOk w3 w.heap.size k1 i1 t1 B1 m1 d1 B2 m2 d2 it ks := by
      refine hk.keep (fun x hx => ?_) (Nat.le_refl _)
      rw [← HW3.out]
      exact World.cell?_setCells_out _ _ _ _ _ (fun hb _ => by omega)
    exact hk3.more HB.out.size
/-- What has returns. -/
theorem has_any (s : Sv) (key : ByteArray) (w : World) (hs : s.okB w w.heap.size) (hg : Good s.k s.items s.keys) (hn : s.n2 ≤ 1099511627776) :
    Calls Tryd.prog 9 #[s.val, .string key] w (SetPost (pickK s.k s.items s.keys key) w) := by
  by_cases hk : s.k = 6
  · cases hm : idxK s.keys key with
    | none =>
      rw [pick_miss hm]
      exact has_miss s key w hs hn (.inr hm)
    | some j =>
      have hnl := hs.at_.len_eq
      have hjk := idxK_lt hm
      have hmany := hg.many hk
      obtain ⟨b, off, k1, bo1, i1, t1, B1, m1, d1, B2, m2, d2, it, ks, r, hA, e1, e2, E⟩ := hs.at_.el j (by omega)
      rw [pick_hit hk hm, Vals.one_drop j s.items e1]
      exact has_hit s key w hs hg hn hk j hm k1 bo1 i1 t1 it ks r e1
  · rw [pick_no hk]
    exact has_miss s key w hs hn (.inl hk)
end Go.Proofs.YtohkdckllmmfhaaDoor
