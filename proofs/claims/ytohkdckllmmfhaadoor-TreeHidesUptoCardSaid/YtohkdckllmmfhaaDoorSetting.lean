/- DERIVED. What tree's setting returns: what a table has at a key, if it is of the kind asked for. Condition: at most 2^40 keys. -/
import Derived.Test.YtohkdckllmmfhaaDoorSv
import Derived.Test.YtohkdckllmmfhaaDoorShelf
import Derived.WalkSmall
import Derived.BigGuardPart
import Derived.Laws.ResultCell
import Derived.Deep.Cut
import Derived.Deep.CutRange
namespace Go.Proofs.YtohkdckllmmfhaaDoor
set_option linter.unusedVariables false
open Go.RowKit
theorem bsearch_any (l : List ByteArray) (A : Option Addr) (n c : Nat) (x : ByteArray) (w : World) (hl : KeysAt w w.heap.size l A n) (hr : Rising l) (hn : n ≤ 1099511627776) :
    Calls Tryd.prog 13 #[.slice A n c, .string x] w
      fun e w' => e = .returned (.tuple #[.int .i64 ((lessK l x : Nat) : Int), .bool (decide (idxK l x = some (lessK l x)))]) ∧ ∃ q, w' = w.drewN q := by
  obtain ⟨hnl, hsz, hc⟩ := hl
  by_cases h0 : n = 0
  · subst h0
    obtain rfl : l = [] := List.eq_nil_of_length_eq_zero hnl.symm
    refine (Tryd.slices_BinarySearch_string_empty A c x w).mono ?_
    rintro e w' ⟨rfl, rfl⟩
    exact ⟨by simp [lessK, idxK], 0, rfl⟩
  · obtain ⟨b, o, rfl, hb, hcell⟩ := hc (by omega)
    refine (Tryd.slices_BinarySearch_string b o n c (fun t => l.getD t ByteArray.empty) x w (by omega) (fun j hj => ?_)).mono ?_
    · have hj' : j < l.length := by omega
      refine hcell j _ ?_
      rw [List.getD_eq_getElem?_getD, List.getElem?_eq_getElem hj']
      rfl
    · rintro e w' ⟨rfl, q, rfl⟩
      subst hnl
      have h := bs_less hr x
      refine ⟨?_, q, rfl⟩
      rw [h]
      have hd : decide (lessK l x < l.length ∧ l.getD (lessK l x) ByteArray.empty = x) = decide (idxK l x = some (lessK l x)) := decide_eq_decide.2 (less_idx hr x)
      rw [hd]
/-- A value, and whether it is there. -/
def SetPost (p : Vals) (w : World) (e : Ending) (w' : World) : Prop :=
  ∃ a : Sv, e = .returned (.tuple #[a.val, .bool p.isSome]) ∧ a.row = p.orZero ∧ a.okB w' w'.heap.size ∧ Below w.heap.size w w'
theorem pick_no {k : Int} {items : Vals} {keys : List ByteArray} {key : ByteArray} (h : ¬ k = 6) : pickK k items keys key = .nil := by unfold pickK; rw [if_neg h]
theorem pick_miss {k : Int} {items : Vals} {keys : List ByteArray} {key : ByteArray} (h : idxK keys key = none) : pickK k items keys key = .nil := by
  unfold pickK
  rw [h]
  split <;> rfl
theorem pick_hit {k : Int} {items : Vals} {keys : List ByteArray} {key : ByteArray} {j : Nat} (hk : k = 6) (h : idxK keys key = some j) : pickK k items keys key = items.one j := by
  unfold pickK
  rw [if_pos hk, h]
theorem svRes {fn : Func} {p u : Tmp} (h : fn.results = #[.cell p 25, .tmp u]) (tmps : Array Value) (w : World) (N : Nat) (a : Sv) (x : Value)
    (hp : tmps.getD p undef = .pointer (some ⟨N, 0, none⟩)) (hu : tmps.getD u undef = x) (hr : w.rangeAt N 0 a.cs.toList) : (results fn tmps).run Tryd.prog w = .ok (.tuple #[a.val, x]) w := by
  rw [results_cell_tmp h, hp, hu]
  have e : (asAddr (.pointer (some ⟨N, 0, none⟩))).run Tryd.prog w = .ok ⟨N, 0, none⟩ w := rfl
  rw [e]
  simp only [Result.andThen, sv_load hr]
theorem svRange {w : World} {N : Nat} {a : Sv} (h : w.heap[N]? = some a.box) : w.rangeAt N 0 a.cs.toList := fun j v hv => by
  rw [show w.cell? ⟨N, 0 + j, none⟩ = (#[.int .i64 a.k, .bool a.bo, .int .i64 a.i, .string a.t, .slice a.A1 a.n1 a.c1, .slice a.A2 a.n2 a.c2] : Array Value)[0 + j]? from cell_of_row _ _ _ _ _ _ h]
  rw [Nat.zero_add]
  rw [← Array.getElem?_toList]
  exact hv
theorem svTwo (w : World) (a b : Sv) : Below w.heap.size w ((w.alloc a.box).alloc b.box) := ((Below.refl _ _).alloc (Nat.le_refl _) _).alloc (by simp) _
theorem svTwo1 {w w1 : World} {a b : Sv} (hb : Below (w.heap.size + 2) ((w.alloc a.box).alloc b.box) w1) : Below w.heap.size w w1 ∧ w.heap.size + 2 ≤ w1.heap.size ∧ w1.heap[w.heap.size]? = some a.box ∧ w1.heap[w.heap.size + 1]? = some b.box := by
  have hs := hb.size
  simp at hs
  refine ⟨(svTwo w a b).trans (hb.mono (by omega)), hs, (hb.block _ (by omega)).trans ?_, (hb.block _ (by omega)).trans ?_⟩
  · exact (Below.heap_alloc _ _ _ (by simp)).trans (heap_alloc_new w _)
  · have h := heap_alloc_new (w.alloc a.box) b.box
    rwa [show (w.alloc a.box).heap.size = w.heap.size + 1 by simp] at h
/-- A value that is stored into the second of two blocks. -/
theorem svPut {w w1 : World} {s z a : Sv} (hT : Below w.heap.size w w1 ∧ w.heap.size + 2 ≤ w1.heap.size ∧ w1.heap[w.heap.size]? = some s.box ∧ w1.heap[w.heap.size + 1]? = some z.box) :
    Below w.heap.size w (w1.setCells (w.heap.size + 1) 0 a.cs.toList) ∧ (w1.setCells (w.heap.size + 1) 0 a.cs.toList).rangeAt (w.heap.size + 1) 0 a.cs.toList :=
  ⟨below_setCells' (by omega) _ _ hT.1, sv_set w1 _ a _ rfl (svThere hT.2.2.2)⟩
set_option maxRecDepth 100000 in
set_option maxHeartbeats 800000 in
theorem setting_no (s : Sv) (key : ByteArray) (q : Int) (w : World) (hk : ¬ s.k = 6) :
    Calls Tryd.prog 7 #[s.val, .string key, .int .i64 q] w (SetPost .nil w) := by
  have hk1 : (s.k == 6) = false := by simpa using hk
  have hk2 : (s.k != 6) = true := by simpa using hk
  have HB := Lib.hid (svTwo w s Sv.zero)
  have HR := Lib.hid (svRange (svTwo1 (Below.refl _ ((w.alloc s.box).alloc Sv.zero.box))).2.2.2)
  clear hk
  unfold Sv.val
  go_enter Tryd.func7, Tryd.ntmps7
  go_wp2_with fail
  refine bodyPost_ret (v := .tuple #[Sv.zero.val, .bool false]) ?_ rfl ⟨Sv.zero, rfl, rfl, Sv.zero_ok _ _, HB.out⟩
  exact svRes rfl _ _ (w.heap.size + 1) Sv.zero _ rfl rfl HR.out
set_option maxRecDepth 100000 in
set_option maxHeartbeats 3200000 in
theorem setting_miss (s : Sv) (key : ByteArray) (q : Int) (w : World) (hs : s.okB w w.heap.size) (hr : Rising s.keys) (hn : s.n2 ≤ 1099511627776) (hk : s.k = 6) (hm : idxK s.keys key = none) :
    Calls Tryd.prog 7 #[s.val, .string key, .int .i64 q] w (SetPost .nil w) := by
  have hk1 : (s.k == 6) = true := by simpa using hk
  have hk2 : (s.k != 6) = false := by simpa using hk
  obtain ⟨j, hj⟩ : ∃ j, lessK s.keys key = j := ⟨_, rfl⟩
  have H1 := Lib.hid (fun wX (hX : Below (w.heap.size + 2) ((w.alloc s.box).alloc Sv.zero.box) wX) =>
    (bsearch_any s.keys s.A2 s.n2 s.c2 key wX ((hs.ks.below (svTwo1 hX).1).more (svTwo1 hX).1.size) hr hn).mono (R' := fun e w' => e = .returned (.tuple #[.int .i64 (j : Int), .bool false]) ∧ Below (w.heap.size + 2) ((w.alloc s.box).alloc Sv.zero.box) w') (fun e w' h => by
      obtain ⟨rfl, q, rfl⟩ := h
      refine ⟨by rw [hm, hj]; rfl, below_drewN hX q⟩))
  have H0 := Lib.hid (Below.refl (w.heap.size + 2) ((w.alloc s.box).alloc Sv.zero.box))
  clear hs hr hn hm hk hj
  have y := svCells (svTwo1 H0.out).2.2.1
  obtain ⟨y0, y1, y2, y3, y4, y5⟩ := y
  obtain ⟨sk, sbo, si, st, sA1, sn1, sc1, sA2, sn2, sc2, sit, sks⟩ := s
  dsimp only at hk1 hk2 y0 y1 y2 y3 y4 y5 ⊢
  unfold Sv.box at H0 H1 y0 y1 y2 y3 y4 y5
  have hz : Sv.zero = ⟨0, false, 0, ⟨#[]⟩, none, 0, 0, none, 0, 0, .nil, []⟩ := rfl
  rw [hz] at H0 H1
  dsimp only at H0 H1
  clear hz
  unfold Sv.val
  dsimp only
  go_enter Tryd.func7, Tryd.ntmps7
  go_wp2_with fail
  refine (H1.out _ H0.out).mono ?_
  rintro e w1 ⟨rfl, hb1⟩
  have hT := svTwo1 (a := ⟨sk, sbo, si, st, sA1, sn1, sc1, sA2, sn2, sc2, sit, sks⟩) (b := Sv.zero) hb1
  clear y0 y1 y2 y3 y4 y5 hk1 hk2
  obtain ⟨hB3, hR3⟩ := svPut (a := Sv.zero) hT
  have HT := Lib.hid (svThere hT.2.2.2)
  obtain ⟨w3, hw3⟩ : ∃ w3, w1.setCells (w.heap.size + 1) 0 (#[Value.int .i64 0, .bool false, .int .i64 0, .string ⟨#[]⟩, .slice none 0 0, .slice none 0 0] : Array Value).toList = w3 := ⟨_, rfl⟩
  rw [show Sv.zero.cs.toList = (#[Value.int .i64 0, .bool false, .int .i64 0, .string ⟨#[]⟩, .slice none 0 0, .slice none 0 0] : Array Value).toList from rfl, hw3] at hB3 hR3
  have HW3 := Lib.hid hw3
  have HB := Lib.hid hB3
  have HR := Lib.hid hR3
  clear hT hb1 hw3 hB3 hR3
  go_upto_region 5 with (fail)
  go_wp2_with (refine wpList_store_mid rfl 25 (.tmp 6) (.tmp 32) rfl (w.heap.size + 1) 0 #[.int .i64 0, .bool false, .int .i64 0, .string ⟨#[]⟩, .slice none 0 0, .slice none 0 0] rfl rfl HT.out sv_size (by simp [Value.oneCell']) ?_; rw [HW3.out])
  refine bodyPost_ret (v := .tuple #[Sv.zero.val, .bool false]) ?_ rfl ⟨Sv.zero, rfl, rfl, Sv.zero_ok _ _, HB.out⟩
  exact svRes rfl _ _ (w.heap.size + 1) Sv.zero _ rfl rfl HR.out
set_option maxRecDepth 100000 in
set_option maxHeartbeats 1600000 in
theorem setting_hit (s : Sv) (key : ByteArray) (q : Int) (w : World) (hs : s.okB w w.heap.size) (hg : Good s.k s.items s.keys) (hn : s.n2 ≤ 1099511627776) (hk : s.k = 6) (j : Nat) (hm : idxK s.keys key = some j)
    (k1 : Int) (bo1 : Bool) (i1 : Int) (t1 : ByteArray) (it : Vals) (ks : List ByteArray) (r : Vals) (e1 : s.items.drop j = .cons k1 bo1 i1 t1 it ks r)
    (p : Vals) (hp1 : k1 = q → p = .cons k1 bo1 i1 t1 it ks .nil) (hp2 : ¬ k1 = q → p = .nil) :
    Calls Tryd.prog 7 #[s.val, .string key, .int .i64 q] w (SetPost p w) := by
  have HP1 := Lib.hid hp1
  have HP2 := Lib.hid hp2
  clear hp1 hp2
  have hk1 : (s.k == 6) = true := by simpa using hk
  have hk2 : (s.k != 6) = false := by simpa using hk
  have hnl := hs.at_.len_eq
  have hjk := idxK_lt hm
  have hmany := hg.many hk
  have hjn : j < s.n1 := by omega
  have hcm := hs.cm1
  have hnc := hs.nc1
  unfold maxLen at hcm
  have hlk : lessK s.keys key = j := by
    by_cases h : idxK s.keys key = some (lessK s.keys key)
    · rw [hm] at h; exact (Option.some.inj h).symm
    · rw [less_miss hg.rising key h] at hm; cases hm
  have H1 := Lib.hid (fun wX (hX : Below (w.heap.size + 2) ((w.alloc s.box).alloc Sv.zero.box) wX) =>
    (bsearch_any s.keys s.A2 s.n2 s.c2 key wX ((hs.ks.below (svTwo1 hX).1).more (svTwo1 hX).1.size) hg.rising hn).mono (R' := fun e w' => e = .returned (.tuple #[.int .i64 (j : Int), .bool true]) ∧ Below (w.heap.size + 2) ((w.alloc s.box).alloc Sv.zero.box) w') (fun e w' h => by
      obtain ⟨rfl, q, rfl⟩ := h
      refine ⟨by rw [hlk, hm]; simp, below_drewN hX q⟩))
  have H0 := Lib.hid (Below.refl (w.heap.size + 2) ((w.alloc s.box).alloc Sv.zero.box))
  obtain ⟨b, off, k2, bo2, i2, t2, B1, m1, d1, B2, m2, d2, it2, ks2, r2, hA, e1', e2, E⟩ := hs.at_.el j hjn
  rw [e1] at e1'
  cases e1'
  have HE := Lib.hid (fun wX (hX : Below w.heap.size w wX) => E.below hX)
  have hbl := E.lt
  clear hs hg hn hm hk hmany hjk hnl hlk e1 e2 E
  have y := svCells (svTwo1 H0.out).2.2.1
  obtain ⟨y0, y1, y2, y3, y4, y5⟩ := y
  have HS := Lib.hid (rfl : s.box = s.box)
  obtain ⟨sk, sbo, si, st, sA1, sn1, sc1, sA2, sn2, sc2, sit, sks⟩ := s
  dsimp only at hA hjn hcm hnc hk1 hk2 y0 y1 y2 y3 y4 y5 ⊢
  subst hA
  unfold Sv.box at H0 H1 y0 y1 y2 y3 y4 y5
  have hz : Sv.zero = ⟨0, false, 0, ⟨#[]⟩, none, 0, 0, none, 0, 0, .nil, []⟩ := rfl
  rw [hz] at H0 H1 y0 y1 y2 y3 y4 y5
  dsimp only at H0 H1 y0 y1 y2 y3 y4 y5
  unfold Sv.val
  dsimp only
  go_enter Tryd.func7, Tryd.ntmps7
  go_wp2_with fail
  refine (H1.out _ H0.out).mono ?_
  rintro e w1 ⟨rfl, hb1⟩
  have hT := svTwo1 (a := ⟨sk, sbo, si, st, some ⟨b, off, none⟩, sn1, sc1, sA2, sn2, sc2, sit, sks⟩) (b := Sv.zero) hb1
  have hE := HE.out w1 hT.1
  have y := svCells hT.2.2.1
  obtain ⟨y0, y1, y2, y3, y4, y5⟩ := y
  dsimp only at y0 y1 y2 y3 y4 y5
  have HOK := Lib.hid hE.ok
  obtain ⟨hlb, x0, x1, x2, x3, x4, x5, -⟩ := hE
  have HT := Lib.hid (svThere hT.2.2.2)
  by_cases hq : k1 = q
  · have hq1 : (k1 == q) = true := by simpa using hq
    have hq2 : (k1 != q) = false := by simpa using hq
    obtain ⟨hB3, hR3⟩ := svPut (a := ⟨k1, bo1, i1, t1, B1, m1, d1, B2, m2, d2, it, ks⟩) hT
    obtain ⟨w3, hw3⟩ : ∃ w3, w1.setCells (w.heap.size + 1) 0 (#[Value.int .i64 k1, .bool bo1, .int .i64 i1, .string t1, .slice B1 m1 d1, .slice B2 m2 d2] : Array Value).toList = w3 := ⟨_, rfl⟩
    rw [show (Sv.mk k1 bo1 i1 t1 B1 m1 d1 B2 m2 d2 it ks).cs.toList = (#[Value.int .i64 k1, .bool bo1, .int .i64 i1, .string t1, .slice B1 m1 d1, .slice B2 m2 d2] : Array Value).toList from rfl, hw3] at hB3 hR3
    have HW3 := Lib.hid hw3
    have HB := Lib.hid hB3
    have HR := Lib.hid hR3
    have HQ := Lib.hid hq
    have HB1 := Lib.hid hT.1
    clear hT hb1 hw3 hB3 hR3 hq
    go_upto_region 6 with (fail)
    go_wp2_with (refine wpList_store_mid rfl 25 (.tmp 6) (.tmp 37) rfl (w.heap.size + 1) 0 #[Value.int .i64 k1, .bool bo1, .int .i64 i1, .string t1, .slice B1 m1 d1, .slice B2 m2 d2] rfl rfl HT.out sv_size (by simp [Value.oneCell']) ?_; rw [HW3.out])
    rw [HP1.out HQ.out]
    refine bodyPost_ret (v := .tuple #[(Sv.mk k1 bo1 i1 t1 B1 m1 d1 B2 m2 d2 it ks).val, .bool true]) ?_ rfl ⟨Sv.mk k1 bo1 i1 t1 B1 m1 d1 B2 m2 d2 it ks, rfl, rfl, ?_, HB.out⟩
    · exact svRes rfl _ _ (w.heap.size + 1) (Sv.mk k1 bo1 i1 t1 B1 m1 d1 B2 m2 d2 it ks) _ rfl rfl HR.out
    · have hk := HOK.out
      have hk3 : VOk w3 w.heap.size k1 i1 t1 B1 m1 d1 B2 m2 d2 it ks := by
        refine hk.keep (fun x hx => ?_) (Nat.le_refl _)
        rw [← HW3.out]
        exact World.cell?_setCells_out _ _ _ _ _ (fun hb _ => by omega)
      exact hk3.more HB.out.size
  · have hq1 : (k1 == q) = false := by simpa using hq
    have hq2 : (k1 != q) = true := by simpa using hq
    obtain ⟨hB3, hR3⟩ := svPut (a := Sv.zero) hT
    obtain ⟨w3, hw3⟩ : ∃ w3, w1.setCells (w.heap.size + 1) 0 (#[Value.int .i64 0, .bool false, .int .i64 0, .string ⟨#[]⟩, .slice none 0 0, .slice none 0 0] : Array Value).toList = w3 := ⟨_, rfl⟩
    rw [show Sv.zero.cs.toList = (#[Value.int .i64 0, .bool false, .int .i64 0, .string ⟨#[]⟩, .slice none 0 0, .slice none 0 0] : Array Value).toList from rfl, hw3] at hB3 hR3
    have HW3 := Lib.hid hw3
    have HB := Lib.hid hB3
    have HR := Lib.hid hR3
    have HQ := Lib.hid hq
    clear hT hb1 hw3 hB3 hR3 hq hz
    go_upto_region 5 with (fail)
    go_wp2_with (refine wpList_store_mid rfl 25 (.tmp 6) (.tmp 32) rfl (w.heap.size + 1) 0 #[.int .i64 0, .bool false, .int .i64 0, .string ⟨#[]⟩, .slice none 0 0, .slice none 0 0] rfl rfl HT.out sv_size (by simp [Value.oneCell']) ?_; rw [HW3.out])
    rw [HP2.out HQ.out]
    refine bodyPost_ret (v := .tuple #[Sv.zero.val, .bool false]) ?_ rfl ⟨Sv.zero, rfl, rfl, Sv.zero_ok _ _, HB.out⟩
    exact svRes rfl _ _ (w.heap.size + 1) Sv.zero _ rfl rfl HR.out
/-- What setting returns. -/
theorem setting_any (s : Sv) (key : ByteArray) (q : Int) (w : World) (hs : s.okB w w.heap.size) (hg : Good s.k s.items s.keys) (hn : s.n2 ≤ 1099511627776) :
    Calls Tryd.prog 7 #[s.val, .string key, .int .i64 q] w (SetPost (Vals.ofKind q (pickK s.k s.items s.keys key)) w) := by
  by_cases hk : s.k = 6
  · cases hm : idxK s.keys key with
    | none =>
      rw [pick_miss hm]
      exact setting_miss s key q w hs hg.rising hn hk hm
    | some j =>
      have hnl := hs.at_.len_eq
      have hjk := idxK_lt hm
      have hmany := hg.many hk
      obtain ⟨b, off, k1, bo1, i1, t1, B1, m1, d1, B2, m2, d2, it, ks, r, hA, e1, e2, E⟩ := hs.at_.el j (by omega)
      refine setting_hit s key q w hs hg hn hk j hm k1 bo1 i1 t1 it ks r e1 _ (fun h => ?_) (fun h => ?_)
      · rw [pick_hit hk hm, Vals.one_drop j s.items e1]
        exact if_pos h
      · rw [pick_hit hk hm, Vals.one_drop j s.items e1]
        exact if_neg h
  · rw [pick_no hk]
    exact setting_no s key q w hk
end Go.Proofs.YtohkdckllmmfhaaDoor
