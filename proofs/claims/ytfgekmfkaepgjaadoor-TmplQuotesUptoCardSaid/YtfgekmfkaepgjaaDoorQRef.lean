/- DERIVED. What Quoted of the reference returns for lists and tables, and so for every value. Condition: there is room for the constant; the library's table of powers of ten. -/
import Derived.Test.YtfgekmfkaepgjaaDoorQRefL
namespace Go.Proofs.YtfgekmfkaepgjaaDoor
set_option linter.unusedVariables false
open Go.RowKit
namespace Vals
/-- The pieces of a row of items. -/
noncomputable def qps : Vals → Bool → List ByteArray → Nat → List (List UInt8)
  | .nil, _, _, _ => []
  | .cons k bo i t items keys rest, tb, ks, j => ((if tb = true then qS (ks.getD j ⟨#[]⟩).data.toList ++ [58] else []) ++ vT k bo i t items keys) :: rest.qps tb ks (j + 1)
end Vals
theorem qps_cons (k : Int) (bo : Bool) (i : Int) (t : ByteArray) (items : Vals) (keys : List ByteArray) (rest : Vals) (tb : Bool) (ks : List ByteArray) (j : Nat) :
    (Vals.cons k bo i t items keys rest).qps tb ks j = ((if tb = true then qS (ks.getD j ⟨#[]⟩).data.toList ++ [58] else []) ++ vT k bo i t items keys) :: rest.qps tb ks (j + 1) := rfl
theorem qt_tail : ∀ (d : Vals) (tb : Bool) (ks : List ByteArray) (j : Nat), d.qt tb ks (j + 1) = ((d.qps tb ks (j + 1)).map (fun x => [44] ++ x)).flatten
  | .nil, _, _, _ => rfl
  | .cons k bo i t items keys rest, tb, ks, j => by
    rw [qt_cons, qps_cons, List.map_cons, List.flatten_cons, ← qt_tail rest tb ks (j + 1)]
    simp
theorem join_cons (x : List UInt8) (sep : List UInt8) : ∀ r : List (List UInt8), Lib.join (x :: r) sep = x ++ (r.map (fun y => sep ++ y)).flatten
  | [] => by simp [Lib.join, List.intercalate]
  | y :: r => by
    have ih := join_cons y sep r
    unfold Lib.join at ih ⊢
    rw [List.map_cons, List.flatten_cons, List.append_assoc, ← ih]
    simp [List.intercalate]
theorem qps_join (d : Vals) (tb : Bool) (ks : List ByteArray) : Lib.join (d.qps tb ks 0) [44] = d.qt tb ks 0 := by
  cases d with
  | nil => rfl
  | cons k bo i t items keys rest =>
    rw [qps_cons, qt_cons, join_cons, qt_tail]
    simp
theorem own_below {w w' : World} {B n : Nat} {e : TypeId} {size : Nat} {v : Value} {xs : List Value} (h : w.ownsRow B e size v n xs) (hb : Below w.heap.size w w') : w'.ownsRow B e size v n xs := by
  refine h.kept (row := none) ⟨hb.os, hb.tape, hb.output, hb.size, fun q hq _ => hb.block q hq⟩ ?_
  cases hv : v.ownBlock with
  | none => exact .inl rfl
  | some g => exact .inr (by simp)
theorem qown0 {w : World} {B size : Nat} {e : TypeId} {v : Value} {xs : List Value} (h : w.ownsRow B e size v 0 xs) : ∃ ao cp, v = .slice ao 0 cp := by
  rcases h.2 with ⟨hv, _⟩ | ⟨g, cap, cur, hv, _⟩
  · exact ⟨_, _, hv⟩
  · exact ⟨_, _, hv⟩
theorem qstrInfo : (Tryd.prog.info? 9).map (fun i => (i.zero, i.size, i.bytes)) = some (some (.string .empty), 1, 16) := by kernel_rfl
theorem ret_z {y y' : Int} {Z s : ByteArray} (hy : y = y') (hz : Z = s) : Ending.returned (.tuple #[.string s, .int .i64 y']) = .returned (.tuple #[.string Z, .int .i64 y]) := by rw [hy, hz]
theorem ret_q2 {y y' : Int} {L : List UInt8} {s : ByteArray} (hy : y' = y) (h0 : y = 0) (hs : s = ⟨L.toArray⟩) : Ending.returned (.tuple #[.string s, .int .i64 y]) = .returned (.tuple #[.string (if y' = 0 then (⟨L.toArray⟩ : ByteArray) else ⟨#[]⟩), .int .i64 y']) := by
  rw [hy, if_pos h0, hs]
theorem ret_q3 {y y' : Int} {L : List UInt8} (hy : y' = y) (h0 : y ≠ 0) : Ending.returned (.tuple #[.string ⟨#[]⟩, .int .i64 y]) = .returned (.tuple #[.string (if y' = 0 then (⟨L.toArray⟩ : ByteArray) else ⟨#[]⟩), .int .i64 y']) := by
  rw [hy, if_neg h0]
theorem ba_list {s : ByteArray} {l : List UInt8} (h : s.data.toList = l) : s = ⟨l.toArray⟩ := by
  subst h
  simp
theorem kz_drop_le : ∀ (l : List ByteArray) (j : Nat), kz (l.drop j) ≤ kz l
  | l, 0 => by simp
  | [], j + 1 => by simp
  | s :: r, j + 1 => by have := kz_drop_le r j; simp only [List.drop_succ_cons, kz]; omega

set_option maxRecDepth 100000 in
set_option maxHeartbeats 4000000 in
theorem rnest5_gen (bo : Bool) (i : Int) (t : ByteArray) (items : Vals) (keys : List ByteArray) (d : Int) (hd0 : 0 ≤ d) (hd : d ≤ 13)
    (hc : ∀ (j : Nat) (k : Int) (bo : Bool) (i : Int) (t : ByteArray) (it : Vals) (ks : List ByteArray) (rest : Vals), items.drop j = .cons k bo i t it ks rest → d ≤ 12 → RVal k bo i t it ks (d + 1)) : RVal 5 bo i t items keys d := by
  intro A1 n1 c1 A2 n2 c2 w hv ht hlen
  obtain ⟨i0, hi, hz0, hz1, hz2⟩ := info_parts qstrInfo
  have hoki := Vals.okI_at hv.at_
  have hcm : n1 ≤ maxLen := Nat.le_trans hv.nc1 hv.cm1
  unfold maxLen at hcm
  have hcm2 : n2 ≤ maxLen := Nat.le_trans hv.nc2 hv.cm2
  unfold maxLen at hcm2
  have hnl := hv.at_.len_eq
  have hnn : n1 ≤ items.nodes := by rw [hnl]; exact Vals.len_le items
  have hks := hv.ks.1
  unfold vM at hlen
  have hn40 : n1 ≤ 1099511627776 := by omega
  have HNL := Lib.hid hnl; clear hnl hnn
  have HKL := Lib.hid hks; clear hks
  have HVO := Lib.hid hv
  have HT := Lib.hid ht
  have HC := Lib.hid hc
  have hkzn : kz keys ≤ 140737488355328 := by omega
  have HLEN := Lib.hid hlen
  have hjl := qt_len items hoki false keys 0
  rw [List.drop_zero] at hjl
  have hjl2 : (items.qt false keys 0).length ≤ 140737488355328 := by omega
  have HJL := Lib.hid hjl2
  have HOKI := Lib.hid hoki
  clear hv ht hc hlen hjl hjl2 hoki
  have HR := Lib.hid (Below.refl (w.heap.size + 1) (w.alloc (.cells #[.int .i64 5, .bool bo, .int .i64 i, .string t, .slice A1 n1 c1, .slice A2 n2 c2] 25)))
  have HB0 := Lib.hid ((Below.refl w.heap.size w).alloc (Nat.le_refl _) (.cells #[.int .i64 5, .bool bo, .int .i64 i, .string t, .slice A1 n1 c1, .slice A2 n2 c2] 25))
  have hgb : (w.alloc (.cells #[.int .i64 5, .bool bo, .int .i64 i, .string t, .slice A1 n1 c1, .slice A2 n2 c2] 25)).heap[w.heap.size]? = some (.cells #[.int .i64 5, .bool bo, .int .i64 i, .string t, .slice A1 n1 c1, .slice A2 n2 c2] 25 (0, 0)) := by
    show (w.heap.push _)[w.heap.size]? = _
    exact Array.getElem?_push_size
  have HG := Lib.hid (fun (W : World) (h : Below (w.heap.size + 1) (w.alloc (.cells #[.int .i64 5, .bool bo, .int .i64 i, .string t, .slice A1 n1 c1, .slice A2 n2 c2] 25)) W) => six ((h.block w.heap.size (by omega)).trans hgb))
  clear hgb
  have HVE := Lib.hid (show vE 5 bo i t items d = if 12 < d then 13 else items.qe (d + 1) from rfl)
  have HVT := Lib.hid (vT_5 bo i t items keys)
  generalize vE 5 bo i t items d = y at HVE ⊢
  generalize vT 5 bo i t items keys = L at HVT ⊢
  obtain ⟨Z, hZ⟩ : ∃ Z : ByteArray, (if y = 0 then (⟨L.toArray⟩ : ByteArray) else ⟨#[]⟩) = Z := ⟨_, rfl⟩
  rw [hZ]
  have HZ0 := Lib.hid (show y ≠ 0 → Z = ⟨#[]⟩ from fun h => by rw [← hZ, if_neg h])
  have HZ1 := Lib.hid (show y = 0 → Z = ⟨L.toArray⟩ from fun h => by rw [← hZ, if_pos h])
  clear hZ
  by_cases hdd : 12 < d
  · go_enter Tryd.func10, Tryd.ntmps10
    go_wp2_with fail
    go_ret2
    have hy13 : y = 13 := by rw [HVE.out, if_pos (by omega)]
    exact ⟨ret_z hy13 (HZ0.out (by omega)), HB0.out⟩
  · go_enter Tryd.func10, Tryd.ntmps10
    go_wp2_with fail
    go_loopw [8, 47] (fun v i' wr => ∃ (j : Nat) (xs : List ByteArray) (v0 : Value), v0 = v ∧ j ≤ n1 ∧ i' = .int .i64 j ∧ wr.ownsRow (w.heap.size + 1) 9 1 v0 j (xs.map Value.string) ∧ (items.drop j).qe (d + 1) = items.qe (d + 1) ∧ xs.map (·.data.toList) ++ (items.drop j).qps false keys j = items.qps false keys 0 ∧ xs.length = j ∧ Below (w.heap.size + 1) (w.alloc (.cells #[.int .i64 5, .bool bo, .int .i64 i, .string t, .slice A1 n1 c1, .slice A2 n2 c2] 25)) wr) (fun _ i' _ => n1 - (intOf i').toNat)
    case atStart => exact ⟨0, [], _, rfl, Nat.zero_le _, rfl, World.ownsRow_nil _ _ _ _, by rw [Vals.drop_zero], by rw [Vals.drop_zero]; rfl, rfl, HR.out⟩
    case round =>
      obtain ⟨j, xs, v0, rfl, hj, rfl, hown, hx, hps, hxl, hbx⟩ := hrel
      obtain ⟨hbw, hsz⟩ := below_top hbx
      have HO := Lib.hid hown
      have HBX := Lib.hid hbx
      by_cases hlt : j < n1
      · clear hown
        obtain ⟨b, off, k1, bo1, i1, t1, B1, m1, d1, B2, m2, d2, it, ks, r, rfl, e1, e2, E⟩ := HVO.out.at_.el j hlt
        have E' := E.below hbw
        obtain ⟨hlb, x0, x1, x2, x3, x4, x5, hok⟩ := E'
        clear E
        have hsb : b < wr.heap.size := Nat.lt_of_lt_of_le hlb hbw.size
        have hnd := Vals.nodes_drop j items
        have hld := Vals.letters_drop j items
        rw [e1] at hnd hld
        have hnd' : it.nodes + r.nodes + 1 ≤ items.nodes := hnd
        have hld' : t1.size + kz ks + it.letters + r.letters ≤ items.letters := hld
        have hm9 : vM t1 it ks ≤ 140737488355328 := by have := HLEN.out; unfold vM; omega
        have hv9 := vT_len k1 bo1 i1 t1 it ks (i64_wf hok.iwf) (Vals.okI_at hok.at_)
        have hcall := fun wX (hX : Below w.heap.size wr wX) => HC.out j k1 bo1 i1 t1 it ks r e1 (by omega) B1 m1 d1 B2 m2 d2 wX ((hok.below hX).more (Nat.le_trans hbw.size hX.size)) (HT.out.on (hbw.trans hX)) hm9
        have HCL := Lib.hid hcall; clear hcall
        have hpc := qps_cons k1 bo1 i1 t1 it ks r false keys j
        rw [← e1] at hpc
        rw [e1, qe_cons] at hx
        have HE2 := Lib.hid e2
        have HPS := Lib.hid hps
        clear e1 e2 hok hps hnd hld hnd' hld' hbx
        generalize vE k1 bo1 i1 t1 it (d + 1) = y1 at HCL hx
        generalize vT k1 bo1 i1 t1 it ks = T1 at HCL hpc hv9
        have hQ := hx
        have HPC := Lib.hid hpc; clear hpc
        by_cases hy : y1 = 0
        · subst hy
          obtain ⟨S1, hS1⟩ : ∃ S1 : ByteArray, ⟨T1.toArray⟩ = S1 := ⟨_, rfl⟩
          have HS1 := Lib.hid (show S1.data.toList = T1 by rw [← hS1])
          have hs1z : S1.size ≤ 140737488355328 := by
            have h6 : S1.data.toList.length = S1.size := Array.length_toList
            rw [← h6, HS1.out]; omega
          have HQ := Lib.hid hQ
          clear hQ hx hv9 hm9
          rw [if_pos rfl] at HCL
          rw [hS1] at HCL
          clear hS1
          go_wp2_with fail
          refine (HCL.out _ ((Below.refl _ _).alloc hbw.size _)).mono ?_
          rintro e w1 ⟨rfl, hb1⟩
          have hbz := HBX.out.trans (((Below.refl _ wr).alloc (Nat.le_refl _) _).mono hsz |>.trans (hb1.mono (by simp; omega)))
          obtain ⟨y0, y1, y2, y3, y4, y5⟩ := HG.out _ hbz
          have HBW1 := Lib.hid (below_top hbz).1
          have HB1 := Lib.hid hbz
          have HO1 := Lib.hid (own_below (HO.out.alloc _) hb1)
          clear hb1 hbz x0 x1 x2 x3 x4 x5
          obtain ⟨w9, hw9⟩ : ∃ w9, w9 = w1 := ⟨_, rfl⟩
          obtain ⟨S9, hS9⟩ : ∃ S9, S9 = S1 := ⟨_, rfl⟩
          subst hw9
          subst hS9
          have HS9 := HS1
          have HO9 := HO1
          have HB9 := HB1
          go_wp2_with (at_builtin; refine wpList_append_own _ rfl _ _ 23 rfl (w.heap.size + 1) 9 i0 (.string .empty) 1 16 Tryd.underlying23 hi hz0 hz1 hz2 rfl (by decide) _ _ _ rfl (HO9.out.alloc _) ⟨w9.heap.size, 0, none⟩ 1 1 [.string S9] rfl rfl ?a1 ?a2 ?a3 ?a4 ?a5 ?_)
          case a1 => first | exact fun j u h => news1 w9 _ _ _ rfl j u h | (intro j u h; exact news1 w9 _ _ _ rfl j u h)
          case a2 => intro u hu; simp at hu; subst hu; rfl
          case a3 => unfold maxLen; omega
          case a4 => omega
          case a5 => have := HB9.out.size; simp at this ⊢; omega
          intro v2 w2 hown2 hgrow2 _
          have hbb := (HB9.out.alloc (by have := HB9.out.size; simp at this; omega) _).grown hgrow2 (by have := HB9.out.size; simp at this ⊢; omega) (fun g hg => (HO9.out.lt g hg).1)
          have HO2 := Lib.hid hown2
          have HB2 := Lib.hid hbb
          clear hown2 hgrow2 hbb
          go_wp2_with fail
          go_roundw
          case rel => exact ⟨j + 1, xs ++ [S9], _, rfl, by omega, by go_num, by have := HO2.out; rw [List.map_append]; exact this, by rw [HE2.out, ← HQ.out]; rfl, by rw [HE2.out, ← HPS.out, List.map_append, List.append_assoc]; rw [HPC.out]; simp [HS9.out], by rw [List.length_append]; simp [hxl], HB2.out⟩
          case measure => simp [intOf]; omega
        · have HQ := Lib.hid hQ
          clear hQ hx hv9 hm9
          rw [if_neg hy] at HCL
          go_wp2_with fail
          refine (HCL.out _ ((Below.refl _ _).alloc hbw.size _)).mono ?_
          rintro e w1 ⟨rfl, hb1⟩
          have hb2 := hbw.trans (((Below.refl _ wr).alloc hbw.size _).trans (hb1.mono (Nat.le_trans hbw.size (by simp))))
          clear hb1
          go_wp2_with fail
          go_ret2
          have hyy : y = y1 := by rw [HVE.out, if_neg (by omega), ← HQ.out, if_pos hy]
          exact ⟨ret_z hyy (HZ0.out (by rw [hyy]; exact hy)), hb2⟩
      · obtain rfl : j = n1 := by omega
        have hd9 : items.drop j = .nil := by rw [HNL.out, Vals.drop_len]
        rw [hd9] at hx hps
        have hq0 : items.qe (d + 1) = 0 := hx.symm
        have hps2 : xs.map (·.data.toList) = items.qps false keys 0 := by rw [← hps]; simp [Vals.qps]
        have hjn : Lib.join (xs.map (·.data.toList)) [44] = items.qt false keys 0 := by rw [hps2, qps_join]
        have HY := Lib.hid (show y = 0 by rw [HVE.out, if_neg (by omega), hq0])
        obtain ⟨J, hJ⟩ : ∃ J : ByteArray, ⟨(Lib.join (xs.map (·.data.toList)) (ByteArray.mk #[44]).data.toList).toArray⟩ = J := ⟨_, rfl⟩
        have hJl : J.data.toList = items.qt false keys 0 := by rw [← hJ]; exact hjn
        have hJs : J.size ≤ 140737488355328 := by
          have h6 : J.data.toList.length = J.size := Array.length_toList
          rw [← h6, hJl]; exact HJL.out
        obtain ⟨r1, hr1⟩ : ∃ r1 : ByteArray, ⟨#[91]⟩ ++ J = r1 := ⟨_, rfl⟩
        have hr1z : r1.size = J.size + 1 := by rw [← hr1, ByteArray.size_append]; show 1 + J.size = _; omega
        have p1 : ∀ wx, (Op.stringOp .add ⟨#[91]⟩ J).run Tryd.prog wx = .ok (.string r1) wx := fun wx => by rw [← hr1]; exact run_string_add_sum (P := Tryd.prog) (w := wx) ⟨#[91]⟩ J (by show 1 + J.size ≤ _; omega)
        obtain ⟨r2, hr2⟩ : ∃ r2 : ByteArray, r1 ++ ⟨#[93]⟩ = r2 := ⟨_, rfl⟩
        have p2 : ∀ wx, (Op.stringOp .add r1 ⟨#[93]⟩).run Tryd.prog wx = .ok (.string r2) wx := fun wx => by rw [← hr2]; exact run_string_add_sum (P := Tryd.prog) (w := wx) r1 ⟨#[93]⟩ (by show r1.size + 1 ≤ _; omega)
        have HR2 := Lib.hid (show r2 = ⟨L.toArray⟩ from ba_list (by
          rw [← hr2, ← hr1, ByteArray.data_append, Array.toList_append, ByteArray.data_append, Array.toList_append, hJl, HVT.out]; simp))
        have hJB : Hid (∀ wX, wX = wr → Calls Tryd.prog 19 #[v0, .string ⟨#[44]⟩] wX fun e w' => e = .returned (.string J) ∧ Below w.heap.size wX w') := Lib.hid (by
          intro wX hwX
          subst hwX
          by_cases h0 : j = 0
          · subst h0
            obtain ⟨ao, cp, rfl⟩ := qown0 hown
            refine (Tryd.strings_Join_none ao cp ⟨#[44]⟩ _).mono ?_
            rintro e w' ⟨rfl, rfl⟩
            have hxn : xs = [] := List.eq_nil_of_length_eq_zero hxl
            exact ⟨by rw [← hJ, hxn]; rfl, Below.refl _ _⟩
          · obtain ⟨g, cap, rfl, hg1, hg2⟩ := hown.form (by omega)
            have hcap : j ≤ cap := by
              rcases hown.2 with ⟨hv, _⟩ | ⟨g', cap', cur, hv, _, _, _, hh, _⟩
              · cases hv
              · cases hv; first | exact hh | omega
            have hh := Tryd.strings_Join g 0 cap xs ⟨#[44]⟩ _ (fun q x hq => by
              rw [Nat.zero_add, hown.cellAt q (by have := (List.getElem?_eq_some_iff.1 hq).1; omega), List.getElem?_map, hq]; rfl) hg2 (by omega) (by omega) (by have := HJL.out; rw [show (ByteArray.mk #[44]).data.toList = [44] from rfl, hjn]; exact this)
            rw [hxl] at hh
            refine hh.mono ?_
            rintro e w' ⟨rfl, hb⟩
            exact ⟨by rw [hJ], hb.mono hbw.size⟩)
        obtain ⟨y0, y1, y2, y3, y4, y5⟩ := HG.out _ hbx
        clear hown hx hps hps2 hjn hJ hJl hJs hr1 hr1z hr2 hq0 hd9 hbx
        obtain ⟨ao, cp, rfl⟩ : ∃ ao cp, v0 = .slice ao j cp := by
          rcases HO.out.2 with ⟨rfl, h⟩ | ⟨g, cap, cur, rfl, _⟩
          · exact ⟨_, _, by rw [h]⟩
          · exact ⟨_, _, rfl⟩
        go_wp2_with fail
        refine (hJB.out _ rfl).mono ?_
        rintro e w3 ⟨rfl, hb3⟩
        have hb4 := hbw.trans hb3
        clear hb3
        go_wp2_with fail
        go_ret2
        exact ⟨ret_z HY.out ((HZ1.out HY.out).trans HR2.out.symm), hb4⟩

set_option maxRecDepth 100000 in
set_option maxHeartbeats 4000000 in
theorem rnest6_gen (bo : Bool) (i : Int) (t : ByteArray) (items : Vals) (keys : List ByteArray) (d : Int) (hd0 : 0 ≤ d) (hd : d ≤ 13)
    (hc : ∀ (j : Nat) (k : Int) (bo : Bool) (i : Int) (t : ByteArray) (it : Vals) (ks : List ByteArray) (rest : Vals), items.drop j = .cons k bo i t it ks rest → d ≤ 12 → RVal k bo i t it ks (d + 1)) : RVal 6 bo i t items keys d := by
  intro A1 n1 c1 A2 n2 c2 w hv ht hlen
  obtain ⟨i0, hi, hz0, hz1, hz2⟩ := info_parts qstrInfo
  have hoki := Vals.okI_at hv.at_
  have hcm : n1 ≤ maxLen := Nat.le_trans hv.nc1 hv.cm1
  unfold maxLen at hcm
  have hcm2 : n2 ≤ maxLen := Nat.le_trans hv.nc2 hv.cm2
  unfold maxLen at hcm2
  have hnl := hv.at_.len_eq
  have hnn : n1 ≤ items.nodes := by rw [hnl]; exact Vals.len_le items
  have hks := hv.ks.1
  unfold vM at hlen
  have hn40 : n1 ≤ 1099511627776 := by omega
  have HNL := Lib.hid hnl; clear hnl hnn
  have HKL := Lib.hid hks; clear hks
  have HVO := Lib.hid hv
  have HT := Lib.hid ht
  have HC := Lib.hid hc
  have hkzn : kz keys ≤ 140737488355328 := by omega
  have HLEN := Lib.hid hlen
  have hjl := qt_len items hoki true keys 0
  rw [List.drop_zero] at hjl
  have hjl2 : (items.qt true keys 0).length ≤ 140737488355328 := by omega
  have HJL := Lib.hid hjl2
  have HOKI := Lib.hid hoki
  clear hv ht hc hlen hjl hjl2 hoki
  have HR := Lib.hid (Below.refl (w.heap.size + 1) (w.alloc (.cells #[.int .i64 6, .bool bo, .int .i64 i, .string t, .slice A1 n1 c1, .slice A2 n2 c2] 25)))
  have HB0 := Lib.hid ((Below.refl w.heap.size w).alloc (Nat.le_refl _) (.cells #[.int .i64 6, .bool bo, .int .i64 i, .string t, .slice A1 n1 c1, .slice A2 n2 c2] 25))
  have hgb : (w.alloc (.cells #[.int .i64 6, .bool bo, .int .i64 i, .string t, .slice A1 n1 c1, .slice A2 n2 c2] 25)).heap[w.heap.size]? = some (.cells #[.int .i64 6, .bool bo, .int .i64 i, .string t, .slice A1 n1 c1, .slice A2 n2 c2] 25 (0, 0)) := by
    show (w.heap.push _)[w.heap.size]? = _
    exact Array.getElem?_push_size
  have HG := Lib.hid (fun (W : World) (h : Below (w.heap.size + 1) (w.alloc (.cells #[.int .i64 6, .bool bo, .int .i64 i, .string t, .slice A1 n1 c1, .slice A2 n2 c2] 25)) W) => six ((h.block w.heap.size (by omega)).trans hgb))
  clear hgb
  have HVE := Lib.hid (show vE 6 bo i t items d = if 12 < d then 13 else items.qe (d + 1) from rfl)
  have HVT := Lib.hid (vT_6 bo i t items keys)
  generalize vE 6 bo i t items d = y at HVE ⊢
  generalize vT 6 bo i t items keys = L at HVT ⊢
  obtain ⟨Z, hZ⟩ : ∃ Z : ByteArray, (if y = 0 then (⟨L.toArray⟩ : ByteArray) else ⟨#[]⟩) = Z := ⟨_, rfl⟩
  rw [hZ]
  have HZ0 := Lib.hid (show y ≠ 0 → Z = ⟨#[]⟩ from fun h => by rw [← hZ, if_neg h])
  have HZ1 := Lib.hid (show y = 0 → Z = ⟨L.toArray⟩ from fun h => by rw [← hZ, if_pos h])
  clear hZ
  by_cases hdd : 12 < d
  · go_enter Tryd.func10, Tryd.ntmps10
    go_wp2_with fail
    go_ret2
    have hy13 : y = 13 := by rw [HVE.out, if_pos (by omega)]
    exact ⟨ret_z hy13 (HZ0.out (by omega)), HB0.out⟩
  · go_enter Tryd.func10, Tryd.ntmps10
    go_wp2_with fail
    go_loopw [8, 47] (fun v i' wr => ∃ (j : Nat) (xs : List ByteArray) (v0 : Value), v0 = v ∧ j ≤ n1 ∧ i' = .int .i64 j ∧ wr.ownsRow (w.heap.size + 1) 9 1 v0 j (xs.map Value.string) ∧ (items.drop j).qe (d + 1) = items.qe (d + 1) ∧ xs.map (·.data.toList) ++ (items.drop j).qps true keys j = items.qps true keys 0 ∧ xs.length = j ∧ Below (w.heap.size + 1) (w.alloc (.cells #[.int .i64 6, .bool bo, .int .i64 i, .string t, .slice A1 n1 c1, .slice A2 n2 c2] 25)) wr) (fun _ i' _ => n1 - (intOf i').toNat)
    case atStart => exact ⟨0, [], _, rfl, Nat.zero_le _, rfl, World.ownsRow_nil _ _ _ _, by rw [Vals.drop_zero], by rw [Vals.drop_zero]; rfl, rfl, HR.out⟩
    case round =>
      obtain ⟨j, xs, v0, rfl, hj, rfl, hown, hx, hps, hxl, hbx⟩ := hrel
      obtain ⟨hbw, hsz⟩ := below_top hbx
      have HO := Lib.hid hown
      have HBX := Lib.hid hbx
      by_cases hlt : j < n1
      · clear hown
        obtain ⟨b, off, k1, bo1, i1, t1, B1, m1, d1, B2, m2, d2, it, ks, r, rfl, e1, e2, E⟩ := HVO.out.at_.el j hlt
        have E' := E.below hbw
        obtain ⟨hlb, x0, x1, x2, x3, x4, x5, hok⟩ := E'
        clear E
        have hsb : b < wr.heap.size := Nat.lt_of_lt_of_le hlb hbw.size
        have hnd := Vals.nodes_drop j items
        have hld := Vals.letters_drop j items
        rw [e1] at hnd hld
        have hnd' : it.nodes + r.nodes + 1 ≤ items.nodes := hnd
        have hld' : t1.size + kz ks + it.letters + r.letters ≤ items.letters := hld
        have hm9 : vM t1 it ks ≤ 140737488355328 := by have := HLEN.out; unfold vM; omega
        have hv9 := vT_len k1 bo1 i1 t1 it ks (i64_wf hok.iwf) (Vals.okI_at hok.at_)
        have hcall := fun wX (hX : Below w.heap.size wr wX) => HC.out j k1 bo1 i1 t1 it ks r e1 (by omega) B1 m1 d1 B2 m2 d2 wX ((hok.below hX).more (Nat.le_trans hbw.size hX.size)) (HT.out.on (hbw.trans hX)) hm9
        have HCL := Lib.hid hcall; clear hcall
        have hpc := qps_cons k1 bo1 i1 t1 it ks r true keys j
        rw [← e1] at hpc
        rw [e1, qe_cons] at hx
        have HE2 := Lib.hid e2
        have HPS := Lib.hid hps
        clear e1 e2 hok hps hnd hld hnd' hld' hbx
        generalize vE k1 bo1 i1 t1 it (d + 1) = y1 at HCL hx
        generalize vT k1 bo1 i1 t1 it ks = T1 at HCL hpc hv9
        have hQ := hx
        have HPC := Lib.hid hpc; clear hpc
        by_cases hy : y1 = 0
        · subst hy
          obtain ⟨S1, hS1⟩ : ∃ S1 : ByteArray, ⟨T1.toArray⟩ = S1 := ⟨_, rfl⟩
          have HS1 := Lib.hid (show S1.data.toList = T1 by rw [← hS1])
          have hs1z : S1.size ≤ 140737488355328 := by
            have h6 : S1.data.toList.length = S1.size := Array.length_toList
            rw [← h6, HS1.out]; omega
          have HQ := Lib.hid hQ
          clear hQ hx hv9 hm9
          rw [if_pos rfl] at HCL
          rw [hS1] at HCL
          clear hS1
          go_wp2_with fail
          refine (HCL.out _ ((Below.refl _ _).alloc hbw.size _)).mono ?_
          rintro e w1 ⟨rfl, hb1⟩
          have hbz := HBX.out.trans (((Below.refl _ wr).alloc (Nat.le_refl _) _).mono hsz |>.trans (hb1.mono (by simp; omega)))
          obtain ⟨y0, y1, y2, y3, y4, y5⟩ := HG.out _ hbz
          have HBW1 := Lib.hid (below_top hbz).1
          have HB1 := Lib.hid hbz
          have HO1 := Lib.hid (own_below (HO.out.alloc _) hb1)
          clear hb1 hbz x0 x1 x2 x3 x4 x5
          have kc : True := trivial
          have HKZ := Lib.hid (show (keys.getD j ⟨#[]⟩).size ≤ kz keys by have h1 := key_drop keys j; have h2 := kz_drop_le keys j; omega)
          by_cases hjk : j < n2
          · obtain ⟨b2, o2, rfl, hb2, hcs⟩ := HVO.out.ks.2.2 (by omega)
            obtain ⟨s, hs⟩ : ∃ s, keys.getD j ⟨#[]⟩ = s := ⟨_, rfl⟩
            have hsj : keys[j]? = some s := by
              have hlk : j < keys.length := by rw [← HKL.out]; exact hjk
              rw [← hs, List.getD_eq_getElem?_getD, List.getElem?_eq_getElem hlk]; rfl
            have hkc := (HBW1.out.cell (p := ⟨b2, o2 + j, none⟩) hb2).trans (hcs j s hsj)
            clear kc
            have kc := hkc
            clear hkc hcs
            have HKY := Lib.hid hs; clear hs hsj
            obtain ⟨a, ha⟩ : ∃ a : ByteArray, ⟨(qS (s : ByteArray).data.toList).toArray⟩ = a := ⟨_, rfl⟩
            have hal : a.data.toList = qS (s : ByteArray).data.toList := by rw [← ha]
            have hasz : a.size ≤ 6 * (s : ByteArray).size + 2 := by
              have h4 := qS_len (s : ByteArray).data.toList
              have h5 : (s : ByteArray).data.toList.length = (s : ByteArray).size := Array.length_toList
              have h6 : a.data.toList.length = a.size := Array.length_toList
              rw [← h6, hal]; omega
            have hk9 := HKZ.out
            rw [HKY.out] at hk9
            have HQS := Lib.hid (fun wX => ha ▸ quoteStr_any s wX (by omega))
            obtain ⟨s2, hs2⟩ : ∃ s2 : ByteArray, a ++ ⟨#[58]⟩ = s2 := ⟨_, rfl⟩
            have hs2z : s2.size = a.size + 1 := by rw [← hs2, ByteArray.size_append]; rfl
            have p1 : ∀ wx, (Op.stringOp .add a ⟨#[58]⟩).run Tryd.prog wx = .ok (.string s2) wx := fun wx => by rw [← hs2]; exact run_string_add_sum (P := Tryd.prog) (w := wx) a ⟨#[58]⟩ (by show a.size + 1 ≤ _; omega)
            obtain ⟨S9, hS9⟩ : ∃ S9 : ByteArray, s2 ++ S1 = S9 := ⟨_, rfl⟩
            have p2 : ∀ wx, (Op.stringOp .add s2 S1).run Tryd.prog wx = .ok (.string S9) wx := fun wx => by rw [← hS9]; exact run_string_add_sum (P := Tryd.prog) (w := wx) s2 S1 (by omega)
            have HS9 := Lib.hid (show S9.data.toList = (qS (keys.getD j ⟨#[]⟩).data.toList ++ [58]) ++ S1.data.toList by
              rw [HKY.out, ← hS9, ← hs2, ByteArray.data_append, Array.toList_append, ByteArray.data_append, Array.toList_append, hal])
            clear ha hal hasz hk9 hs2 hs2z hS9 hs1z
            go_wp2_with fail
            refine (HQS.out _).mono ?_
            rintro e w9 ⟨rfl, hb9⟩
            have HO9 := Lib.hid (own_below HO1.out hb9)
            have HB9 := Lib.hid (HB1.out.trans (hb9.mono (by have := HB1.out.size; simp at this; omega)))
            clear hb9 kc
            go_wp2_with (at_builtin; refine wpList_append_own _ rfl _ _ 23 rfl (w.heap.size + 1) 9 i0 (.string .empty) 1 16 Tryd.underlying23 hi hz0 hz1 hz2 rfl (by decide) _ _ _ rfl (HO9.out.alloc _) ⟨w9.heap.size, 0, none⟩ 1 1 [.string S9] rfl rfl ?a1 ?a2 ?a3 ?a4 ?a5 ?_)
            case a1 => first | exact fun j u h => news1 w9 _ _ _ rfl j u h | (intro j u h; exact news1 w9 _ _ _ rfl j u h)
            case a2 => intro u hu; simp at hu; subst hu; rfl
            case a3 => unfold maxLen; omega
            case a4 => omega
            case a5 => have := HB9.out.size; simp at this ⊢; omega
            intro v2 w2 hown2 hgrow2 _
            have hbb := (HB9.out.alloc (by have := HB9.out.size; simp at this; omega) _).grown hgrow2 (by have := HB9.out.size; simp at this ⊢; omega) (fun g hg => (HO9.out.lt g hg).1)
            have HO2 := Lib.hid hown2
            have HB2 := Lib.hid hbb
            clear hown2 hgrow2 hbb
            go_wp2_with fail
            go_roundw
            case rel => exact ⟨j + 1, xs ++ [S9], _, rfl, by omega, by go_num, by have := HO2.out; rw [List.map_append]; exact this, by rw [HE2.out, ← HQ.out]; rfl, by rw [HE2.out, ← HPS.out, List.map_append, List.append_assoc]; rw [HPC.out]; simp [HS9.out, HS1.out], by rw [List.length_append]; simp [hxl], HB2.out⟩
            case measure => simp [intOf]; omega
          · have HKY := Lib.hid (show keys.getD j ⟨#[]⟩ = (⟨#[]⟩ : ByteArray) by
              have hlk : keys.length ≤ j := by rw [← HKL.out]; omega
              rw [List.getD_eq_getElem?_getD, List.getElem?_eq_none hlk]; rfl)
            obtain ⟨a, ha⟩ : ∃ a : ByteArray, ⟨(qS (⟨#[]⟩ : ByteArray).data.toList).toArray⟩ = a := ⟨_, rfl⟩
            have hal : a.data.toList = qS (⟨#[]⟩ : ByteArray).data.toList := by rw [← ha]
            have hasz : a.size ≤ 6 * (⟨#[]⟩ : ByteArray).size + 2 := by
              have h4 := qS_len (⟨#[]⟩ : ByteArray).data.toList
              have h5 : (⟨#[]⟩ : ByteArray).data.toList.length = (⟨#[]⟩ : ByteArray).size := Array.length_toList
              have h6 : a.data.toList.length = a.size := Array.length_toList
              rw [← h6, hal]; omega
            have hk9 := HKZ.out
            rw [HKY.out] at hk9
            have HQS := Lib.hid (fun wX => ha ▸ quoteStr_any ⟨#[]⟩ wX (by omega))
            obtain ⟨s2, hs2⟩ : ∃ s2 : ByteArray, a ++ ⟨#[58]⟩ = s2 := ⟨_, rfl⟩
            have hs2z : s2.size = a.size + 1 := by rw [← hs2, ByteArray.size_append]; rfl
            have p1 : ∀ wx, (Op.stringOp .add a ⟨#[58]⟩).run Tryd.prog wx = .ok (.string s2) wx := fun wx => by rw [← hs2]; exact run_string_add_sum (P := Tryd.prog) (w := wx) a ⟨#[58]⟩ (by show a.size + 1 ≤ _; omega)
            obtain ⟨S9, hS9⟩ : ∃ S9 : ByteArray, s2 ++ S1 = S9 := ⟨_, rfl⟩
            have p2 : ∀ wx, (Op.stringOp .add s2 S1).run Tryd.prog wx = .ok (.string S9) wx := fun wx => by rw [← hS9]; exact run_string_add_sum (P := Tryd.prog) (w := wx) s2 S1 (by omega)
            have HS9 := Lib.hid (show S9.data.toList = (qS (keys.getD j ⟨#[]⟩).data.toList ++ [58]) ++ S1.data.toList by
              rw [HKY.out, ← hS9, ← hs2, ByteArray.data_append, Array.toList_append, ByteArray.data_append, Array.toList_append, hal])
            clear ha hal hasz hk9 hs2 hs2z hS9 hs1z
            go_wp2_with fail
            refine (HQS.out _).mono ?_
            rintro e w9 ⟨rfl, hb9⟩
            have HO9 := Lib.hid (own_below HO1.out hb9)
            have HB9 := Lib.hid (HB1.out.trans (hb9.mono (by have := HB1.out.size; simp at this; omega)))
            clear hb9 kc
            go_wp2_with (at_builtin; refine wpList_append_own _ rfl _ _ 23 rfl (w.heap.size + 1) 9 i0 (.string .empty) 1 16 Tryd.underlying23 hi hz0 hz1 hz2 rfl (by decide) _ _ _ rfl (HO9.out.alloc _) ⟨w9.heap.size, 0, none⟩ 1 1 [.string S9] rfl rfl ?a1 ?a2 ?a3 ?a4 ?a5 ?_)
            case a1 => first | exact fun j u h => news1 w9 _ _ _ rfl j u h | (intro j u h; exact news1 w9 _ _ _ rfl j u h)
            case a2 => intro u hu; simp at hu; subst hu; rfl
            case a3 => unfold maxLen; omega
            case a4 => omega
            case a5 => have := HB9.out.size; simp at this ⊢; omega
            intro v2 w2 hown2 hgrow2 _
            have hbb := (HB9.out.alloc (by have := HB9.out.size; simp at this; omega) _).grown hgrow2 (by have := HB9.out.size; simp at this ⊢; omega) (fun g hg => (HO9.out.lt g hg).1)
            have HO2 := Lib.hid hown2
            have HB2 := Lib.hid hbb
            clear hown2 hgrow2 hbb
            go_wp2_with fail
            go_roundw
            case rel => exact ⟨j + 1, xs ++ [S9], _, rfl, by omega, by go_num, by have := HO2.out; rw [List.map_append]; exact this, by rw [HE2.out, ← HQ.out]; rfl, by rw [HE2.out, ← HPS.out, List.map_append, List.append_assoc]; rw [HPC.out]; simp [HS9.out, HS1.out], by rw [List.length_append]; simp [hxl], HB2.out⟩
            case measure => simp [intOf]; omega
        · have HQ := Lib.hid hQ
          clear hQ hx hv9 hm9
          rw [if_neg hy] at HCL
          go_wp2_with fail
          refine (HCL.out _ ((Below.refl _ _).alloc hbw.size _)).mono ?_
          rintro e w1 ⟨rfl, hb1⟩
          have hb2 := hbw.trans (((Below.refl _ wr).alloc hbw.size _).trans (hb1.mono (Nat.le_trans hbw.size (by simp))))
          clear hb1
          go_wp2_with fail
          go_ret2
          have hyy : y = y1 := by rw [HVE.out, if_neg (by omega), ← HQ.out, if_pos hy]
          exact ⟨ret_z hyy (HZ0.out (by rw [hyy]; exact hy)), hb2⟩
      · obtain rfl : j = n1 := by omega
        have hd9 : items.drop j = .nil := by rw [HNL.out, Vals.drop_len]
        rw [hd9] at hx hps
        have hq0 : items.qe (d + 1) = 0 := hx.symm
        have hps2 : xs.map (·.data.toList) = items.qps true keys 0 := by rw [← hps]; simp [Vals.qps]
        have hjn : Lib.join (xs.map (·.data.toList)) [44] = items.qt true keys 0 := by rw [hps2, qps_join]
        have HY := Lib.hid (show y = 0 by rw [HVE.out, if_neg (by omega), hq0])
        obtain ⟨J, hJ⟩ : ∃ J : ByteArray, ⟨(Lib.join (xs.map (·.data.toList)) (ByteArray.mk #[44]).data.toList).toArray⟩ = J := ⟨_, rfl⟩
        have hJl : J.data.toList = items.qt true keys 0 := by rw [← hJ]; exact hjn
        have hJs : J.size ≤ 140737488355328 := by
          have h6 : J.data.toList.length = J.size := Array.length_toList
          rw [← h6, hJl]; exact HJL.out
        obtain ⟨r1, hr1⟩ : ∃ r1 : ByteArray, ⟨#[123]⟩ ++ J = r1 := ⟨_, rfl⟩
        have hr1z : r1.size = J.size + 1 := by rw [← hr1, ByteArray.size_append]; show 1 + J.size = _; omega
        have p1 : ∀ wx, (Op.stringOp .add ⟨#[123]⟩ J).run Tryd.prog wx = .ok (.string r1) wx := fun wx => by rw [← hr1]; exact run_string_add_sum (P := Tryd.prog) (w := wx) ⟨#[123]⟩ J (by show 1 + J.size ≤ _; omega)
        obtain ⟨r2, hr2⟩ : ∃ r2 : ByteArray, r1 ++ ⟨#[125]⟩ = r2 := ⟨_, rfl⟩
        have p2 : ∀ wx, (Op.stringOp .add r1 ⟨#[125]⟩).run Tryd.prog wx = .ok (.string r2) wx := fun wx => by rw [← hr2]; exact run_string_add_sum (P := Tryd.prog) (w := wx) r1 ⟨#[125]⟩ (by show r1.size + 1 ≤ _; omega)
        have HR2 := Lib.hid (show r2 = ⟨L.toArray⟩ from ba_list (by
          rw [← hr2, ← hr1, ByteArray.data_append, Array.toList_append, ByteArray.data_append, Array.toList_append, hJl, HVT.out]; simp))
        have hJB : Hid (∀ wX, wX = wr → Calls Tryd.prog 19 #[v0, .string ⟨#[44]⟩] wX fun e w' => e = .returned (.string J) ∧ Below w.heap.size wX w') := Lib.hid (by
          intro wX hwX
          subst hwX
          by_cases h0 : j = 0
          · subst h0
            obtain ⟨ao, cp, rfl⟩ := qown0 hown
            refine (Tryd.strings_Join_none ao cp ⟨#[44]⟩ _).mono ?_
            rintro e w' ⟨rfl, rfl⟩
            have hxn : xs = [] := List.eq_nil_of_length_eq_zero hxl
            exact ⟨by rw [← hJ, hxn]; rfl, Below.refl _ _⟩
          · obtain ⟨g, cap, rfl, hg1, hg2⟩ := hown.form (by omega)
            have hcap : j ≤ cap := by
              rcases hown.2 with ⟨hv, _⟩ | ⟨g', cap', cur, hv, _, _, _, hh, _⟩
              · cases hv
              · cases hv; first | exact hh | omega
            have hh := Tryd.strings_Join g 0 cap xs ⟨#[44]⟩ _ (fun q x hq => by
              rw [Nat.zero_add, hown.cellAt q (by have := (List.getElem?_eq_some_iff.1 hq).1; omega), List.getElem?_map, hq]; rfl) hg2 (by omega) (by omega) (by have := HJL.out; rw [show (ByteArray.mk #[44]).data.toList = [44] from rfl, hjn]; exact this)
            rw [hxl] at hh
            refine hh.mono ?_
            rintro e w' ⟨rfl, hb⟩
            exact ⟨by rw [hJ], hb.mono hbw.size⟩)
        obtain ⟨y0, y1, y2, y3, y4, y5⟩ := HG.out _ hbx
        clear hown hx hps hps2 hjn hJ hJl hJs hr1 hr1z hr2 hq0 hd9 hbx
        obtain ⟨ao, cp, rfl⟩ : ∃ ao cp, v0 = .slice ao j cp := by
          rcases HO.out.2 with ⟨rfl, h⟩ | ⟨g, cap, cur, rfl, _⟩
          · exact ⟨_, _, by rw [h]⟩
          · exact ⟨_, _, rfl⟩
        go_wp2_with fail
        refine (hJB.out _ rfl).mono ?_
        rintro e w3 ⟨rfl, hb3⟩
        have hb4 := hbw.trans hb3
        clear hb3
        go_wp2_with fail
        go_ret2
        exact ⟨ret_z HY.out ((HZ1.out HY.out).trans HR2.out.symm), hb4⟩

theorem quotedR_any (N : Nat) : ∀ (k : Int) (bo : Bool) (i : Int) (t : ByteArray) (items : Vals) (keys : List ByteArray) (d : Int), items.nodes ≤ N → 0 ≤ d → d ≤ 13 → RVal k bo i t items keys d := by
  induction N with
  | zero =>
    intro k bo i t items keys d hN hd0 hd
    have hno : ∀ (j : Nat) (k : Int) (bo : Bool) (i : Int) (t : ByteArray) (it : Vals) (ks : List ByteArray) (rest : Vals), items.drop j = .cons k bo i t it ks rest → d ≤ 12 → RVal k bo i t it ks (d + 1) := fun j k' bo' i' t' it ks r he _ => by
      have h1 := Vals.nodes_drop j items
      rw [he] at h1
      simp only [Vals.nodes] at h1
      omega
    by_cases h5 : k = 5
    · subst h5; exact rnest5_gen bo i t items keys d hd0 hd hno
    · by_cases h6 : k = 6
      · subst h6; exact rnest6_gen bo i t items keys d hd0 hd hno
      · exact rleaf_any k bo i t items keys d h5 h6
  | succ N ih =>
    intro k bo i t items keys d hN hd0 hd
    have hno : ∀ (j : Nat) (k : Int) (bo : Bool) (i : Int) (t : ByteArray) (it : Vals) (ks : List ByteArray) (rest : Vals), items.drop j = .cons k bo i t it ks rest → d ≤ 12 → RVal k bo i t it ks (d + 1) := fun j k' bo' i' t' it ks r he h12 => by
      have h1 := Vals.nodes_drop j items
      rw [he] at h1
      simp only [Vals.nodes] at h1
      exact ih k' bo' i' t' it ks (d + 1) (by omega) (by omega) (by omega)
    by_cases h5 : k = 5
    · subst h5; exact rnest5_gen bo i t items keys d hd0 hd hno
    · by_cases h6 : k = 6
      · subst h6; exact rnest6_gen bo i t items keys d hd0 hd hno
      · exact rleaf_any k bo i t items keys d h5 h6
end Go.Proofs.YtfgekmfkaepgjaaDoor
