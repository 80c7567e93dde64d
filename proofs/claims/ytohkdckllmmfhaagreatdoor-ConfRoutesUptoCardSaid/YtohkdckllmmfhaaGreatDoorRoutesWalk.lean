/- DERIVED. What the visit of conf's routes does at every value, by induction, and what routes returns. Condition: at most 2^40 values; the library's table of powers of ten is as laid. -/
import Derived.Test.YtohkdckllmmfhaaGreatDoorRoutesVisit
import Derived.Laws.EntriesVeiled
set_option linter.unusedSimpArgs false
set_option linter.unusedVariables false
namespace Go.Proofs.YtohkdckllmmfhaaGreatDoor
open Go.RowKit
/-- What the loop keeps. -/
structure VisIn (B q : Nat) (m : List ByteArray) (v u : Value) (s : Sv) (w wr : World) : Prop where
  box : Box B q m u wr
  kept : Wr q v u w wr
  self : wr.heap[w.heap.size]? = some s.box
  ne : u.ownBlock ≠ some w.heap.size
  size : w.heap.size + 1 ≤ wr.heap.size
theorem VisIn.start {B q : Nat} {l : List ByteArray} {v : Value} {s : Sv} {w : World} (h : Box B q l v w) : VisIn B q l v v s w (w.alloc s.box) :=
  ⟨h.below ((Below.refl _ _).alloc (Nat.le_refl _) _), Wr.of_below ((Below.refl _ _).alloc (Nat.le_refl _) _), svNew w s, (fun e => by have := (h.row.lt _ e).2; omega), by simp⟩
theorem VisIn.below {B q : Nat} {m : List ByteArray} {v u : Value} {s : Sv} {w wr wX : World} (h : VisIn B q m v u s w wr) (hb : Below wr.heap.size wr wX) : VisIn B q m v u s w wX :=
  ⟨h.box.below hb, h.kept.trans (Wr.of_below hb), (hb.block _ (by have := h.size; omega)).trans h.self, h.ne, Nat.le_trans h.size hb.size⟩
theorem VisIn.call {B q : Nat} {m m' : List ByteArray} {v u u' : Value} {s : Sv} {w wr w' : World} (h : VisIn B q m v u s w wr) (hq : q < w.heap.size) (hb : Box B q m' u' w') (hw : Wr q u u' wr w') : VisIn B q m' v u' s w w' :=
  ⟨hb, h.kept.trans hw, (hw.block _ (by have := h.size; omega) (by omega) h.ne).trans h.self, (fun e => (hw.own _ e).elim h.ne (fun h1 => by have := h.size; omega)), Nat.le_trans h.size hw.size⟩
set_option maxRecDepth 100000 in
set_option maxHeartbeats 3200000 in
theorem visit_any (B q qv : Nat) (N : Nat) : ∀ (s : Sv) (r : ByteArray) (l : List ByteArray) (v : Value) (w : World), s.items.nodes < N → l.length + s.items.nodes + 1 ≤ 1099511627776 → B ≤ w.heap.size → Asked B s r w → PowT B w → Box B q l v w →
    w.cell? ⟨qv, 0, none⟩ = some (visF q qv) → qv ≠ q → v.ownBlock ≠ some qv →
    Calls Tryz.prog 67 #[s.val, .string r, .pointer (some ⟨q, 0, none⟩), .pointer (some ⟨qv, 0, none⟩)] w (VisPost B q (l ++ routesV s.k s.items s.keys r) v w) := by
  induction N with
  | zero => intro s r l v w h; omega
  | succ N ih =>
    intro s r l v w hN hbig hB ha hp hbx hqc hqq hqv
    by_cases hlen : s.items.len = 0
    · unfold routesV
      rw [if_pos hlen]
      exact visit_nil s r B q qv l v w hB ha hlen (by omega) hbx
    · unfold routesV
      rw [if_neg hlen]
      have IH := Lib.hid ih; clear ih
      have HA := Lib.hid ha
      have HP := Lib.hid hp
      have HBX := Lib.hid hbx
      have HST := Lib.hid (VisIn.start (s := s) hbx)
      have hql : q < w.heap.size := hbx.lt
      have hqvl : qv < w.heap.size := World.block_lt_of_cell? w _ hqc
      have HN := Lib.hid ha.ok.at_.len_eq
      have hnc := ha.ok.nc1
      have hcm := ha.ok.cm1
      unfold maxLen at hcm
      have hn1 : ¬ (s.n1 : Int) = 0 := by rw [HN.out]; omega
      have hn0 : ((s.n1 : Int) == 0) = false := by simpa using hn1
      obtain ⟨b, off, hA1, hbB⟩ := ha.ok.at_.base (by rw [HN.out]; omega)
      have HQC := Lib.hid hqc
      have hgood := HA.out.fine.good HA.out.ok (Nat.le_refl _)
      have HG := Lib.hid hgood
      have hnd : s.items.nodes ≤ 1099511627776 := by omega
      clear ha hp hbx hqc hgood
      obtain ⟨y0, y1, y2, y3, y4, y5⟩ := svCells (svNew w s)
      unfold Sv.box at y0 y1 y2 y3 y4 y5
      rw [hA1] at y4
      unfold Sv.val
      rw [hA1]
      have HST' := HST.out
      unfold Sv.box at HST'
      rw [hA1] at HST'
      have hs0 := HST.out
      go_enter Tryz.func67, Tryz.ntmps67
      go_wp2_with fail
      go_loopw [19] (fun i wr => ∃ (k : Nat) (m : List ByteArray) (u : Value), k ≤ s.n1 ∧ i = .int .i64 k ∧ l ++ s.items.paths s.k s.keys r 0 = m ++ (s.items.drop k).paths s.k s.keys r k ∧ m.length + (s.items.drop k).nodes + 1 ≤ 1099511627776 ∧ VisIn B q m v u s w wr) (fun i _ => s.n1 - (intOf i).toNat)
      case atStart => exact ⟨0, l, v, Nat.zero_le _, rfl, by rw [Vals.drop_zero], by rw [Vals.drop_zero]; exact hbig, by first | exact hs0 | (unfold Sv.box at hs0; rw [hA1] at hs0; exact hs0)⟩
      case round =>
        obtain ⟨k, m, u, hk, rfl, hx, hpot, hin⟩ := hrel
        have HIN := Lib.hid hin
        have HX := Lib.hid hx
        clear hin hx hs0 HST HST' y0 y1 y2 y3 y4 y5
        by_cases hlt : k < s.n1
        · obtain ⟨b', off', k1, bo1, i1, t1, B1, m1, d1, B2, m2, d2, it, ks, rest, hA1', e1, e2, E⟩ := HA.out.ok.at_.el k hlt
          rw [hA1] at hA1'
          cases hA1'
          have hbw : Below B w wr := HIN.out.kept.below HBX.out hB
          obtain ⟨hlb, x0, x1, x2, x3, x4, x5, hokE⟩ := E.below hbw
          have hS := HIN.out.size
          have hqvw : wr.cell? ⟨qv, 0, none⟩ = some (visF q qv) := (World.cell?_of_block (HIN.out.kept.block qv hqvl hqq hqv)).trans HQC.out
          have huv : u.ownBlock ≠ some qv := fun e => (HIN.out.kept.own _ e).elim hqv (fun h => by omega)
          have hnd1 := Vals.nodes_drop k s.items
          have hx := HX.out
          rw [Vals.paths_cons e1 s.k s.keys r] at hx
          rw [e1] at hpot hnd1
          simp only [Vals.nodes] at hpot hnd1
          have hpsz := partV_size (k := s.k) (j := k) HG.out.2.1 (by have := HN.out; have := Vals.len_le s.items; omega)
          have hnsz := dotJ_size r (partV s.k s.keys k)
          have hrsz := HA.out.size
          have hfe : Fine (Sv.mk k1 bo1 i1 t1 B1 m1 d1 B2 m2 d2 it ks).row 1099511627776 := by
            have h1 := Vals.drop_err k s.items (valErr_of HA.out.fine.err).2.1
            rw [e1] at h1
            obtain ⟨g1, g2, _⟩ := valErr_of h1
            refine ⟨?_, ?_⟩
            · show (Vals.cons k1 bo1 i1 t1 it ks .nil).err leS = 0
              unfold Vals.err
              rw [if_neg (by rw [g1]; simp), if_neg (by rw [g2]; simp)]
              rfl
            · show it.nodes + 0 + 1 ≤ _
              omega
          have HPT := Lib.hid (fun wX (hX : Below (wr.heap.size + 1) (wr.alloc (Sv.mk k1 bo1 i1 t1 B1 m1 d1 B2 m2 d2 it ks).box) wX) => partTo_any s k wX ((HA.out.ok.below (hbw.trans (((Below.refl _ _).alloc (by omega) _).trans (hX.mono (by omega))))).more (by have := hX.size; simp at this; omega)) (by have := HN.out; have := Vals.len_le s.items; omega) (fun h6 => by rw [HG.out.1.many h6, ← HN.out]; exact hlt) HG.out.2.2 (fun w' h' => HP.out w' (hbw.trans (((Below.refl _ _).alloc (by omega) _).trans ((hX.mono (by omega)).trans (h'.mono (by have := hX.size; simp at this; omega)))))))
          have HLG := Lib.hid (fun wX => longer_any r (partV s.k s.keys k) wX (by omega) (by omega))
          generalize partV s.k s.keys k = part at HPT HLG hx hpsz hnsz
          have hns : (dotJ r part).size + 64 * it.nodes ≤ 1099511627776 := by omega
          generalize dotJ r part = nr at HLG hx hnsz hns
          have hrl := routesV_len k1 it ks nr
          have HVC := Lib.hid (fun wX (hX : Below (wr.heap.size + 1) (wr.alloc (Sv.mk k1 bo1 i1 t1 B1 m1 d1 B2 m2 d2 it ks).box) wX) => IH.out (Sv.mk k1 bo1 i1 t1 B1 m1 d1 B2 m2 d2 it ks) nr m u wX (by show it.nodes < N; omega) (by show m.length + it.nodes + 1 ≤ _; omega) (by have := hX.size; simp at this; omega)
            ⟨VOk.below (((Below.refl _ _).alloc (by omega) _).trans (hX.mono (by omega))) hokE, hfe, hns⟩ ((HP.out).on (hbw.trans (((Below.refl _ _).alloc (by omega) _).trans (hX.mono (by omega)))))
            (HIN.out.box.below (((Below.refl _ _).alloc (Nat.le_refl _) _).trans (hX.mono (by omega)))) ((hX.cell (p := ⟨qv, 0, none⟩) (show qv < wr.heap.size + 1 by omega)).trans ((((Below.refl _ _).alloc (Nat.le_refl _) _).cell (p := ⟨qv, 0, none⟩) (show qv < wr.heap.size by omega)).trans hqvw)) hqq huv)
          have hself : ∀ wX : World, wX.heap[w.heap.size]? = some s.box → wX.heap[wr.heap.size]? = some (Sv.mk k1 bo1 i1 t1 B1 m1 d1 B2 m2 d2 it ks).box → wX.cell? ⟨qv, 0, none⟩ = some (visF q qv) → wX.cell? ⟨qv, 0, none⟩ = some (.func (.func 67) #[] #[.pointer (some ⟨q, 0, none⟩), .pointer (some ⟨qv, 0, none⟩)]) ∧ wX.cell? ⟨w.heap.size, 0, none⟩ = some (.int .i64 s.k) ∧ wX.cell? ⟨w.heap.size, 1, none⟩ = some (.bool s.bo) ∧ wX.cell? ⟨w.heap.size, 2, none⟩ = some (.int .i64 s.i) ∧ wX.cell? ⟨w.heap.size, 3, none⟩ = some (.string s.t) ∧ wX.cell? ⟨w.heap.size, 4, none⟩ = some (.slice (some ⟨b, off, none⟩) s.n1 s.c1) ∧ wX.cell? ⟨w.heap.size, 5, none⟩ = some (.slice s.A2 s.n2 s.c2) ∧ wX.cell? ⟨wr.heap.size, 0, none⟩ = some (.int .i64 k1) ∧ wX.cell? ⟨wr.heap.size, 1, none⟩ = some (.bool bo1) ∧ wX.cell? ⟨wr.heap.size, 2, none⟩ = some (.int .i64 i1) ∧ wX.cell? ⟨wr.heap.size, 3, none⟩ = some (.string t1) ∧ wX.cell? ⟨wr.heap.size, 4, none⟩ = some (.slice B1 m1 d1) ∧ wX.cell? ⟨wr.heap.size, 5, none⟩ = some (.slice B2 m2 d2) := fun wX h1 h2 h3 => by
            obtain ⟨a0, a1, a2, a3, a4, a5⟩ := svCells h1
            obtain ⟨b0, b1, b2, b3, b4, b5⟩ := svCells h2
            rw [hA1] at a4
            exact ⟨h3, a0, a1, a2, a3, a4, a5, b0, b1, b2, b3, b4, b5⟩
          have hwo : Below wr.heap.size wr (wr.alloc (Obj.cells #[.int .i64 k1, .bool bo1, .int .i64 i1, .string t1, .slice B1 m1 d1, .slice B2 m2 d2] 25)) := (Below.refl _ _).alloc (Nat.le_refl _) _
          have hSall : ∀ wX, Below (wr.heap.size + 1) (wr.alloc (Obj.cells #[.int .i64 k1, .bool bo1, .int .i64 i1, .string t1, .slice B1 m1 d1, .slice B2 m2 d2] 25)) wX → wX.cell? ⟨qv, 0, none⟩ = some (.func (.func 67) #[] #[.pointer (some ⟨q, 0, none⟩), .pointer (some ⟨qv, 0, none⟩)]) ∧ wX.cell? ⟨w.heap.size, 0, none⟩ = some (.int .i64 s.k) ∧ wX.cell? ⟨w.heap.size, 1, none⟩ = some (.bool s.bo) ∧ wX.cell? ⟨w.heap.size, 2, none⟩ = some (.int .i64 s.i) ∧ wX.cell? ⟨w.heap.size, 3, none⟩ = some (.string s.t) ∧ wX.cell? ⟨w.heap.size, 4, none⟩ = some (.slice (some ⟨b, off, none⟩) s.n1 s.c1) ∧ wX.cell? ⟨w.heap.size, 5, none⟩ = some (.slice s.A2 s.n2 s.c2) ∧ wX.cell? ⟨wr.heap.size, 0, none⟩ = some (.int .i64 k1) ∧ wX.cell? ⟨wr.heap.size, 1, none⟩ = some (.bool bo1) ∧ wX.cell? ⟨wr.heap.size, 2, none⟩ = some (.int .i64 i1) ∧ wX.cell? ⟨wr.heap.size, 3, none⟩ = some (.string t1) ∧ wX.cell? ⟨wr.heap.size, 4, none⟩ = some (.slice B1 m1 d1) ∧ wX.cell? ⟨wr.heap.size, 5, none⟩ = some (.slice B2 m2 d2) := fun wX hX =>
            hself wX ((hX.block _ (by omega)).trans ((hwo.block _ (by omega)).trans HIN.out.self)) ((hX.block _ (by omega)).trans (svNew wr (Sv.mk k1 bo1 i1 t1 B1 m1 d1 B2 m2 d2 it ks))) ((hX.cell (p := ⟨qv, 0, none⟩) (show qv < wr.heap.size + 1 by omega)).trans ((hwo.cell (p := ⟨qv, 0, none⟩) (show qv < wr.heap.size by omega)).trans hqvw))
          have hPT : ∀ wX, Below (wr.heap.size + 1) (wr.alloc (Obj.cells #[.int .i64 k1, .bool bo1, .int .i64 i1, .string t1, .slice B1 m1 d1, .slice B2 m2 d2] 25)) wX → Calls Tryz.prog 69 #[.agg #[.int .i64 s.k, .bool s.bo, .int .i64 s.i, .string s.t, .slice (some ⟨b, off, none⟩) s.n1 s.c1, .slice s.A2 s.n2 s.c2], .int .i64 k] wX fun e w' => e = .returned (.string part) ∧ Hid (Below (wr.heap.size + 1) (wr.alloc (Obj.cells #[.int .i64 k1, .bool bo1, .int .i64 i1, .string t1, .slice B1 m1 d1, .slice B2 m2 d2] 25)) w') ∧ w'.cell? ⟨qv, 0, none⟩ = some (.func (.func 67) #[] #[.pointer (some ⟨q, 0, none⟩), .pointer (some ⟨qv, 0, none⟩)]) ∧ w'.cell? ⟨w.heap.size, 0, none⟩ = some (.int .i64 s.k) ∧ w'.cell? ⟨w.heap.size, 1, none⟩ = some (.bool s.bo) ∧ w'.cell? ⟨w.heap.size, 2, none⟩ = some (.int .i64 s.i) ∧ w'.cell? ⟨w.heap.size, 3, none⟩ = some (.string s.t) ∧ w'.cell? ⟨w.heap.size, 4, none⟩ = some (.slice (some ⟨b, off, none⟩) s.n1 s.c1) ∧ w'.cell? ⟨w.heap.size, 5, none⟩ = some (.slice s.A2 s.n2 s.c2) ∧ w'.cell? ⟨wr.heap.size, 0, none⟩ = some (.int .i64 k1) ∧ w'.cell? ⟨wr.heap.size, 1, none⟩ = some (.bool bo1) ∧ w'.cell? ⟨wr.heap.size, 2, none⟩ = some (.int .i64 i1) ∧ w'.cell? ⟨wr.heap.size, 3, none⟩ = some (.string t1) ∧ w'.cell? ⟨wr.heap.size, 4, none⟩ = some (.slice B1 m1 d1) ∧ w'.cell? ⟨wr.heap.size, 5, none⟩ = some (.slice B2 m2 d2) := fun wX hX => by
            have h1 := HPT.out wX hX
            unfold Sv.val at h1
            rw [hA1] at h1
            refine h1.mono ?_
            rintro e w' ⟨rfl, hb⟩
            have hb' := hX.trans (hb.mono (by have := hX.size; simp at this; omega))
            exact ⟨rfl, hb', hSall _ hb'⟩
          have hVC : ∀ wX, Below (wr.heap.size + 1) (wr.alloc (Obj.cells #[.int .i64 k1, .bool bo1, .int .i64 i1, .string t1, .slice B1 m1 d1, .slice B2 m2 d2] 25)) wX → Calls Tryz.prog 67 #[.agg #[.int .i64 k1, .bool bo1, .int .i64 i1, .string t1, .slice B1 m1 d1, .slice B2 m2 d2], .string nr, .pointer (some ⟨q, 0, none⟩), .pointer (some ⟨qv, 0, none⟩)] wX fun e w' => e = .returned (.tuple #[]) ∧ Hid (∃ u2, VisIn B q (m ++ routesV k1 it ks nr) v u2 s w w') ∧ w'.cell? ⟨qv, 0, none⟩ = some (.func (.func 67) #[] #[.pointer (some ⟨q, 0, none⟩), .pointer (some ⟨qv, 0, none⟩)]) ∧ w'.cell? ⟨w.heap.size, 0, none⟩ = some (.int .i64 s.k) ∧ w'.cell? ⟨w.heap.size, 1, none⟩ = some (.bool s.bo) ∧ w'.cell? ⟨w.heap.size, 2, none⟩ = some (.int .i64 s.i) ∧ w'.cell? ⟨w.heap.size, 3, none⟩ = some (.string s.t) ∧ w'.cell? ⟨w.heap.size, 4, none⟩ = some (.slice (some ⟨b, off, none⟩) s.n1 s.c1) ∧ w'.cell? ⟨w.heap.size, 5, none⟩ = some (.slice s.A2 s.n2 s.c2) ∧ w'.cell? ⟨wr.heap.size, 0, none⟩ = some (.int .i64 k1) ∧ w'.cell? ⟨wr.heap.size, 1, none⟩ = some (.bool bo1) ∧ w'.cell? ⟨wr.heap.size, 2, none⟩ = some (.int .i64 i1) ∧ w'.cell? ⟨wr.heap.size, 3, none⟩ = some (.string t1) ∧ w'.cell? ⟨wr.heap.size, 4, none⟩ = some (.slice B1 m1 d1) ∧ w'.cell? ⟨wr.heap.size, 5, none⟩ = some (.slice B2 m2 d2) := fun wX hX => by
            refine (HVC.out wX hX).mono ?_
            rintro e w' ⟨rfl, u2, hb2, hw2⟩
            have hbX : Below wr.heap.size wr wX := hwo.trans (hX.mono (by omega))
            have hin2 := (HIN.out.below hbX).call hql hb2 hw2
            have hwX : wr.heap.size < wX.heap.size := by have := hX.size; simp at this; omega
            refine ⟨rfl, ⟨u2, hin2⟩, hself _ hin2.self ((hw2.block _ hwX (by omega) (fun e => by have := (HIN.out.box.row.lt _ e).2; omega)).trans ((hX.block _ (by omega)).trans (svNew wr (Sv.mk k1 bo1 i1 t1 B1 m1 d1 B2 m2 d2 it ks)))) ?_⟩
            exact (World.cell?_of_block (hw2.block _ (by show qv < _; omega) hqq huv)).trans ((hX.cell (p := ⟨qv, 0, none⟩) (show qv < wr.heap.size + 1 by omega)).trans ((hwo.cell (p := ⟨qv, 0, none⟩) (show qv < wr.heap.size by omega)).trans hqvw))
          have HS0 := Lib.hid (hSall _ (Below.refl _ _))
          obtain ⟨vc, va0, va1, va2, va3, va4, va5, vb0, vb1, vb2, vb3, vb4, vb5⟩ := HS0.out
          have HI0 := Lib.hid (Below.refl (wr.heap.size + 1) (wr.alloc (Obj.cells #[.int .i64 k1, .bool bo1, .int .i64 i1, .string t1, .slice B1 m1 d1, .slice B2 m2 d2] 25)))
          have HP1 := Lib.hid hPT
          have HV1 := Lib.hid hVC
          have HX2 := Lib.hid hx
          have HE2 := Lib.hid e2
          have HA1 := Lib.hid hA1
          have hsc := (HIN.out.self)
          obtain ⟨y0, y1, y2, y3, y4, y5⟩ := svCells hsc
          rw [hA1] at y4
          clear hself hwo hSall hPT hVC hx e1 e2 hA1 hsc hfe hokE hnsz hpsz hqvw huv E hqv
          go_upto_region 6 with (fail)
          have hi1 := HI0.out
          go_region_held3 (fun w' => w'.cell? ⟨qv, 0, none⟩ = some (.func (.func 67) #[] #[.pointer (some ⟨q, 0, none⟩), .pointer (some ⟨qv, 0, none⟩)]) ∧ w'.cell? ⟨w.heap.size, 0, none⟩ = some (.int .i64 s.k) ∧ w'.cell? ⟨w.heap.size, 1, none⟩ = some (.bool s.bo) ∧ w'.cell? ⟨w.heap.size, 2, none⟩ = some (.int .i64 s.i) ∧ w'.cell? ⟨w.heap.size, 3, none⟩ = some (.string s.t) ∧ w'.cell? ⟨w.heap.size, 4, none⟩ = some (.slice (some ⟨b, off, none⟩) s.n1 s.c1) ∧ w'.cell? ⟨w.heap.size, 5, none⟩ = some (.slice s.A2 s.n2 s.c2) ∧ w'.cell? ⟨wr.heap.size, 0, none⟩ = some (.int .i64 k1) ∧ w'.cell? ⟨wr.heap.size, 1, none⟩ = some (.bool bo1) ∧ w'.cell? ⟨wr.heap.size, 2, none⟩ = some (.int .i64 i1) ∧ w'.cell? ⟨wr.heap.size, 3, none⟩ = some (.string t1) ∧ w'.cell? ⟨wr.heap.size, 4, none⟩ = some (.slice B1 m1 d1) ∧ w'.cell? ⟨wr.heap.size, 5, none⟩ = some (.slice B2 m2 d2))
            (first
              | with_reducible exact ⟨uc, ua0, ua1, ua2, ua3, ua4, ua5, ub0, ub1, ub2, ub3, ub4, ub5⟩
              | exact ⟨vc, va0, va1, va2, va3, va4, va5, vb0, vb1, vb2, vb3, vb4, vb5⟩)
            (first
              | (go_at_call 69; with_reducible refine Calls.mono (HP1.out _ (by exact hi1.drew)) ?_; rintro e w5 ⟨rfl, HB5, uc, ua0, ua1, ua2, ua3, ua4, ua5, ub0, ub1, ub2, ub3, ub4, ub5⟩)
              | (go_at_call 68; with_reducible refine Calls.mono (HLG.out _) ?_; rintro e w6 ⟨rfl, rfl⟩)
              | (go_at_call 67; with_reducible refine Calls.mono (HV1.out _ HB5.out) ?_; rintro e w7 ⟨rfl, HRES, uc, ua0, ua1, ua2, ua3, ua4, ua5, ub0, ub1, ub2, ub3, ub4, ub5⟩))
          clear uc ua0 ua1 ua2 ua3 ua4 ua5 ub0 ub1 ub2 ub3 ub4 ub5 vc va0 va1 va2 va3 va4 va5 vb0 vb1 vb2 vb3 vb4 vb5 x0 x1 x2 x3 x4 x5 y0 y1 y2 y3 y4 y5 hi1 HB5
          go_wp2_with fail
          go_roundw
          case rel =>
            obtain ⟨u2, hin2⟩ := HRES.out
            refine ⟨k + 1, m ++ routesV k1 it ks nr, u2, by omega, by go_num, ?_, ?_, hin2⟩
            · rw [HE2.out, HX2.out, List.append_assoc]
            · rw [HE2.out, List.length_append]; omega
          case measure => simp [intOf]; omega
        · obtain rfl : k = s.n1 := by omega
          have hd : s.items.drop s.n1 = .nil := by rw [HN.out, Vals.drop_len]
          have hx := HX.out
          rw [hd] at hx
          have HX2 := Lib.hid hx
          clear hx hd hpot
          go_wp2_with fail
          go_end0
          refine ⟨rfl, u, ?_, HIN.out.kept⟩
          rw [HX2.out]
          show Box B q (m ++ []) u _
          rw [List.append_nil]
          exact HIN.out.box
/-- The three boxes of routes: the value, the row, the closure. -/
theorem three (s : Sv) (w w3 : World) (h3 : ((w.alloc s.box).alloc (.cells #[.slice none 0 0] 23)).alloc (.cells #[.nilFunc] 138) = w3) (w4 : World) (h4 : w3.setCell ⟨w.heap.size + 1 + 1, 0, none⟩ (visF (w.heap.size + 1) (w.heap.size + 1 + 1)) = w4) :
    w3.cell? ⟨w.heap.size + 1 + 1, 0, none⟩ = some .nilFunc ∧ w3.frozen? ⟨w.heap.size + 1 + 1, 0, none⟩ = false ∧ w4.heap[w.heap.size]? = some s.box ∧ w4.cell? ⟨w.heap.size + 1 + 1, 0, none⟩ = some (visF (w.heap.size + 1) (w.heap.size + 1 + 1)) ∧
      Box w.heap.size (w.heap.size + 1) [] (.slice none 0 0) w4 ∧ Below w.heap.size w w4 ∧ w4.heap.size = w.heap.size + 3 := by
  subst h3 h4
  have b0 : Below (w.heap.size + 1) (w.alloc s.box) ((w.alloc s.box).alloc (.cells #[.slice none 0 0] 23)) := (Below.refl _ _).alloc (by simp) _
  have b1 : Below (w.heap.size + 2) ((w.alloc s.box).alloc (.cells #[.slice none 0 0] 23)) (((w.alloc s.box).alloc (.cells #[.slice none 0 0] 23)).alloc (.cells #[.nilFunc] 138)) := (Below.refl _ _).alloc (by simp) _
  have e2 : (((w.alloc s.box).alloc (.cells #[.slice none 0 0] 23)).alloc (.cells #[.nilFunc] 138)).heap[w.heap.size + 1 + 1]? = some (.cells #[.nilFunc] 138) := by
    have h := heap_alloc_new ((w.alloc s.box).alloc (.cells #[.slice none 0 0] 23)) (.cells #[.nilFunc] 138)
    simpa using h
  have e1 : ((w.alloc s.box).alloc (.cells #[.slice none 0 0] 23)).heap[w.heap.size + 1]? = some (.cells #[.slice none 0 0] 23) := by
    have h := heap_alloc_new (w.alloc s.box) (.cells #[.slice none 0 0] 23)
    simpa using h
  have c2 := Lib.cell_of_heap (j := 0) e2
  have f2 := Lib.frozen_of_heap e2 0
  refine ⟨by rw [c2]; rfl, f2, ?_, ?_, ⟨by omega, ?_, World.ownsRow_nil _ _ _ _, by simp [Value.ownBlock]⟩, ?_, by simp [World.setCell]⟩
  · exact (Below.heap_setCell _ _ _ _ (by show w.heap.size ≠ w.heap.size + 1 + 1; omega)).trans ((b1.block _ (by omega)).trans ((b0.block _ (by omega)).trans (svNew w s)))
  · rw [Lib.cell_of_heap (one_setCell e2)]; rfl
  · exact (Below.heap_setCell _ _ _ _ (by show w.heap.size + 1 ≠ w.heap.size + 1 + 1; omega)).trans ((b1.block _ (by omega)).trans e1)
  · exact ((((Below.refl _ w).alloc (Nat.le_refl _) s.box).trans (b0.mono (by omega))).trans (b1.mono (by omega))).setCell (p := ⟨w.heap.size + 1 + 1, 0, none⟩) (by show w.heap.size ≤ w.heap.size + 1 + 1; omega) _
set_option maxRecDepth 100000 in
theorem routes_any (s : Sv) (w : World) (hs : s.okB w w.heap.size) (hf : Fine s.row 1099511627776) (hn : 64 * s.items.nodes + 64 ≤ 1099511627776) (hp : PowT w.heap.size w) :
    Calls Tryz.prog 25 #[s.val] w fun e w' => ∃ v, e = .returned v ∧ w'.ownsRow w.heap.size 9 1 v (routesV s.k s.items s.keys ⟨#[]⟩).length (strs (routesV s.k s.items s.keys ⟨#[]⟩)) ∧ Below w.heap.size w w' := by
  have hmf : ∀ (fn : Fn) (first cap : Array Value) (w : World), (Instr.makeFunc fn first cap).run Tryz.prog w = .ok (.func fn first cap) w := fun _ _ _ _ => rfl
  obtain ⟨w3, h3⟩ : ∃ w3, ((w.alloc s.box).alloc (.cells #[.slice none 0 0] 23)).alloc (.cells #[.nilFunc] 138) = w3 := ⟨_, rfl⟩
  obtain ⟨w4, h4⟩ : ∃ w4, w3.setCell ⟨w.heap.size + 1 + 1, 0, none⟩ (visF (w.heap.size + 1) (w.heap.size + 1 + 1)) = w4 := ⟨_, rfl⟩
  obtain ⟨hc3, hf3, hself, hvc, hbx, hb4, hs4⟩ := three s w w3 h3 w4 h4
  obtain ⟨y0, y1, y2, y3, y4, y5⟩ := svCells hself
  have HC := Lib.hid (visit_any w.heap.size (w.heap.size + 1) (w.heap.size + 1 + 1) (s.items.nodes + 1) s ⟨#[]⟩ [] _ w4 (by omega) (by simp; omega) hb4.size ⟨hs.below hb4, hf, by show 0 + _ ≤ _; omega⟩ (hp.on hb4) hbx hvc (by omega) (by simp [Value.ownBlock]))
  have HB4 := Lib.hid hb4
  have HBX := Lib.hid hbx
  have HS4 := Lib.hid hs4
  have H4 := Lib.hid h4
  clear hs hf hn hp hself hbx hb4 hs4
  unfold Sv.box at h3
  unfold visF at h4 hvc
  unfold Sv.val at HC ⊢
  go_enter Tryz.func25, Tryz.ntmps25
  go_wp2_with fail
  refine HC.out.mono ?_
  rintro e w5 ⟨rfl, v, hb5, hw5⟩
  have hc5 := hb5.cell
  have HB5 := Lib.hid hb5
  have HBE := Lib.hid (HB4.out.trans (hw5.below HBX.out HB4.out.size))
  clear hb5 hw5 hvc h3 h4 y0 y1 y2 y3 y4 y5
  go_wp2_with fail
  go_ret
  exact ⟨v, rfl, by simpa using HB5.out.row, HBE.out⟩
end Go.Proofs.YtohkdckllmmfhaaGreatDoor
