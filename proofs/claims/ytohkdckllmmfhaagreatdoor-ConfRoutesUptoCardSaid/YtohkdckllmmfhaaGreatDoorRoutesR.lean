/- DERIVED. What the reference's routes returns: the routes of the value in a row of its own. Condition: at most 2^40 values; the library's table of powers of ten is as laid. -/
import Derived.Test.YtohkdckllmmfhaaGreatDoorRoutesVisit
set_option linter.unusedSimpArgs false
set_option linter.unusedVariables false
namespace Go.Proofs.YtohkdckllmmfhaaGreatDoor
open Go.RowKit
theorem Vals.paths_pos : ∀ (d : Vals) (k : Int) (ks : List ByteArray) (r : ByteArray) (j : Nat), 0 < d.len → 0 < (d.paths k ks r j).length
  | .nil, _, _, _, _, h => by simp [Vals.len] at h
  | .cons k1 bo i t it ks1 rest, k, ks, r, j, _ => by
    have h1 := paths_pos it k1 ks1 (dotJ r (partV k ks j)) 0
    simp only [Vals.paths, List.length_append]
    split
    · simp only [List.length_cons]; omega
    · have := h1 (by omega); omega
theorem routesV_pos (k : Int) (it : Vals) (ks : List ByteArray) (r : ByteArray) : 0 < (routesV k it ks r).length := by
  unfold routesV
  split
  · simp
  · exact it.paths_pos k ks r 0 (by omega)
theorem strs_len (l : List ByteArray) : (strs l).length = l.length := by simp [strs]
theorem strs_one (l : List ByteArray) : ∀ u ∈ strs l, u.oneCell' = true := by
  intro u hu
  obtain ⟨s, _, rfl⟩ := List.mem_map.1 hu
  rfl
theorem strs_app (a b : List ByteArray) : strs (a ++ b) = strs a ++ strs b := by simp [strs]
/-- The routes in a row of the call's own. -/
def RtPost (l : List ByteArray) (w : World) (e : Ending) (w' : World) : Prop :=
  ∃ g cap, e = .returned (.slice (some ⟨g, 0, none⟩) l.length cap) ∧ w'.ownsRow w.heap.size 9 1 (.slice (some ⟨g, 0, none⟩) l.length cap) l.length (strs l) ∧ Below w.heap.size w w'
/-- What the loop keeps. -/
structure OutIn (m : List ByteArray) (u : Value) (s : Sv) (w wr : World) : Prop where
  row : wr.ownsRow w.heap.size 9 1 u m.length (strs m)
  old : Below w.heap.size w wr
  self : wr.heap[w.heap.size]? = some s.box
  ne : u.ownBlock ≠ some w.heap.size
  size : w.heap.size + 1 ≤ wr.heap.size
set_option maxRecDepth 100000 in
set_option maxHeartbeats 3200000 in
theorem routesR_any (B : Nat) (N : Nat) : ∀ (s : Sv) (r : ByteArray) (w : World), s.items.nodes < N → s.items.nodes + 1 ≤ 1099511627776 → B ≤ w.heap.size → Asked B s r w → PowT B w →
    Calls Tryz.prog 26 #[s.val, .string r] w (RtPost (routesV s.k s.items s.keys r) w) := by
  induction N with
  | zero => intro s r w h; omega
  | succ N ih =>
    intro s r w hN hbig hB ha hp
    obtain ⟨i0, hi, hz0, hz1, hz2⟩ := info_parts str_inf
    have IH := Lib.hid ih; clear ih
    by_cases hlen : s.items.len = 0
    · have hn : s.n1 = 0 := by rw [ha.ok.at_.len_eq]; exact hlen
      have hw0 : Below w.heap.size w (w.alloc s.box) := (Below.refl _ _).alloc (Nat.le_refl _) _
      have hlit := World.ownsRow_lit (base := w.heap.size) (e := 9) (size := 1) (w.alloc s.box) #[.string r] 1 (by simp) (by unfold maxLen; omega) rfl
      have hw1 := hw0.trans ((Below.refl _ (w.alloc s.box)).alloc (by simp) (.cells #[.string r] 9))
      obtain ⟨y0, y1, y2, y3, y4, y5⟩ := svCells (svNew w s)
      unfold routesV
      rw [if_pos hlen]
      have HLIT := Lib.hid hlit
      have HW1 := Lib.hid hw1
      clear hw0 hw1 hlit ha hp IH
      unfold Sv.box at y0 y1 y2 y3 y4 y5 HLIT HW1
      rw [hn] at y4 HLIT HW1
      unfold Sv.val
      rw [hn]
      go_enter Tryz.func26, Tryz.ntmps26
      go_wp2_with fail
      go_ret
      refine ⟨_, _, rfl, ?_, HW1.out⟩
      simpa [strs] using HLIT.out
    · unfold routesV
      rw [if_neg hlen]
      have HA := Lib.hid ha
      have HP := Lib.hid hp
      have HN := Lib.hid ha.ok.at_.len_eq
      have hnc := ha.ok.nc1
      have hcm := ha.ok.cm1
      unfold maxLen at hcm
      have hn1 : ¬ (s.n1 : Int) = 0 := by rw [HN.out]; omega
      have hn0 : ((s.n1 : Int) == 0) = false := by simpa using hn1
      obtain ⟨b, off, hA1, hbB⟩ := ha.ok.at_.base (by rw [HN.out]; omega)
      have HG := Lib.hid (HA.out.fine.good HA.out.ok (Nat.le_refl _))
      have HPL := Lib.hid (s.items.paths_len s.k s.keys r 0)
      have HPP := Lib.hid (s.items.paths_pos s.k s.keys r 0 (by omega))
      have hs0 : OutIn [] (.slice none 0 0) s w (w.alloc s.box) := ⟨World.ownsRow_nil _ _ _ _, (Below.refl _ _).alloc (Nat.le_refl _) _, svNew w s, by simp [Value.ownBlock], by simp⟩
      clear ha hp
      obtain ⟨y0, y1, y2, y3, y4, y5⟩ := svCells (svNew w s)
      unfold Sv.box at y0 y1 y2 y3 y4 y5 hs0
      rw [hA1] at y4 hs0
      unfold Sv.val
      rw [hA1]
      go_enter Tryz.func26, Tryz.ntmps26
      go_wp2_with fail
      go_loopw [5, 17] (fun u i wr => ∃ (k : Nat) (m : List ByteArray), k ≤ s.n1 ∧ i = .int .i64 k ∧ s.items.paths s.k s.keys r 0 = m ++ (s.items.drop k).paths s.k s.keys r k ∧ OutIn m u s w wr) (fun _ i _ => s.n1 - (intOf i).toNat)
      case atStart => exact ⟨0, [], Nat.zero_le _, rfl, by rw [Vals.drop_zero]; rfl, hs0⟩
      case round =>
        obtain ⟨k, m, hk, rfl, hx, hin⟩ := hrel
        obtain ⟨Av, cv, rfl⟩ := slice_of_own hin.row
        have HIN := Lib.hid hin
        have HX := Lib.hid hx
        clear hin hx hs0 y0 y1 y2 y3 y4 y5
        by_cases hlt : k < s.n1
        · obtain ⟨b', off', k1, bo1, i1, t1, B1, m1, d1, B2, m2, d2, it, ks, rest, hA1', e1, e2, E⟩ := HA.out.ok.at_.el k hlt
          rw [hA1] at hA1'
          cases hA1'
          have hbw : Below B w wr := HIN.out.old.mono hB
          obtain ⟨hlb, x0, x1, x2, x3, x4, x5, hokE⟩ := E.below hbw
          have hS := HIN.out.size
          have hnd1 := Vals.nodes_drop k s.items
          have hx := HX.out
          rw [Vals.paths_cons e1 s.k s.keys r] at hx
          rw [e1] at hnd1
          simp only [Vals.nodes] at hnd1
          have hpsz := partV_size (k := s.k) (j := k) HG.out.2.1 (by have := HN.out; have := Vals.len_le s.items; omega)
          have hnsz := dotJ_size r (partV s.k s.keys k)
          have hrsz := HA.out.size
          have hfe : Fine (Sv.mk k1 bo1 i1 t1 B1 m1 d1 B2 m2 d2 it ks).row 1099511627776 := by
            have h1 := Vals.drop_err k s.items (valErr_of HA.out.fine.err).2.1
            rw [e1] at h1
            obtain ⟨g1, g2, _⟩ := valErr_of h1
            refine ⟨?_, ?_⟩
            · show (Vals.cons k1 bo1 i1 t1 it ks .nil).err leS = 0
              unfold Vals.err
              rw [if_neg (by rw [g1]; simp), if_neg (by rw [g2]; simp)]
              rfl
            · show it.nodes + 0 + 1 ≤ _
              omega
          have HPT := Lib.hid (fun wX (hX : Below (wr.heap.size + 1) (wr.alloc (Sv.mk k1 bo1 i1 t1 B1 m1 d1 B2 m2 d2 it ks).box) wX) => partOf_any s k wX ((HA.out.ok.below (hbw.trans (((Below.refl _ _).alloc (by omega) _).trans (hX.mono (by omega))))).more (by have := hX.size; simp at this; omega)) (by have := HN.out; have := Vals.len_le s.items; omega) (fun h6 => by rw [HG.out.1.many h6, ← HN.out]; exact hlt) HG.out.2.2 (fun w' h' => HP.out w' (hbw.trans (((Below.refl _ _).alloc (by omega) _).trans ((hX.mono (by omega)).trans (h'.mono (by have := hX.size; simp at this; omega)))))))
          have HLG := Lib.hid (fun wX => longerR_any r (partV s.k s.keys k) wX (by omega) (by omega))
          generalize partV s.k s.keys k = part at HPT HLG hx hpsz hnsz
          have hns : (dotJ r part).size + 64 * it.nodes ≤ 1099511627776 := by omega
          generalize dotJ r part = nr at HLG hx hnsz hns
          have hrp := routesV_pos k1 it ks nr
          have HVC := Lib.hid (fun wX (hX : Below (wr.heap.size + 1) (wr.alloc (Sv.mk k1 bo1 i1 t1 B1 m1 d1 B2 m2 d2 it ks).box) wX) => IH.out (Sv.mk k1 bo1 i1 t1 B1 m1 d1 B2 m2 d2 it ks) nr wX (by show it.nodes < N; omega) (by show it.nodes + 1 ≤ _; omega) (by have := hX.size; simp at this; omega)
            ⟨VOk.below (((Below.refl _ _).alloc (by omega) _).trans (hX.mono (by omega))) hokE, hfe, hns⟩ ((HP.out).on (hbw.trans (((Below.refl _ _).alloc (by omega) _).trans (hX.mono (by omega))))))
          have htot : m.length + (routesV k1 it ks nr).length ≤ 1099511627776 := by
            have h1 := congrArg List.length hx
            simp only [List.length_append] at h1
            have := HPL.out
            omega
          have hVC' : ∀ wX, Below (wr.heap.size + 1) (wr.alloc (Sv.mk k1 bo1 i1 t1 B1 m1 d1 B2 m2 d2 it ks).box) wX → Calls Tryz.prog 26 #[(Sv.mk k1 bo1 i1 t1 B1 m1 d1 B2 m2 d2 it ks).val, .string nr] wX (RtPost (routesV k1 it ks nr) wX) := HVC.out
          generalize routesV k1 it ks nr = tk at hVC' hx hrp htot
          have hself : ∀ wX : World, wX.heap[w.heap.size]? = some s.box → wX.heap[wr.heap.size]? = some (Sv.mk k1 bo1 i1 t1 B1 m1 d1 B2 m2 d2 it ks).box → wX.cell? ⟨w.heap.size, 0, none⟩ = some (.int .i64 s.k) ∧ wX.cell? ⟨w.heap.size, 1, none⟩ = some (.bool s.bo) ∧ wX.cell? ⟨w.heap.size, 2, none⟩ = some (.int .i64 s.i) ∧ wX.cell? ⟨w.heap.size, 3, none⟩ = some (.string s.t) ∧ wX.cell? ⟨w.heap.size, 4, none⟩ = some (.slice (some ⟨b, off, none⟩) s.n1 s.c1) ∧ wX.cell? ⟨w.heap.size, 5, none⟩ = some (.slice s.A2 s.n2 s.c2) ∧ wX.cell? ⟨wr.heap.size, 0, none⟩ = some (.int .i64 k1) ∧ wX.cell? ⟨wr.heap.size, 1, none⟩ = some (.bool bo1) ∧ wX.cell? ⟨wr.heap.size, 2, none⟩ = some (.int .i64 i1) ∧ wX.cell? ⟨wr.heap.size, 3, none⟩ = some (.string t1) ∧ wX.cell? ⟨wr.heap.size, 4, none⟩ = some (.slice B1 m1 d1) ∧ wX.cell? ⟨wr.heap.size, 5, none⟩ = some (.slice B2 m2 d2) := fun wX h1 h2 => by
            obtain ⟨a0, a1, a2, a3, a4, a5⟩ := svCells h1
            obtain ⟨b0, b1, b2, b3, b4, b5⟩ := svCells h2
            rw [hA1] at a4
            exact ⟨a0, a1, a2, a3, a4, a5, b0, b1, b2, b3, b4, b5⟩
          have hwo : Below wr.heap.size wr (wr.alloc (Obj.cells #[.int .i64 k1, .bool bo1, .int .i64 i1, .string t1, .slice B1 m1 d1, .slice B2 m2 d2] 25)) := (Below.refl _ _).alloc (Nat.le_refl _) _
          have hSall : ∀ wX, Below (wr.heap.size + 1) (wr.alloc (Obj.cells #[.int .i64 k1, .bool bo1, .int .i64 i1, .string t1, .slice B1 m1 d1, .slice B2 m2 d2] 25)) wX → wX.cell? ⟨w.heap.size, 0, none⟩ = some (.int .i64 s.k) ∧ wX.cell? ⟨w.heap.size, 1, none⟩ = some (.bool s.bo) ∧ wX.cell? ⟨w.heap.size, 2, none⟩ = some (.int .i64 s.i) ∧ wX.cell? ⟨w.heap.size, 3, none⟩ = some (.string s.t) ∧ wX.cell? ⟨w.heap.size, 4, none⟩ = some (.slice (some ⟨b, off, none⟩) s.n1 s.c1) ∧ wX.cell? ⟨w.heap.size, 5, none⟩ = some (.slice s.A2 s.n2 s.c2) ∧ wX.cell? ⟨wr.heap.size, 0, none⟩ = some (.int .i64 k1) ∧ wX.cell? ⟨wr.heap.size, 1, none⟩ = some (.bool bo1) ∧ wX.cell? ⟨wr.heap.size, 2, none⟩ = some (.int .i64 i1) ∧ wX.cell? ⟨wr.heap.size, 3, none⟩ = some (.string t1) ∧ wX.cell? ⟨wr.heap.size, 4, none⟩ = some (.slice B1 m1 d1) ∧ wX.cell? ⟨wr.heap.size, 5, none⟩ = some (.slice B2 m2 d2) := fun wX hX =>
            hself wX ((hX.block _ (by omega)).trans ((hwo.block _ (by omega)).trans HIN.out.self)) ((hX.block _ (by omega)).trans (svNew wr (Sv.mk k1 bo1 i1 t1 B1 m1 d1 B2 m2 d2 it ks)))
          have hPT : ∀ wX, Below (wr.heap.size + 1) (wr.alloc (Obj.cells #[.int .i64 k1, .bool bo1, .int .i64 i1, .string t1, .slice B1 m1 d1, .slice B2 m2 d2] 25)) wX → Calls Tryz.prog 71 #[.agg #[.int .i64 s.k, .bool s.bo, .int .i64 s.i, .string s.t, .slice (some ⟨b, off, none⟩) s.n1 s.c1, .slice s.A2 s.n2 s.c2], .int .i64 k] wX fun e w' => e = .returned (.string part) ∧ Hid (Below (wr.heap.size + 1) (wr.alloc (Obj.cells #[.int .i64 k1, .bool bo1, .int .i64 i1, .string t1, .slice B1 m1 d1, .slice B2 m2 d2] 25)) w') ∧ w'.cell? ⟨w.heap.size, 0, none⟩ = some (.int .i64 s.k) ∧ w'.cell? ⟨w.heap.size, 1, none⟩ = some (.bool s.bo) ∧ w'.cell? ⟨w.heap.size, 2, none⟩ = some (.int .i64 s.i) ∧ w'.cell? ⟨w.heap.size, 3, none⟩ = some (.string s.t) ∧ w'.cell? ⟨w.heap.size, 4, none⟩ = some (.slice (some ⟨b, off, none⟩) s.n1 s.c1) ∧ w'.cell? ⟨w.heap.size, 5, none⟩ = some (.slice s.A2 s.n2 s.c2) ∧ w'.cell? ⟨wr.heap.size, 0, none⟩ = some (.int .i64 k1) ∧ w'.cell? ⟨wr.heap.size, 1, none⟩ = some (.bool bo1) ∧ w'.cell? ⟨wr.heap.size, 2, none⟩ = some (.int .i64 i1) ∧ w'.cell? ⟨wr.heap.size, 3, none⟩ = some (.string t1) ∧ w'.cell? ⟨wr.heap.size, 4, none⟩ = some (.slice B1 m1 d1) ∧ w'.cell? ⟨wr.heap.size, 5, none⟩ = some (.slice B2 m2 d2) := fun wX hX => by
            have h1 := HPT.out wX hX
            unfold Sv.val at h1
            rw [hA1] at h1
            refine h1.mono ?_
            rintro e w' ⟨rfl, hb⟩
            have hb' := hX.trans (hb.mono (by have := hX.size; simp at this; omega))
            exact ⟨rfl, hb', hSall _ hb'⟩
          have hVC : ∀ wX, Below (wr.heap.size + 1) (wr.alloc (Obj.cells #[.int .i64 k1, .bool bo1, .int .i64 i1, .string t1, .slice B1 m1 d1, .slice B2 m2 d2] 25)) wX → Calls Tryz.prog 26 #[.agg #[.int .i64 k1, .bool bo1, .int .i64 i1, .string t1, .slice B1 m1 d1, .slice B2 m2 d2], .string nr] wX fun e w' => ∃ g cap, e = .returned (.slice (some ⟨g, 0, none⟩) tk.length cap) ∧ Hid (∀ j u, (strs tk)[j]? = some u → w'.cell? ((⟨g, 0, none⟩ : Addr).add j) = some u) ∧ Hid (Below (wr.heap.size + 1) (wr.alloc (Obj.cells #[.int .i64 k1, .bool bo1, .int .i64 i1, .string t1, .slice B1 m1 d1, .slice B2 m2 d2] 25)) w') ∧ w'.cell? ⟨w.heap.size, 0, none⟩ = some (.int .i64 s.k) ∧ w'.cell? ⟨w.heap.size, 1, none⟩ = some (.bool s.bo) ∧ w'.cell? ⟨w.heap.size, 2, none⟩ = some (.int .i64 s.i) ∧ w'.cell? ⟨w.heap.size, 3, none⟩ = some (.string s.t) ∧ w'.cell? ⟨w.heap.size, 4, none⟩ = some (.slice (some ⟨b, off, none⟩) s.n1 s.c1) ∧ w'.cell? ⟨w.heap.size, 5, none⟩ = some (.slice s.A2 s.n2 s.c2) ∧ w'.cell? ⟨wr.heap.size, 0, none⟩ = some (.int .i64 k1) ∧ w'.cell? ⟨wr.heap.size, 1, none⟩ = some (.bool bo1) ∧ w'.cell? ⟨wr.heap.size, 2, none⟩ = some (.int .i64 i1) ∧ w'.cell? ⟨wr.heap.size, 3, none⟩ = some (.string t1) ∧ w'.cell? ⟨wr.heap.size, 4, none⟩ = some (.slice B1 m1 d1) ∧ w'.cell? ⟨wr.heap.size, 5, none⟩ = some (.slice B2 m2 d2) := fun wX hX => by
            refine (hVC' wX hX).mono ?_
            rintro e w' ⟨g, cap, rfl, ho, hb⟩
            have hb' := hX.trans (hb.mono (by have := hX.size; simp at this; omega))
            exact ⟨g, cap, rfl, ho.cells rfl, hb', hSall _ hb'⟩
          have hrows : ∀ wX, Below (wr.heap.size + 1) (wr.alloc (Obj.cells #[.int .i64 k1, .bool bo1, .int .i64 i1, .string t1, .slice B1 m1 d1, .slice B2 m2 d2] 25)) wX → wX.ownsRow w.heap.size 9 1 (.slice Av m.length cv) m.length (strs m) := fun wX hX => row_below HIN.out.row (hwo.trans (hX.mono (by omega)))
          have hna : (Value.slice Av m.length cv).ownBlock ≠ some w.heap.size := HIN.out.ne
          have hnb : (Value.slice Av m.length cv).ownBlock ≠ some wr.heap.size := fun e => by have := (HIN.out.row.lt _ e).2; omega
          have HS0 := Lib.hid (hSall _ (Below.refl _ _))
          obtain ⟨va0, va1, va2, va3, va4, va5, vb0, vb1, vb2, vb3, vb4, vb5⟩ := HS0.out
          have HI0 := Lib.hid (Below.refl (wr.heap.size + 1) (wr.alloc (Obj.cells #[.int .i64 k1, .bool bo1, .int .i64 i1, .string t1, .slice B1 m1 d1, .slice B2 m2 d2] 25)))
          have HP1 := Lib.hid hPT
          have HV1 := Lib.hid hVC
          have HROWS := Lib.hid hrows
          have HNA := Lib.hid hna
          have HNB := Lib.hid hnb
          have HX2 := Lib.hid hx
          have HE2 := Lib.hid e2
          have HWO := Lib.hid hwo
          have hsc := (HIN.out.self)
          obtain ⟨y0, y1, y2, y3, y4, y5⟩ := svCells hsc
          rw [hA1] at y4
          clear hself hwo hSall hPT hVC hx e1 e2 hA1 hsc hfe hokE hnsz hpsz E hVC' hrows hna hnb
          go_upto_region 7 with (fail)
          have hi1 := HI0.out
          go_region_held3 (fun w' => w'.cell? ⟨w.heap.size, 0, none⟩ = some (.int .i64 s.k) ∧ w'.cell? ⟨w.heap.size, 1, none⟩ = some (.bool s.bo) ∧ w'.cell? ⟨w.heap.size, 2, none⟩ = some (.int .i64 s.i) ∧ w'.cell? ⟨w.heap.size, 3, none⟩ = some (.string s.t) ∧ w'.cell? ⟨w.heap.size, 4, none⟩ = some (.slice (some ⟨b, off, none⟩) s.n1 s.c1) ∧ w'.cell? ⟨w.heap.size, 5, none⟩ = some (.slice s.A2 s.n2 s.c2) ∧ w'.cell? ⟨wr.heap.size, 0, none⟩ = some (.int .i64 k1) ∧ w'.cell? ⟨wr.heap.size, 1, none⟩ = some (.bool bo1) ∧ w'.cell? ⟨wr.heap.size, 2, none⟩ = some (.int .i64 i1) ∧ w'.cell? ⟨wr.heap.size, 3, none⟩ = some (.string t1) ∧ w'.cell? ⟨wr.heap.size, 4, none⟩ = some (.slice B1 m1 d1) ∧ w'.cell? ⟨wr.heap.size, 5, none⟩ = some (.slice B2 m2 d2))
            (first
              | with_reducible exact ⟨ta0, ta1, ta2, ta3, ta4, ta5, tb0, tb1, tb2, tb3, tb4, tb5⟩
              | with_reducible exact ⟨ua0, ua1, ua2, ua3, ua4, ua5, ub0, ub1, ub2, ub3, ub4, ub5⟩
              | exact ⟨va0, va1, va2, va3, va4, va5, vb0, vb1, vb2, vb3, vb4, vb5⟩)
            (first
              | (go_at_call 71; with_reducible refine Calls.mono (HP1.out _ (by exact hi1.drew)) ?_; rintro e w5 ⟨rfl, HB5, ua0, ua1, ua2, ua3, ua4, ua5, ub0, ub1, ub2, ub3, ub4, ub5⟩)
              | (go_at_call 70; with_reducible refine Calls.mono (HLG.out _) ?_; rintro e w6 ⟨rfl, rfl⟩)
              | (go_at_call 26; with_reducible refine Calls.mono (HV1.out _ HB5.out) ?_; rintro e w7 ⟨g, cap, rfl, HCL, HB7, ua0, ua1, ua2, ua3, ua4, ua5, ub0, ub1, ub2, ub3, ub4, ub5⟩)
              | (refine step_append_lies _ (by rfl) _ _ _ (by rfl) w.heap.size 9 i0 _ 1 16 Tryz.underlying23 hi hz0 hz1 hz2 rfl (by omega) (.slice Av m.length cv) m.length (strs m) (by rfl) (HROWS.out _ HB7.out) ⟨g, 0, none⟩ tk.length cap (strs tk) (by rfl) (by rw [strs_len]; omega) HCL.out (strs_one tk) hrp (by unfold maxLen; omega) (by omega) (by have h1 := HB7.out.size; have h2 := HWO.out.size; omega) _ rfl ?_
                 intro gg cap2 w8 hown8 hgrow8 hat8 hlt8
                 have hfar : ∀ p : Addr, p.block < wr.heap.size + 1 → some p.block ≠ (Value.slice Av m.length cv).ownBlock → w8.cell? p = w7.cell? p := fun p h1 h2 => hgrow8.cell_far p (by have h3 := HB7.out.size; simp at h3; omega) h2
                 obtain ⟨ta0, ta1, ta2, ta3, ta4, ta5, tb0, tb1, tb2, tb3, tb4, tb5⟩ : w8.cell? ⟨w.heap.size, 0, none⟩ = some (.int .i64 s.k) ∧ w8.cell? ⟨w.heap.size, 1, none⟩ = some (.bool s.bo) ∧ w8.cell? ⟨w.heap.size, 2, none⟩ = some (.int .i64 s.i) ∧ w8.cell? ⟨w.heap.size, 3, none⟩ = some (.string s.t) ∧ w8.cell? ⟨w.heap.size, 4, none⟩ = some (.slice (some ⟨b, off, none⟩) s.n1 s.c1) ∧ w8.cell? ⟨w.heap.size, 5, none⟩ = some (.slice s.A2 s.n2 s.c2) ∧ w8.cell? ⟨wr.heap.size, 0, none⟩ = some (.int .i64 k1) ∧ w8.cell? ⟨wr.heap.size, 1, none⟩ = some (.bool bo1) ∧ w8.cell? ⟨wr.heap.size, 2, none⟩ = some (.int .i64 i1) ∧ w8.cell? ⟨wr.heap.size, 3, none⟩ = some (.string t1) ∧ w8.cell? ⟨wr.heap.size, 4, none⟩ = some (.slice B1 m1 d1) ∧ w8.cell? ⟨wr.heap.size, 5, none⟩ = some (.slice B2 m2 d2) := by
                   have ga : ∀ j, w8.cell? ⟨w.heap.size, j, none⟩ = w7.cell? ⟨w.heap.size, j, none⟩ := fun j => hfar _ (by show w.heap.size < _; omega) (fun e => HNA.out e.symm)
                   have gb : ∀ j, w8.cell? ⟨wr.heap.size, j, none⟩ = w7.cell? ⟨wr.heap.size, j, none⟩ := fun j => hfar _ (by show wr.heap.size < _; omega) (fun e => HNB.out e.symm)
                   exact ⟨(ga 0).trans ua0, (ga 1).trans ua1, (ga 2).trans ua2, (ga 3).trans ua3, (ga 4).trans ua4, (ga 5).trans ua5, (gb 0).trans ub0, (gb 1).trans ub1, (gb 2).trans ub2, (gb 3).trans ub3, (gb 4).trans ub4, (gb 5).trans ub5⟩))
          have h7 := HB7.out.size
          simp at h7
          have hb8 : Below w.heap.size w w8 := (HIN.out.old.trans ((HWO.out.mono (by omega)).trans (HB7.out.mono (by omega)))).grown hgrow8 (by omega) (fun q hq => (HIN.out.row.lt q hq).1)
          have hrel : OutIn (m ++ tk) (.slice (some ⟨gg, 0, none⟩) (m.length + tk.length) cap2) s w w8 := by
            refine ⟨?_, hb8, ?_, fun e => ?_, by have := hgrow8.size; omega⟩
            · rw [List.length_append, strs_app]; exact hown8
            · exact (hgrow8.block _ (by omega) (fun e => HNA.out e.symm)).trans ((HB7.out.block _ (by omega)).trans ((HWO.out.block _ (by omega)).trans HIN.out.self))
            · have hg : gg = w.heap.size := by simpa [Value.ownBlock] using e
              rcases hat8 with h | h
              · rw [hg] at h; exact HNA.out h
              · omega
          have HREL := Lib.hid hrel
          clear hrel hb8 hown8 hgrow8 hat8 hlt8 hfar h7 HB5 HB7 HCL hi1 x0 x1 x2 x3 x4 x5 y0 y1 y2 y3 y4 y5 ua0 ua1 ua2 ua3 ua4 ua5 ub0 ub1 ub2 ub3 ub4 ub5 va0 va1 va2 va3 va4 va5 vb0 vb1 vb2 vb3 vb4 vb5 ta0 ta1 ta2 ta3 ta4 ta5 tb0 tb1 tb2 tb3 tb4 tb5
          go_wp2_with fail
          go_roundw
          case rel =>
            refine ⟨k + 1, m ++ tk, by omega, by go_num, ?_, HREL.out⟩
            rw [HE2.out, HX2.out, List.append_assoc]
          case measure => simp [intOf]; omega
        · obtain rfl : k = s.n1 := by omega
          have hd : s.items.drop s.n1 = .nil := by rw [HN.out, Vals.drop_len]
          have hx := HX.out
          rw [hd] at hx
          have hxm : s.items.paths s.k s.keys r 0 = m := by rw [hx]; exact List.append_nil m
          have hpp := HPP.out
          rw [hxm] at hpp
          have HXM := Lib.hid hxm
          clear hx hd hxm
          have hrow := HIN.out.row
          have HO := Lib.hid HIN.out.old
          go_wp2_with fail
          go_ret
          rw [HXM.out]
          rcases hrow.2 with ⟨_, h0⟩ | ⟨g, cap, cur, hv, _⟩
          · omega
          · cases hv
            exact ⟨g, cv, rfl, hrow, HO.out⟩
end Go.Proofs.YtohkdckllmmfhaaGreatDoor
