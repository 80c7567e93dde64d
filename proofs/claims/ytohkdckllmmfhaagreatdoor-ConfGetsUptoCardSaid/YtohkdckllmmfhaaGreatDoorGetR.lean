/- DERIVED. What the reference's GetOf returns: the item to which a route leads, or the error. Condition: at most 2^40 values and letters; the library's variables MaxLen and ErrSyntax hold what they are declared to hold. -/
import Derived.Test.YtohkdckllmmfhaaGreatDoorGet
import Derived.Test.YtohkdckllmmfhaaGreatDoorRouteR
namespace Go.Proofs.YtohkdckllmmfhaaGreatDoor
open Go.RowKit
set_option linter.unusedVariables false
set_option maxRecDepth 100000 in
set_option maxHeartbeats 3200000 in
theorem getR_any (s : Sv) (r : ByteArray) (w : World) (hs : s.okB w w.heap.size) (hbig : s.items.nodes ≤ 1099511627776) (hl : s.items.letters ≤ 1099511627776) (hn2 : s.n2 ≤ 1099511627776) (hm : MaxL w) (hv : ErrV w) :
    Calls Tryz.prog 8 #[s.val, .string r] w (GetPost (getV s r) (getE s r) w) := by
  have HC := Lib.hid (fun wX (hX : Behind2 s w wX) => confCheckR_any s.k s.bo s.i s.t s.A1 s.n1 s.c1 s.A2 s.n2 s.c2 s.items s.keys wX (hs.keep hX.all.1) hbig hl hn2)
  have HR := Lib.hid (fun wX (hX : Behind2 s w wX) => routeParts_any r wX (hm.below hX.all.1))
  have HI := Lib.hid (Behind2.start s w)
  obtain ⟨y0, y1, y2, y3, y4, y5⟩ := svCells HI.out.all.2.2.1
  obtain ⟨ev, hev⟩ : ∃ ev, getE s r = ev := ⟨_, rfl⟩
  obtain ⟨rv, hrv⟩ : ∃ rv, getV s r = rv := ⟨_, rfl⟩
  rw [hev, hrv]
  unfold getE at hev
  unfold getV at hrv
  have HS := Lib.hid hs
  have HMV := Lib.hid hv
  have hconf := fun h => conf_one (s := s) h
  generalize confErr leS s.k s.bo s.i s.t s.items s.keys = ce at HC hev hrv hconf
  clear hs hbig hl hn2 hm hv
  unfold Sv.box at y0 y1 y2 y3 y4 y5
  have hz : Sv.zero = ⟨0, false, 0, ⟨#[]⟩, none, 0, 0, none, 0, 0, .nil, []⟩ := rfl
  rw [hz] at y0 y1 y2 y3 y4 y5
  dsimp only at y0 y1 y2 y3 y4 y5
  clear hz
  by_cases hce : ce = 0
  · have k1 : (ce == 0) = true := by simpa using hce
    have k2 : (ce != 0) = false := by simpa using hce
    rw [if_neg (by simpa using hce)] at hev hrv
    have HFI := Lib.hid (hconf hce)
    clear hconf hce
    cases hrb : routeB r with
    | true =>
      rw [if_neg (by rw [hrb]; simp)] at hev hrv
      rw [hrb] at HR
      have hra := route_all hrb
      have HRA := Lib.hid hra
      generalize routeL r = l at HR HRA hev hrv
      have HRV := Lib.hid hrv
      have HEV := Lib.hid hev
      clear hrv hev hra hrb
      unfold Sv.val
      go_enter Tryz.func8, Tryz.ntmps8
      go_wp2_with fail
      refine (HC.out _ HI.out).mono ?_
      rintro e w1 ⟨rfl, hb1⟩
      have HI1 := Lib.hid (HI.out.call hb1)
      clear hb1 y0 y1 y2 y3 y4 y5
      go_wp2_with fail
      refine (HR.out _ HI1.out).mono ?_
      rintro e w2 ⟨A, n, c, rfl, hk, hb2⟩
      rw [if_pos rfl] at hk
      have HKY := Lib.hid hk
      have HI2 := Lib.hid (HI1.out.call hb2)
      obtain ⟨y0, y1, y2, y3, y4, y5⟩ := svCells HI2.out.all.2.2.1
      have HFO := Lib.hid (followR_any s l A n c w2 w.heap.size (Nat.le_trans (by omega) HI2.out.all.2.1) (HS.out.below HI2.out.all.1) HFI.out HKY.out.2.2 (by have h1 := HRA.out.2.1; have h2 := HKY.out.2.2.1; omega) HRA.out.1 HRA.out.2.2 (HMV.out.below HI2.out.all.1))
      rw [HRV.out] at HFO HEV
      clear hk hb2
      unfold Sv.val at HFO
      go_wp2_with fail
      refine HFO.out.mono ?_
      rintro e w3 ⟨a1, rfl, hrow, hok, hb3⟩
      have HI3 := Lib.hid ((HI2.out.call hb3).alloc a1.box)
      have HA1 := Lib.hid (svNew w3 a1)
      have HROW := Lib.hid hrow
      have HOK := Lib.hid (show a1.okB (w3.alloc a1.box) w.heap.size from hok.below ((Below.refl w3.heap.size w3).alloc (Nat.le_refl _) a1.box |>.mono (Nat.le_trans (by omega) (HI2.out.call hb3).all.2.1)))
      have hfa : rv.isSome = true → Fine a1.row 1099511627776 := fun h => by
        have hf := HFI.out.follow l
        rw [HRV.out] at hf
        rw [hrow]
        cases rv with
        | nil => cases h
        | cons k bo i t it ks q =>
          have he := valErr_of hf.err
          refine ⟨?_, ?_⟩
          · show (Vals.cons k bo i t it ks .nil).err leS = 0
            unfold Vals.err
            rw [if_neg (by rw [he.1]; simp), if_neg (by rw [he.2.1]; simp)]
            rfl
          · have hm := hf.many
            show (Vals.cons k bo i t it ks .nil).nodes ≤ _
            simp only [Vals.nodes] at hm ⊢
            omega
      have HFA := Lib.hid hfa
      clear hrow hok hb3 y0 y1 y2 y3 y4 y5 hfa
      unfold Sv.val
      cases hso : rv.isSome with
      | true =>
        have HEV2 := Lib.hid (show ev = 0 by rw [← HEV.out, hso]; rfl)
        have HSO := Lib.hid hso
        clear hso
        obtain ⟨x0, x1, x2, x3, x4, x5⟩ := svCells HA1.out
        obtain ⟨wz, hwz⟩ : ∃ wz, (w3.alloc a1.box).setCells (w.heap.size + 1) 0 (#[Value.int .i64 a1.k, .bool a1.bo, .int .i64 a1.i, .string a1.t, .slice a1.A1 a1.n1 a1.c1, .slice a1.A2 a1.n2 a1.c2] : Array Value).toList = wz := ⟨_, rfl⟩
        have hput := HI3.out.put a1 (VP.keep (fun _ _ => rfl) (fun b h => ⟨by omega, by have := HI3.out.all.2.1; omega⟩) (VP.of_ok HOK.out)) wz hwz
        have HT := Lib.hid (svThere HI3.out.all.2.2.2)
        have HPUT := Lib.hid hput
        unfold Sv.box at x0 x1 x2 x3 x4 x5 HT hwz
        have HWZ := Lib.hid hwz
        clear hwz hput
        go_upto_region 10 with (fail)
        go_wp2_with (refine wpList_store_mid rfl 25 (.tmp 4) (.tmp 34) rfl (w.heap.size + 1) 0 #[Value.int .i64 a1.k, .bool a1.bo, .int .i64 a1.i, .string a1.t, .slice a1.A1 a1.n1 a1.c1, .slice a1.A2 a1.n2 a1.c2] rfl rfl HT.out sv_size (by simp [Value.oneCell']) ?_; rw [HWZ.out])
        refine bodyPost_ret (v := .tuple #[a1.val, .int .i64 0]) ?_ rfl ⟨a1, by rw [HEV2.out], HROW.out, HPUT.out.2.1, HPUT.out.2.2⟩
        exact svRes rfl _ _ (w.heap.size + 1) a1 _ rfl rfl HPUT.out.1
      | false =>
        have HEV2 := Lib.hid (show ev = 7 by rw [← HEV.out, hso]; rfl)
        have HSO := Lib.hid (show rv.orZero = Sv.zero.row by cases rv with | nil => rfl | cons => cases hso)
        clear hso
        obtain ⟨wz, hwz⟩ : ∃ wz, (w3.alloc a1.box).setCells (w.heap.size + 1) 0 (#[Value.int .i64 0, .bool false, .int .i64 0, .string ⟨#[]⟩, .slice none 0 0, .slice none 0 0] : Array Value).toList = wz := ⟨_, rfl⟩
        have hput := HI3.out.put Sv.zero (zero_okP _ _) wz hwz
        have HT := Lib.hid (svThere HI3.out.all.2.2.2)
        unfold Sv.box at hwz HT
        have HWZ := Lib.hid hwz
        have HPUT := Lib.hid hput
        clear hwz hput
        go_upto_region 9 with (fail)
        go_wp2_with (refine wpList_store_mid rfl 25 (.tmp 4) (.tmp 33) rfl (w.heap.size + 1) 0 #[.int .i64 0, .bool false, .int .i64 0, .string ⟨#[]⟩, .slice none 0 0, .slice none 0 0] rfl rfl HT.out sv_size (by simp [Value.oneCell']) ?_; rw [HWZ.out])
        refine bodyPost_ret (v := .tuple #[Sv.zero.val, .int .i64 7]) ?_ rfl ⟨Sv.zero, by rw [HEV2.out], HSO.out.symm, HPUT.out.2.1, HPUT.out.2.2⟩
        exact svRes rfl _ _ (w.heap.size + 1) Sv.zero _ rfl rfl HPUT.out.1
    | false =>
      rw [if_pos hrb] at hev hrv
      subst hev hrv
      rw [hrb] at HR
      unfold Sv.val
      go_enter Tryz.func8, Tryz.ntmps8
      go_wp2_with fail
      refine (HC.out _ HI.out).mono ?_
      rintro e w1 ⟨rfl, hb1⟩
      have HI1 := Lib.hid (HI.out.call hb1)
      clear hb1 y0 y1 y2 y3 y4 y5
      go_wp2_with fail
      refine (HR.out _ HI1.out).mono ?_
      rintro e w2 ⟨A, n, c, rfl, hk, hb2⟩
      have HI2 := Lib.hid (HI1.out.call hb2)
      clear hk hb2 hrb
      obtain ⟨wz, hwz⟩ : ∃ wz, w2.setCells (w.heap.size + 1) 0 (#[Value.int .i64 0, .bool false, .int .i64 0, .string ⟨#[]⟩, .slice none 0 0, .slice none 0 0] : Array Value).toList = wz := ⟨_, rfl⟩
      have hput := HI2.out.put Sv.zero (zero_okP _ _) wz hwz
      have HT := Lib.hid (svThere HI2.out.all.2.2.2)
      have HWZ := Lib.hid hwz
      have HPUT := Lib.hid hput
      clear hwz hput
      go_upto_region 6 with (fail)
      go_wp2_with (refine wpList_store_mid rfl 25 (.tmp 4) (.tmp 24) rfl (w.heap.size + 1) 0 #[.int .i64 0, .bool false, .int .i64 0, .string ⟨#[]⟩, .slice none 0 0, .slice none 0 0] rfl rfl HT.out sv_size (by simp [Value.oneCell']) ?_; rw [HWZ.out])
      refine bodyPost_ret (v := .tuple #[Sv.zero.val, .int .i64 3]) ?_ rfl ⟨Sv.zero, rfl, rfl, HPUT.out.2.1, HPUT.out.2.2⟩
      exact svRes rfl _ _ (w.heap.size + 1) Sv.zero _ rfl rfl HPUT.out.1
  · have k1 : (ce == 0) = false := by simpa using hce
    have k2 : (ce != 0) = true := by simpa using hce
    rw [if_pos hce] at hev hrv
    subst hev hrv
    clear hconf hce
    unfold Sv.val
    go_enter Tryz.func8, Tryz.ntmps8
    go_wp2_with fail
    refine (HC.out _ HI.out).mono ?_
    rintro e w1 ⟨rfl, hb1⟩
    have HI1 := Lib.hid (HI.out.call hb1)
    clear hb1 y0 y1 y2 y3 y4 y5
    obtain ⟨wz, hwz⟩ : ∃ wz, w1.setCells (w.heap.size + 1) 0 (#[Value.int .i64 0, .bool false, .int .i64 0, .string ⟨#[]⟩, .slice none 0 0, .slice none 0 0] : Array Value).toList = wz := ⟨_, rfl⟩
    have hput := HI1.out.put Sv.zero (zero_okP _ _) wz hwz
    have HT := Lib.hid (svThere HI1.out.all.2.2.2)
    have HWZ := Lib.hid hwz
    have HPUT := Lib.hid hput
    clear hwz hput
    go_upto_region 3 with (fail)
    go_wp2_with (refine wpList_store_mid rfl 25 (.tmp 4) (.tmp 15) rfl (w.heap.size + 1) 0 #[.int .i64 0, .bool false, .int .i64 0, .string ⟨#[]⟩, .slice none 0 0, .slice none 0 0] rfl rfl HT.out sv_size (by simp [Value.oneCell']) ?_; rw [HWZ.out])
    refine bodyPost_ret (v := .tuple #[Sv.zero.val, .int .i64 ce]) ?_ rfl ⟨Sv.zero, rfl, rfl, HPUT.out.2.1, HPUT.out.2.2⟩
    exact svRes rfl _ _ (w.heap.size + 1) Sv.zero _ rfl rfl HPUT.out.1
end Go.Proofs.YtohkdckllmmfhaaGreatDoor
