/- DERIVED. What conf's Get and the reference's GetOf return: the item to which a route leads, or the error. Condition: at most 2^40 values and letters; the library's variables MaxLen and ErrSyntax hold what they are declared to hold. -/
import Derived.Test.YtohkdckllmmfhaaGreatDoorCloneV
import Derived.Test.YtohkdckllmmfhaaGreatDoorFollowR
import Derived.Test.YtohkdckllmmfhaaGreatDoorConfChk
namespace Go.Proofs.YtohkdckllmmfhaaGreatDoor
open Go.RowKit
set_option linter.unusedVariables false
theorem Vals.letters_one : ∀ (j : Nat) (d : Vals), (d.one j).letters ≤ d.letters
  | _, .nil => by unfold Vals.one; exact Nat.le_refl _
  | 0, .cons k bo i t it ks r => by
    show (Vals.cons k bo i t it ks .nil).letters ≤ _
    simp only [Vals.letters]
    omega
  | j + 1, .cons _ _ _ t it ks r => by
    have := letters_one j r
    show (r.one j).letters ≤ t.size + kz ks + it.letters + r.letters
    omega
theorem step_letters (v : Vals) (p : ByteArray) : (stepV v p).letters ≤ v.letters := by
  cases v with
  | nil => exact Nat.le_refl _
  | cons k bo i t it ks r =>
    show (if 0 ≤ stepI k it ks p then it.one (stepI k it ks p).toNat else .nil : Vals).letters ≤ _
    by_cases h0 : 0 ≤ stepI k it ks p
    · rw [if_pos h0]
      have := Vals.letters_one (stepI k it ks p).toNat it
      simp only [Vals.letters]
      omega
    · rw [if_neg h0]
      exact Nat.zero_le _
theorem follow_letters : ∀ (l : List ByteArray) (v : Vals), (followV v l).letters ≤ v.letters
  | [], v => Nat.le_refl _
  | x :: r, v => Nat.le_trans (follow_letters r (stepV v x)) (step_letters v x)
/-- The error of Get. -/
def getE (s : Sv) (r : ByteArray) : Int :=
  if confErr leS s.k s.bo s.i s.t s.items s.keys ≠ 0 then confErr leS s.k s.bo s.i s.t s.items s.keys else if routeB r = false then 3 else if (followV s.row (routeL r)).isSome = false then 7 else 0
def getV (s : Sv) (r : ByteArray) : Vals :=
  if confErr leS s.k s.bo s.i s.t s.items s.keys ≠ 0 then .nil else if routeB r = false then .nil else followV s.row (routeL r)
/-- A value and an error. -/
def GetPost (v : Vals) (x : Int) (w : World) (e : Ending) (w' : World) : Prop :=
  ∃ a : Sv, e = .returned (.tuple #[a.val, .int .i64 x]) ∧ a.row = v.orZero ∧ a.okB w' w'.heap.size ∧ Below w.heap.size w w'
theorem conf_one {s : Sv} (h : confErr leS s.k s.bo s.i s.t s.items s.keys = 0) : Fine s.row 1099511627776 := by
  unfold confErr at h
  split at h
  · cases h
  · rename_i h1
    split at h
    · cases h
    · unfold oneErr at h
      split at h
      · rename_i h2; exact absurd h h2
      · rename_i h2
        refine ⟨?_, by simp only [Sv.row, Vals.nodes]; omega⟩
        show (Vals.cons s.k s.bo s.i s.t s.items s.keys .nil).err leS = 0
        unfold Vals.err
        rw [if_neg h2, if_neg (by rw [h]; simp)]
        rfl
theorem route_all {r : ByteArray} (h : routeB r = true) : (routeL r).all partB = true ∧ (routeL r).length ≤ 401 ∧ ∀ x, x ∈ routeL r → x.size ≤ 400 := by
  unfold routeB at h
  unfold routeL
  by_cases h0 : r.size = 0
  · rw [if_pos h0]
    exact ⟨rfl, Nat.zero_le _, (fun x hx => by cases hx)⟩
  · rw [if_neg h0]
    rw [decide_eq_false h0, Bool.false_or] at h
    unfold cutB at h
    simp only [Bool.and_eq_true, decide_eq_true_eq] at h
    refine ⟨h.2, ?_, fun x hx => Nat.le_trans (partsS_size r x hx) h.1⟩
    rw [partsS_len]
    have : Lib.countB r dotS ≤ r.size := Lib.countB_le dotS (by decide) r.size r (Nat.le_refl _)
    omega
theorem svRes_int {fn : Func} {p u : Tmp} (h : fn.results = #[.cell p 25, .tmp u]) (tmps : Array Value) (w : World) (N : Nat) (a : Sv) (x : Value)
    (hp : tmps.getD p undef = .pointer (some ⟨N, 0, none⟩)) (hu : tmps.getD u undef = x) (hr : w.rangeAt N 0 a.cs.toList) : (results fn tmps).run Tryz.prog w = .ok (.tuple #[a.val, x]) w := svRes h tmps w N a x hp hu hr
/-- Two boxes, and what came behind them. -/
def Behind2 (s : Sv) (w wX : World) : Prop := Below (w.heap.size + 2) ((w.alloc s.box).alloc Sv.zero.box) wX
theorem Behind2.start (s : Sv) (w : World) : Behind2 s w ((w.alloc s.box).alloc Sv.zero.box) := Below.refl _ _
theorem Behind2.all {s : Sv} {w wX : World} (h : Behind2 s w wX) : Below w.heap.size w wX ∧ w.heap.size + 2 ≤ wX.heap.size ∧ wX.heap[w.heap.size]? = some s.box ∧ wX.heap[w.heap.size + 1]? = some Sv.zero.box := svTwo1 h
theorem Behind2.call {s : Sv} {w wX wY : World} (h : Behind2 s w wX) (hb : Below wX.heap.size wX wY) : Behind2 s w wY := Below.trans h (hb.mono h.all.2.1)
theorem Behind2.alloc {s : Sv} {w wX : World} (h : Behind2 s w wX) (o : Obj) : Behind2 s w (wX.alloc o) := h.call ((Below.refl _ _).alloc (Nat.le_refl _) o)
/-- What is stored into the second box at the end. -/
theorem Behind2.put {s : Sv} {w wX : World} (h : Behind2 s w wX) (a : Sv) (ha : a.okP wX (fun b => b ≠ w.heap.size + 1 ∧ b < wX.heap.size)) (w' : World) (hw' : wX.setCells (w.heap.size + 1) 0 a.cs.toList = w') :
    w'.rangeAt (w.heap.size + 1) 0 a.cs.toList ∧ a.okB w' w'.heap.size ∧ Below w.heap.size w w' := by
  subst hw'
  have h3 := h.all.2.2.2
  refine ⟨sv_set wX _ a _ rfl (svThere h3), ?_, below_setCells' (by omega) _ _ h.all.1⟩
  refine VP.to_ok (VP.keep (fun x hx => World.cell?_setCells_out _ _ _ _ _ (fun hb _ => absurd hb hx.1)) (fun b hb => ?_) ha)
  rw [size_setCells']
  exact hb.2
theorem zero_okP (w : World) (p : Nat → Prop) : Sv.zero.okP w p :=
  ⟨Nat.le_refl _, Nat.zero_le _, Nat.le_refl _, Nat.zero_le _, by decide, by decide, Nat.zero_le _, rfl, rfl, (fun s hs => by cases hs), fun h => absurd h (Nat.lt_irrefl 0)⟩
set_option maxRecDepth 100000 in
set_option maxHeartbeats 3200000 in
theorem get_any (s : Sv) (r : ByteArray) (w : World) (hs : s.okB w w.heap.size) (hbig : s.items.nodes ≤ 1099511627776) (hl : s.items.letters ≤ 1099511627776) (hn2 : s.n2 ≤ 1099511627776) (hm : MaxL w) (hv : ErrV w) :
    Calls Tryz.prog 7 #[s.val, .string r] w (GetPost (getV s r) (getE s r) w) := by
  have HC := Lib.hid (fun wX (hX : Behind2 s w wX) => confCheck_any s.k s.bo s.i s.t s.A1 s.n1 s.c1 s.A2 s.n2 s.c2 s.items s.keys wX (hs.keep hX.all.1) hbig hl hn2)
  have HR := Lib.hid (fun wX (hX : Behind2 s w wX) => cutRoute_any r wX (hm.below hX.all.1))
  have HI := Lib.hid (Behind2.start s w)
  obtain ⟨y0, y1, y2, y3, y4, y5⟩ := svCells HI.out.all.2.2.1
  obtain ⟨ev, hev⟩ : ∃ ev, getE s r = ev := ⟨_, rfl⟩
  obtain ⟨rv, hrv⟩ : ∃ rv, getV s r = rv := ⟨_, rfl⟩
  rw [hev, hrv]
  unfold getE at hev
  unfold getV at hrv
  have HS := Lib.hid hs
  have HMV := Lib.hid hv
  have hconf := fun h => conf_one (s := s) h
  generalize confErr leS s.k s.bo s.i s.t s.items s.keys = ce at HC hev hrv hconf
  clear hs hbig hl hn2 hm hv
  unfold Sv.box at y0 y1 y2 y3 y4 y5
  have hz : Sv.zero = ⟨0, false, 0, ⟨#[]⟩, none, 0, 0, none, 0, 0, .nil, []⟩ := rfl
  rw [hz] at y0 y1 y2 y3 y4 y5
  dsimp only at y0 y1 y2 y3 y4 y5
  clear hz
  by_cases hce : ce = 0
  · have k1 : (ce == 0) = true := by simpa using hce
    have k2 : (ce != 0) = false := by simpa using hce
    rw [if_neg (by simpa using hce)] at hev hrv
    have HFI := Lib.hid (hconf hce)
    clear hconf hce
    cases hrb : routeB r with
    | true =>
      rw [if_neg (by rw [hrb]; simp)] at hev hrv
      rw [hrb] at HR
      have hra := route_all hrb
      have HRA := Lib.hid hra
      generalize routeL r = l at HR HRA hev hrv
      have HRV := Lib.hid hrv
      have HEV := Lib.hid hev
      clear hrv hev hra hrb
      unfold Sv.val
      go_enter Tryz.func7, Tryz.ntmps7
      go_wp2_with fail
      refine (HC.out _ HI.out).mono ?_
      rintro e w1 ⟨rfl, hb1⟩
      have HI1 := Lib.hid (HI.out.call hb1)
      clear hb1 y0 y1 y2 y3 y4 y5
      go_wp2_with fail
      refine (HR.out _ HI1.out).mono ?_
      rintro e w2 ⟨A, n, c, rfl, hk, hb2⟩
      rw [if_pos rfl] at hk
      have HKY := Lib.hid hk
      have HI2 := Lib.hid (HI1.out.call hb2)
      obtain ⟨y0, y1, y2, y3, y4, y5⟩ := svCells HI2.out.all.2.2.1
      have HFO := Lib.hid (follow_any s l A n c w2 w.heap.size (Nat.le_trans (by omega) HI2.out.all.2.1) (HS.out.below HI2.out.all.1) HFI.out HKY.out.2.2 (by have h1 := HRA.out.2.1; have h2 := HKY.out.2.2.1; omega) HRA.out.1 HRA.out.2.2 (HMV.out.below HI2.out.all.1))
      rw [HRV.out] at HFO HEV
      clear hk hb2
      unfold Sv.val at HFO
      go_wp2_with fail
      refine HFO.out.mono ?_
      rintro e w3 ⟨a1, rfl, hrow, hok, hb3⟩
      have HI3 := Lib.hid ((HI2.out.call hb3).alloc a1.box)
      have HA1 := Lib.hid (svNew w3 a1)
      have HROW := Lib.hid hrow
      have HOK := Lib.hid (show a1.okB (w3.alloc a1.box) w.heap.size from hok.below ((Below.refl w3.heap.size w3).alloc (Nat.le_refl _) a1.box |>.mono (Nat.le_trans (by omega) (HI2.out.call hb3).all.2.1)))
      have hfa : rv.isSome = true → Fine a1.row 1099511627776 := fun h => by
        have hf := HFI.out.follow l
        rw [HRV.out] at hf
        rw [hrow]
        cases rv with
        | nil => cases h
        | cons k bo i t it ks q =>
          have he := valErr_of hf.err
          refine ⟨?_, ?_⟩
          · show (Vals.cons k bo i t it ks .nil).err leS = 0
            unfold Vals.err
            rw [if_neg (by rw [he.1]; simp), if_neg (by rw [he.2.1]; simp)]
            rfl
          · have hm := hf.many
            show (Vals.cons k bo i t it ks .nil).nodes ≤ _
            simp only [Vals.nodes] at hm ⊢
            omega
      have HFA := Lib.hid hfa
      clear hrow hok hb3 y0 y1 y2 y3 y4 y5 hfa
      unfold Sv.val
      cases hso : rv.isSome with
      | true =>
        have HEV2 := Lib.hid (show ev = 0 by rw [← HEV.out, hso]; rfl)
        have HSO := Lib.hid hso
        clear hso
        obtain ⟨x0, x1, x2, x3, x4, x5⟩ := svCells HA1.out
        have HCL := Lib.hid (cloneV_any (a1.items.nodes + 1) a1 (w3.alloc a1.box) (by omega) (HFA.out HSO.out) (HOK.out.more (Nat.le_trans (by omega) HI3.out.all.2.1)))
        have HRO := Lib.hid (show a1.row = rv.orZero from HROW.out)
        unfold Sv.box at x0 x1 x2 x3 x4 x5
        unfold Sv.box Sv.val at HCL
        go_wp2_with fail
        refine HCL.out.mono ?_
        rintro e w4 ⟨a2, rfl, hrow2, hok2, hb4⟩
        have hi4 : Behind2 s w w4 := Below.trans HI3.out (hb4.mono (Behind2.all (s := s) (w := w) HI3.out).2.1)
        have HI4 := Lib.hid hi4
        have hs3 := HI3.out.all.2.1
        unfold Sv.box at hs3
        obtain ⟨wz, hwz⟩ : ∃ wz, w4.setCells (w.heap.size + 1) 0 (#[Value.int .i64 a2.k, .bool a2.bo, .int .i64 a2.i, .string a2.t, .slice a2.A1 a2.n1 a2.c1, .slice a2.A2 a2.n2 a2.c2] : Array Value).toList = wz := ⟨_, rfl⟩
        have hput := HI4.out.put a2 (hok2.keep (fun _ _ => rfl) (fun b h => ⟨by have := h.1; omega, h.2⟩)) wz hwz
        have HT := Lib.hid (svThere HI4.out.all.2.2.2)
        have HWZ := Lib.hid hwz
        have HPUT := Lib.hid hput
        have HR2 := Lib.hid (hrow2.trans HRO.out)
        clear hwz hput hok2 hb4 hrow2 hs3 x0 x1 x2 x3 x4 x5
        unfold Sv.val
        go_wp2_with (refine wpList_store_mid rfl 25 (.tmp 4) (.tmp 34) rfl (w.heap.size + 1) 0 #[Value.int .i64 a2.k, .bool a2.bo, .int .i64 a2.i, .string a2.t, .slice a2.A1 a2.n1 a2.c1, .slice a2.A2 a2.n2 a2.c2] rfl rfl HT.out sv_size (by simp [Value.oneCell']) ?_; rw [HWZ.out])
        refine bodyPost_ret (v := .tuple #[a2.val, .int .i64 0]) ?_ rfl ⟨a2, by rw [HEV2.out], HR2.out, HPUT.out.2.1, HPUT.out.2.2⟩
        exact svRes rfl _ _ (w.heap.size + 1) a2 _ rfl rfl HPUT.out.1
      | false =>
        have HEV2 := Lib.hid (show ev = 7 by rw [← HEV.out, hso]; rfl)
        have HSO := Lib.hid (show rv.orZero = Sv.zero.row by cases rv with | nil => rfl | cons => cases hso)
        clear hso
        obtain ⟨wz, hwz⟩ : ∃ wz, (w3.alloc a1.box).setCells (w.heap.size + 1) 0 (#[Value.int .i64 0, .bool false, .int .i64 0, .string ⟨#[]⟩, .slice none 0 0, .slice none 0 0] : Array Value).toList = wz := ⟨_, rfl⟩
        have hput := HI3.out.put Sv.zero (zero_okP _ _) wz hwz
        have HT := Lib.hid (svThere HI3.out.all.2.2.2)
        unfold Sv.box at hwz HT
        have HWZ := Lib.hid hwz
        have HPUT := Lib.hid hput
        clear hwz hput
        go_upto_region 9 with (fail)
        go_wp2_with (refine wpList_store_mid rfl 25 (.tmp 4) (.tmp 32) rfl (w.heap.size + 1) 0 #[.int .i64 0, .bool false, .int .i64 0, .string ⟨#[]⟩, .slice none 0 0, .slice none 0 0] rfl rfl HT.out sv_size (by simp [Value.oneCell']) ?_; rw [HWZ.out])
        refine bodyPost_ret (v := .tuple #[Sv.zero.val, .int .i64 7]) ?_ rfl ⟨Sv.zero, by rw [HEV2.out], HSO.out.symm, HPUT.out.2.1, HPUT.out.2.2⟩
        exact svRes rfl _ _ (w.heap.size + 1) Sv.zero _ rfl rfl HPUT.out.1
    | false =>
      rw [if_pos hrb] at hev hrv
      subst hev hrv
      rw [hrb] at HR
      unfold Sv.val
      go_enter Tryz.func7, Tryz.ntmps7
      go_wp2_with fail
      refine (HC.out _ HI.out).mono ?_
      rintro e w1 ⟨rfl, hb1⟩
      have HI1 := Lib.hid (HI.out.call hb1)
      clear hb1 y0 y1 y2 y3 y4 y5
      go_wp2_with fail
      refine (HR.out _ HI1.out).mono ?_
      rintro e w2 ⟨A, n, c, rfl, hk, hb2⟩
      have HI2 := Lib.hid (HI1.out.call hb2)
      clear hk hb2 hrb
      obtain ⟨wz, hwz⟩ : ∃ wz, w2.setCells (w.heap.size + 1) 0 (#[Value.int .i64 0, .bool false, .int .i64 0, .string ⟨#[]⟩, .slice none 0 0, .slice none 0 0] : Array Value).toList = wz := ⟨_, rfl⟩
      have hput := HI2.out.put Sv.zero (zero_okP _ _) wz hwz
      have HT := Lib.hid (svThere HI2.out.all.2.2.2)
      have HWZ := Lib.hid hwz
      have HPUT := Lib.hid hput
      clear hwz hput
      go_upto_region 6 with (fail)
      go_wp2_with (refine wpList_store_mid rfl 25 (.tmp 4) (.tmp 23) rfl (w.heap.size + 1) 0 #[.int .i64 0, .bool false, .int .i64 0, .string ⟨#[]⟩, .slice none 0 0, .slice none 0 0] rfl rfl HT.out sv_size (by simp [Value.oneCell']) ?_; rw [HWZ.out])
      refine bodyPost_ret (v := .tuple #[Sv.zero.val, .int .i64 3]) ?_ rfl ⟨Sv.zero, rfl, rfl, HPUT.out.2.1, HPUT.out.2.2⟩
      exact svRes rfl _ _ (w.heap.size + 1) Sv.zero _ rfl rfl HPUT.out.1
  · have k1 : (ce == 0) = false := by simpa using hce
    have k2 : (ce != 0) = true := by simpa using hce
    rw [if_pos hce] at hev hrv
    subst hev hrv
    clear hconf hce
    unfold Sv.val
    go_enter Tryz.func7, Tryz.ntmps7
    go_wp2_with fail
    refine (HC.out _ HI.out).mono ?_
    rintro e w1 ⟨rfl, hb1⟩
    have HI1 := Lib.hid (HI.out.call hb1)
    clear hb1 y0 y1 y2 y3 y4 y5
    obtain ⟨wz, hwz⟩ : ∃ wz, w1.setCells (w.heap.size + 1) 0 (#[Value.int .i64 0, .bool false, .int .i64 0, .string ⟨#[]⟩, .slice none 0 0, .slice none 0 0] : Array Value).toList = wz := ⟨_, rfl⟩
    have hput := HI1.out.put Sv.zero (zero_okP _ _) wz hwz
    have HT := Lib.hid (svThere HI1.out.all.2.2.2)
    have HWZ := Lib.hid hwz
    have HPUT := Lib.hid hput
    clear hwz hput
    go_upto_region 3 with (fail)
    go_wp2_with (refine wpList_store_mid rfl 25 (.tmp 4) (.tmp 14) rfl (w.heap.size + 1) 0 #[.int .i64 0, .bool false, .int .i64 0, .string ⟨#[]⟩, .slice none 0 0, .slice none 0 0] rfl rfl HT.out sv_size (by simp [Value.oneCell']) ?_; rw [HWZ.out])
    refine bodyPost_ret (v := .tuple #[Sv.zero.val, .int .i64 ce]) ?_ rfl ⟨Sv.zero, rfl, rfl, HPUT.out.2.1, HPUT.out.2.2⟩
    exact svRes rfl _ _ (w.heap.size + 1) Sv.zero _ rfl rfl HPUT.out.1
end Go.Proofs.YtohkdckllmmfhaaGreatDoor
