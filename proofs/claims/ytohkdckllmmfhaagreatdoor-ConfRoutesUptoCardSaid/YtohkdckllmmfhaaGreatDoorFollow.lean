/- DERIVED. What follow and the reference's Follow return for a value that is right and parts: the item to which they lead, or none. Condition: at most 2^40 values; the library's variable ErrSyntax holds an error. -/
import Derived.Test.YtohkdckllmmfhaaGreatDoorFind
namespace Go.Proofs.YtohkdckllmmfhaaGreatDoor
open Go.RowKit
set_option linter.unusedVariables false
/-- One step down. -/
def stepV : Vals → ByteArray → Vals
  | .nil, _ => .nil
  | .cons k _ _ _ it ks _, p => if 0 ≤ stepI k it ks p then it.one (stepI k it ks p).toNat else .nil
def followV (v : Vals) (l : List ByteArray) : Vals := l.foldl stepV v
theorem follow_nil (l : List ByteArray) : followV .nil l = .nil := by
  induction l with
  | nil => rfl
  | cons x r ih => exact ih
theorem follow_snoc {v : Vals} {l : List ByteArray} {k : Nat} {x : ByteArray} (h : l[k]? = some x) : followV v (l.take (k + 1)) = stepV (followV v (l.take k)) x := by
  rw [List.take_add_one, h]
  simp [followV, List.foldl_append]
theorem follow_none {v : Vals} {l : List ByteArray} {k : Nat} (h : followV v (l.take k) = .nil) : followV v l = .nil := by
  have e : followV v l = followV (followV v (l.take k)) (l.drop k) := by
    unfold followV
    rw [← List.foldl_append, List.take_append_drop]
  rw [e, h, follow_nil]
theorem valErr_of {k : Int} {bo : Bool} {i : Int} {t : ByteArray} {it : Vals} {ks : List ByteArray} {r : Vals} (h : (Vals.cons k bo i t it ks r).err leS = 0) : valErr leS k bo i t it.len ks = 0 ∧ it.err leS = 0 ∧ r.err leS = 0 := by
  unfold Vals.err at h
  split at h
  · rename_i h1; exact absurd h h1
  · rename_i h1
    split at h
    · rename_i h2; exact absurd h h2
    · rename_i h2
      exact ⟨Decidable.not_not.1 h1, Decidable.not_not.1 h2, h⟩
theorem keys_of {k : Int} {bo : Bool} {i : Int} {t : ByteArray} {n : Nat} {ks : List ByteArray} (h : valErr leS k bo i t n ks = 0) : (∀ x, x ∈ ks → keyB x = true) ∧ ks.length ≤ n := by
  unfold valErr at h
  split at h
  · cases h
  · split at h
    · cases h
    · rename_i hu
      split at h
      · cases h
      · split at h
        · rename_i ht; exact absurd h ht
        · refine ⟨keysErr_keys _ _ h, ?_⟩
          unfold unB at hu
          simp only [Bool.or_eq_true, not_or] at hu
          have h1 := hu.2
          have h2 := hu.1.2
          simp only [decide_eq_true_eq, not_and, Decidable.not_not] at h1 h2
          rcases Nat.eq_zero_or_pos ks.length with hz | hz
          · omega
          · have := h1 (h2 hz)
            omega
theorem err_one : ∀ (j : Nat) (d : Vals), d.err leS = 0 → (d.one j).err leS = 0
  | _, .nil, _ => by unfold Vals.one; rfl
  | 0, .cons k bo i t it ks r, h => by
    obtain ⟨h1, h2, _⟩ := valErr_of h
    show (Vals.cons k bo i t it ks .nil).err leS = 0
    unfold Vals.err
    rw [if_neg (by rw [h1]; simp), if_neg (by rw [h2]; simp)]
    rfl
  | j + 1, .cons _ _ _ _ _ _ r, h => err_one j r (valErr_of h).2.2
theorem step_lt {k : Int} {it : Vals} {ks : List ByteArray} {p : ByteArray} (hg : Good k it ks) (hp : partB p = true) (h : 0 ≤ stepI k it ks p) : (stepI k it ks p).toNat < it.len := by
  unfold stepI at h ⊢
  by_cases h6 : k = 6
  · rw [if_pos h6] at h ⊢
    unfold idxI at h ⊢
    cases hi : idxK ks p with
    | none => rw [hi] at h; simp at h
    | some j =>
      have := idxK_lt hi
      have := hg.many h6
      simp only [Int.toNat_natCast]
      omega
  · rw [if_neg h6] at h ⊢
    by_cases h5 : k = 5 ∧ idxB p = true ∧ numI p < it.len
    · rw [if_pos h5] at h ⊢
      omega
    · rw [if_neg h5] at h
      omega
/-- A value that is right, and is no larger than n. -/
structure Fine (v : Vals) (n : Nat) : Prop where
  err : v.err leS = 0
  many : v.nodes ≤ n
theorem nodes_one : ∀ (j : Nat) (d : Vals), (d.one j).nodes ≤ d.nodes
  | _, .nil => by unfold Vals.one; exact Nat.le_refl _
  | 0, .cons k bo i t it ks r => by
    show (Vals.cons k bo i t it ks .nil).nodes ≤ _
    simp only [Vals.nodes]
    omega
  | j + 1, .cons _ _ _ _ it _ r => by
    have := nodes_one j r
    show (r.one j).nodes ≤ it.nodes + r.nodes + 1
    omega
theorem Fine.step {v : Vals} {n : Nat} (h : Fine v n) (p : ByteArray) : Fine (stepV v p) n := by
  cases v with
  | nil => exact h
  | cons k bo i t it ks r =>
    show Fine (if 0 ≤ stepI k it ks p then it.one (stepI k it ks p).toNat else .nil) n
    by_cases h0 : 0 ≤ stepI k it ks p
    · rw [if_pos h0]
      refine ⟨err_one _ _ (valErr_of h.err).2.1, ?_⟩
      have h1 := nodes_one (stepI k it ks p).toNat it
      have h2 := h.many
      simp only [Vals.nodes] at h2
      omega
    · rw [if_neg h0]
      exact ⟨rfl, Nat.zero_le _⟩
theorem Fine.follow {v : Vals} {n : Nat} (h : Fine v n) : ∀ l : List ByteArray, Fine (followV v l) n := by
  intro l
  induction l generalizing v with
  | nil => exact h
  | cons x r ih => exact ih (h.step x)
theorem Fine.good {a : Sv} {n : Nat} (h : Fine a.row n) {w : World} {B : Nat} (ha : a.okB w B) (hn : n ≤ 1099511627776) :
    Good a.k a.items a.keys ∧ (∀ x, x ∈ a.keys → keyB x = true) ∧ a.n2 ≤ 1099511627776 := by
  obtain ⟨h1, h2, _⟩ := valErr_of h.err
  refine ⟨good_of rfl h1, (keys_of h1).1, ?_⟩
  have h3 := (keys_of h1).2
  have h4 := ha.ks.1
  have h5 := h.many
  have h6 := Vals.len_le a.items
  simp only [Sv.row, Vals.nodes] at h5
  omega
theorem row_cons {a : Sv} {k : Int} {bo : Bool} {i : Int} {t : ByteArray} {it : Vals} {ks : List ByteArray} (h : a.row = .cons k bo i t it ks .nil) : a.k = k ∧ a.bo = bo ∧ a.i = i ∧ a.t = t ∧ a.items = it ∧ a.keys = ks := by
  unfold Sv.row at h
  injection h with h1 h2 h3 h4 h5 h6
  exact ⟨h1, h2, h3, h4, h5, h6⟩
theorem sv_there {w : World} {N : Nat} {cs : List Value} (h : w.rangeAt N 0 cs) (hc : cs.length = 6) (hf : ∀ j, w.frozen? ⟨N, j, none⟩ = false) : w.there N 0 6 := fun j hj =>
  ⟨World.rangeAt.isSome h j (by omega), by rw [Nat.zero_add]; exact hf j⟩
theorem range6 {w : World} {N : Nat} {a : Sv} (h : w.rangeAt N 0 a.cs.toList) : w.cell? ⟨N, 0, none⟩ = some (.int .i64 a.k) ∧ w.cell? ⟨N, 1, none⟩ = some (.bool a.bo) ∧ w.cell? ⟨N, 2, none⟩ = some (.int .i64 a.i) ∧
    w.cell? ⟨N, 3, none⟩ = some (.string a.t) ∧ w.cell? ⟨N, 4, none⟩ = some (.slice a.A1 a.n1 a.c1) ∧ w.cell? ⟨N, 5, none⟩ = some (.slice a.A2 a.n2 a.c2) := by
  have c : ∀ j v, a.cs.toList[j]? = some v → w.cell? ⟨N, j, none⟩ = some v := fun j v hv => by have := h j v hv; rwa [Nat.zero_add] at this
  exact ⟨c 0 _ rfl, c 1 _ rfl, c 2 _ rfl, c 3 _ rfl, c 4 _ rfl, c 5 _ rfl⟩
theorem range_below {w w' : World} {N B : Nat} {cs : List Value} (h : w.rangeAt N 0 cs) (hb : Below B w w') (hN : N < B) : w'.rangeAt N 0 cs := fun j v hv => (hb.cell (p := ⟨N, 0 + j, none⟩) hN).trans (h j v hv)
theorem there_below {w w' : World} {N B n : Nat} (h : w.there N 0 n) (hb : Below B w w') (hN : N < B) : w'.there N 0 n := fun j hj =>
  ⟨by rw [hb.cell (p := ⟨N, 0 + j, none⟩) hN]; exact (h j hj).1, by rw [hb.frozen (p := ⟨N, 0 + j, none⟩) hN]; exact (h j hj).2⟩
/-- A value, and whether it is there; what it refers to lies below block B. -/
def SetPostB (p : Vals) (B : Nat) (w : World) (e : Ending) (w' : World) : Prop :=
  ∃ a : Sv, e = .returned (.tuple #[a.val, .bool p.isSome]) ∧ a.row = p.orZero ∧ a.okB w' B ∧ Below w.heap.size w w'
set_option maxRecDepth 100000 in
set_option maxHeartbeats 3200000 in
theorem follow_any (s : Sv) (l : List ByteArray) (A : Option Addr) (n c : Nat) (w : World) (B : Nat) (hB : B ≤ w.heap.size) (hs : s.okB w B) (hf : Fine s.row 1099511627776) (hl : KeysAt w w.heap.size l A n) (hn : n ≤ 1099511627776) (hall : l.all partB = true) (hps : ∀ x, x ∈ l → x.size ≤ 400) (hv : ErrV w) :
    Calls Tryz.prog 19 #[s.val, .slice A n c] w (SetPostB (followV s.row l) B w) := by
  obtain ⟨res, hres⟩ : ∃ res, followV s.row l = res := ⟨_, rfl⟩
  rw [hres]
  have HRES := Lib.hid hres
  clear hres
  have HF := Lib.hid hf
  have HL := Lib.hid hl
  have HPS := Lib.hid hps
  have HALL := Lib.hid (fun x hx => List.all_eq_true.1 hall x hx)
  have HV := Lib.hid hv
  have HT0 := Lib.hid (svTwo1 (Below.refl _ ((w.alloc s.box).alloc Sv.zero.box)))
  have HOK0 := Lib.hid (hs.below ((svTwo w s Sv.zero).mono hB))
  clear hs hf hl hps hall hv
  unfold Sv.val
  go_enter Tryz.func19, Tryz.ntmps19
  go_wp2_with fail
  go_loopw [7, 8, 11] (fun _ _ i wr => ∃ (k : Nat) (a : Sv), k ≤ n ∧ i = .int .i64 k ∧ a.row = followV s.row (l.take k) ∧ a.okB wr B ∧ wr.rangeAt w.heap.size 0 a.cs.toList ∧ wr.there w.heap.size 0 6 ∧ wr.there (w.heap.size + 1) 0 6 ∧ w.heap.size + 2 ≤ wr.heap.size ∧ Below w.heap.size w wr) (fun _ _ i _ => n - (intOf i).toNat)
  case atStart => exact ⟨0, s, Nat.zero_le _, rfl, rfl, HOK0.out, svRange HT0.out.2.2.1, svThere HT0.out.2.2.1, svThere HT0.out.2.2.2, HT0.out.2.1, HT0.out.1⟩
  case round =>
    obtain ⟨k, a, hk, rfl, hrow, hok, hra, hth, htr, hsz, hbw⟩ := hrel
    have hfa : Fine a.row 1099511627776 := by rw [hrow]; exact HF.out.follow _
    obtain ⟨hg, hky, hn2⟩ := hfa.good hok (Nat.le_refl _)
    obtain ⟨y0, y1, y2, y3, y4, y5⟩ := range6 hra
    have HROW := Lib.hid hrow
    have HTH := Lib.hid hth
    have HTR := Lib.hid htr
    have HBW := Lib.hid hbw
    have HRA := Lib.hid hra
    have HOK := Lib.hid hok
    have HN := Lib.hid hok.at_.len_eq
    have hnc := hok.nc1
    have hcm := hok.cm1
    unfold maxLen at hcm
    by_cases hlt : k < n
    · have hkl : k < l.length := by rw [← HL.out.1]; exact hlt
      obtain ⟨x, hx⟩ : ∃ x, l[k]? = some x := ⟨_, List.getElem?_eq_getElem hkl⟩
      obtain ⟨b, o, rfl, hbl, hcell⟩ := HL.out.2.2 (by omega)
      have x0 := (hbw.cell (p := ⟨b, o + k, none⟩) hbl).trans (hcell k x hx)
      have hxp := HALL.out x (List.mem_of_getElem? hx)
      have HC := Lib.hid (fun wX (hX : Below wr.heap.size wr wX) => find_any a x wX ((hok.more (by omega : B ≤ wr.heap.size) |>.below hX).more hX.size) hg hn2 hxp (HPS.out x (List.mem_of_getElem? hx)) (HV.out.below (HBW.out.trans (hX.mono (by omega)))))
      have hsn := follow_snoc (v := s.row) hx
      rw [← hrow] at hsn
      have hlt2 := fun h => step_lt (p := x) hg hxp h
      have hlb := hok.at_
      clear hcell hx hkl hrow hth htr hra hok hfa hg hky hn2 hxp
      obtain ⟨ak, abo, ai, at_, aA1, an1, ac1, aA2, an2, ac2, ait, aks⟩ := a
      dsimp only at hlt2 hlb hnc hcm HN HC
      have hsn' : followV s.row (l.take (k + 1)) = if 0 ≤ stepI ak ait aks x then ait.one (stepI ak ait aks x).toNat else .nil := hsn
      clear hsn
      generalize stepI ak ait aks x = j at HC hsn' hlt2
      unfold Sv.val at HC
      dsimp only at HC
      dsimp only at y0 y1 y2 y3 y4 y5
      by_cases hj : 0 ≤ j
      · have hjl := hlt2 hj
        rw [if_pos hj] at hsn'
        obtain ⟨m, rfl⟩ : ∃ m : Nat, j = m := ⟨j.toNat, by omega⟩
        simp only [Int.toNat_natCast] at hsn' hjl
        have hmn : m < an1 := by rw [HN.out]; exact hjl
        obtain ⟨bb, off, k2, bo2, i2, t2, B1, m1, d1, B2, m2, d2, it2, ks2, r2, hA, e1, e2, E⟩ := hlb.el m hmn
        rw [Vals.one_drop m ait e1] at hsn'
        subst hA
        have HE := Lib.hid (fun wX (hX : Below wr.heap.size wr wX) => E.below (hX.mono (by omega)))
        have HSN := Lib.hid hsn'
        have hbb := E.lt
        clear hsn' hlb hlt2 hjl e1 e2 E hbl
        go_wp2_with fail
        refine (HC.out _ (Below.refl _ _)).mono ?_
        rintro e w1 ⟨rfl, hb1⟩
        obtain ⟨-, x1, x2, x3, x4, x5, x6, hok2⟩ := HE.out w1 hb1
        have hra1 := range_below HRA.out hb1 (by omega)
        have hth1 := there_below HTH.out hb1 (by omega)
        have htr1 := there_below HTR.out hb1 (by omega)
        clear y0 y1 y2 y3 y4 y5
        obtain ⟨y0, y1, y2, y3, y4, y5⟩ := range6 hra1
        dsimp only at y0 y1 y2 y3 y4 y5
        obtain ⟨w3, hw3⟩ : ∃ w3, w1.setCells w.heap.size 0 (#[Value.int .i64 k2, .bool bo2, .int .i64 i2, .string t2, .slice B1 m1 d1, .slice B2 m2 d2] : Array Value).toList = w3 := ⟨_, rfl⟩
        have hr3 : w3.rangeAt w.heap.size 0 (#[Value.int .i64 k2, .bool bo2, .int .i64 i2, .string t2, .slice B1 m1 d1, .slice B2 m2 d2] : Array Value).toList := by
          rw [← hw3]; exact World.rangeAt_setCells_same w1 _ _ _ hth1
        have hth3 : w3.there w.heap.size 0 6 := by rw [← hw3]; exact World.there_setCells hth1 _ _ _
        have htr3 : w3.there (w.heap.size + 1) 0 6 := by rw [← hw3]; exact World.there_setCells htr1 _ _ _
        have hs3 : w3.heap.size = w1.heap.size := by rw [← hw3]; exact size_setCells' _ _ _ _
        have hb3 : Below w.heap.size w w3 := by rw [← hw3]; exact below_setCells' (Nat.le_refl _) _ _ (HBW.out.trans (hb1.mono (by omega)))
        have hok3 : VOk w3 B k2 i2 t2 B1 m1 d1 B2 m2 d2 it2 ks2 := by
          refine hok2.keep (fun q hq => ?_) (Nat.le_refl _)
          rw [← hw3]
          exact World.cell?_setCells_out _ _ _ _ _ (fun hb _ => by omega)
        have HREL := Lib.hid (And.intro hr3 (And.intro hth3 (And.intro htr3 (And.intro (show w.heap.size + 2 ≤ w3.heap.size by have := hb1.size; omega) (And.intro hb3 hok3)))))
        have HT1 := Lib.hid hth1
        have HW3 := Lib.hid hw3
        clear hw3 hr3 hth3 htr3 hs3 hb3 hok3 hth1 htr1 hra1 hok2
        have HM := Lib.hid hmn
        go_upto_region 7 with (fail)
        go_wp2_with (refine wpList_store_mid rfl 25 (.tmp 2) (.tmp 25) rfl w.heap.size 0 #[Value.int .i64 k2, .bool bo2, .int .i64 i2, .string t2, .slice B1 m1 d1, .slice B2 m2 d2] rfl rfl HT1.out sv_size (by simp [Value.oneCell']) ?_; rw [HW3.out])
        go_roundw
        case rel =>
          obtain ⟨g1, g2, g3, g4, g5, g6⟩ := HREL.out
          exact ⟨k + 1, ⟨k2, bo2, i2, t2, B1, m1, d1, B2, m2, d2, it2, ks2⟩, by omega, by go_num, HSN.out.symm, g6, g1, g2, g3, g4, g5⟩
        case measure => simp [intOf]; omega
      · rw [if_neg hj] at hsn'
        have hjl : j < 0 := by omega
        have HSN := Lib.hid (show res = .nil by rw [← HRES.out]; exact follow_none hsn')
        clear hsn' hlb hlt2 hj hbl
        go_wp2_with fail
        refine (HC.out _ (Below.refl _ _)).mono ?_
        rintro e w1 ⟨rfl, hb1⟩
        have htr1 := there_below HTR.out hb1 (by omega)
        obtain ⟨w3, hw3⟩ : ∃ w3, w1.setCells (w.heap.size + 1) 0 (#[Value.int .i64 0, .bool false, .int .i64 0, .string ⟨#[]⟩, .slice none 0 0, .slice none 0 0] : Array Value).toList = w3 := ⟨_, rfl⟩
        have hr3 : w3.rangeAt (w.heap.size + 1) 0 Sv.zero.cs.toList := by
          rw [← hw3]; exact World.rangeAt_setCells_same w1 _ _ _ htr1
        have hb3 : Below w.heap.size w w3 := by rw [← hw3]; exact below_setCells' (by omega) _ _ (HBW.out.trans (hb1.mono (by omega)))
        have HW3 := Lib.hid hw3
        have HR := Lib.hid hr3
        have HB := Lib.hid hb3
        have HT1 := Lib.hid htr1
        clear hw3 hr3 hb3 htr1 y0 y1 y2 y3 y4 y5
        go_upto_region 6 with (fail)
        go_wp2_with (refine wpList_store_mid rfl 25 (.tmp 4) (.tmp 20) rfl (w.heap.size + 1) 0 #[.int .i64 0, .bool false, .int .i64 0, .string ⟨#[]⟩, .slice none 0 0, .slice none 0 0] rfl rfl HT1.out sv_size (by simp [Value.oneCell']) ?_; rw [HW3.out])
        rw [HSN.out]
        refine bodyPost_ret (v := .tuple #[Sv.zero.val, .bool false]) ?_ rfl ⟨Sv.zero, rfl, rfl, Sv.zero_ok _ _, HB.out⟩
        exact svRes rfl _ _ (w.heap.size + 1) Sv.zero _ rfl rfl HR.out
    · obtain rfl : k = n := by omega
      have hre : a.row = res := by rw [hrow, ← HRES.out, List.take_of_length_le (by rw [HL.out.1]; exact Nat.le_refl _)]
      have HRE := Lib.hid hre
      clear hrow hth htr hra hok hfa hg hky hn2 hre
      obtain ⟨ak, abo, ai, at_, aA1, an1, ac1, aA2, an2, ac2, ait, aks⟩ := a
      dsimp only at y0 y1 y2 y3 y4 y5
      obtain ⟨w3, hw3⟩ : ∃ w3, wr.setCells (w.heap.size + 1) 0 (#[Value.int .i64 ak, .bool abo, .int .i64 ai, .string at_, .slice aA1 an1 ac1, .slice aA2 an2 ac2] : Array Value).toList = w3 := ⟨_, rfl⟩
      have hr3 : w3.rangeAt (w.heap.size + 1) 0 (Sv.mk ak abo ai at_ aA1 an1 ac1 aA2 an2 ac2 ait aks).cs.toList := by
        rw [← hw3]; exact World.rangeAt_setCells_same wr _ _ _ HTR.out
      have hb3 : Below w.heap.size w w3 := by rw [← hw3]; exact below_setCells' (by omega) _ _ HBW.out
      have hok3 : VOk w3 B ak ai at_ aA1 an1 ac1 aA2 an2 ac2 ait aks := by
        refine VOk.keep (fun q hq => ?_) (Nat.le_refl _) HOK.out
        rw [← hw3]
        exact World.cell?_setCells_out _ _ _ _ _ (fun hb _ => by omega)
      have HW3 := Lib.hid hw3
      have HR := Lib.hid hr3
      have HB := Lib.hid hb3
      have HK3 := Lib.hid hok3
      clear hw3 hr3 hb3 hok3
      go_upto_region 9 with (fail)
      go_wp2_with (refine wpList_store_mid rfl 25 (.tmp 4) (.tmp 27) rfl (w.heap.size + 1) 0 #[Value.int .i64 ak, .bool abo, .int .i64 ai, .string at_, .slice aA1 an1 ac1, .slice aA2 an2 ac2] rfl rfl HTR.out sv_size (by simp [Value.oneCell']) ?_; rw [HW3.out])
      rw [← HRE.out]
      refine bodyPost_ret (v := .tuple #[(Sv.mk ak abo ai at_ aA1 an1 ac1 aA2 an2 ac2 ait aks).val, .bool true]) ?_ rfl ⟨Sv.mk ak abo ai at_ aA1 an1 ac1 aA2 an2 ac2 ait aks, rfl, rfl, HK3.out, HB.out⟩
      exact svRes rfl _ _ (w.heap.size + 1) (Sv.mk ak abo ai at_ aA1 an1 ac1 aA2 an2 ac2 ait aks) _ rfl rfl HR.out
end Go.Proofs.YtohkdckllmmfhaaGreatDoor
