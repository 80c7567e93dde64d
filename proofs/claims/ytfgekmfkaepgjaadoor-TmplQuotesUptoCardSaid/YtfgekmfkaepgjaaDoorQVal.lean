/- DERIVED. What the writer's value and items methods leave in it: the value's constant, by induction over the value. Condition: there is room for it. -/
import Derived.Test.YtfgekmfkaepgjaaDoorQText
import Derived.Test.YtfgekmfkaepgjaaDoorQLen
namespace Go.Proofs.YtfgekmfkaepgjaaDoor
set_option linter.unusedVariables false
open Go.RowKit
theorem Fr.kept {B b g : Nat} {w w' : World} {c : Array Value} {fz : Nat × Nat} (h : Fr B b w w') (hg : w.heap[g]? = some (.cells c 25 fz)) (hb : g ≠ b) : w'.heap[g]? = some (.cells c 25 fz) :=
  h.oth _ _ hg (by simpa using hb) (fun c' fz' e => by simp only [Obj.cells.injEq] at e; exact absurd e.2.1 (by decide))
theorem six {W : World} {g : Nat} {a0 a1 a2 a3 a4 a5 : Value} {T : TypeId} {fz : Nat × Nat} (h : W.heap[g]? = some (.cells #[a0, a1, a2, a3, a4, a5] T fz)) :
    W.cell? ⟨g, 0, none⟩ = some a0 ∧ W.cell? ⟨g, 1, none⟩ = some a1 ∧ W.cell? ⟨g, 2, none⟩ = some a2 ∧ W.cell? ⟨g, 3, none⟩ = some a3 ∧ W.cell? ⟨g, 4, none⟩ = some a4 ∧ W.cell? ⟨g, 5, none⟩ = some a5 := by
  refine ⟨?_, ?_, ?_, ?_, ?_, ?_⟩ <;> (rw [cell_of_row _ _ _ _ _ _ h]; rfl)
theorem QAt.grow {B b : Nat} {l : List UInt8} {v : Value} {w w2 : World} (h : QAt B b l v w) (hgrow : w.grownBy w2 v.ownBlock) : Fr B b w w2 :=
  ⟨(Below.refl B w).grown hgrow (by have := h.lo; have := h.lt; omega) (fun k hk => (h.row.lt k hk).1), (Lib.OthersKept.refl 5 (some b) w).grown hgrow (fun g hg => own_kind h.row g hg)⟩
/-- The table of powers of ten stands, and what lies below B bears it. -/
def PTab (B : Nat) (w : World) : Prop := ∀ w', Below B w w' → PowTab w'
theorem PTab.fr {B b : Nat} {w w' : World} (h : PTab B w) (f : Fr B b w w') : PTab B w' := fun _ g => h _ (f.bel.trans g)
theorem PTab.self {B : Nat} {w : World} (h : PTab B w) : PowTab w := h _ (Below.refl _ _)
/-- What is asked of the method at one value. -/
def QVal (B b : Nat) (k : Int) (bo : Bool) (i : Int) (t : ByteArray) (items : Vals) (keys : List ByteArray) : Prop :=
  ∀ (A1 : Option Addr) (n1 c1 : Nat) (A2 : Option Addr) (n2 c2 : Nat) (p : List UInt8) (v : Value) (wX : World), QAt B b p v wX → VOk wX B k i t A1 n1 c1 A2 n2 c2 items keys → PTab B wX → B ≤ wX.heap.size → p.length + vM t items keys ≤ 140737488355328 →
    Calls Tryd.prog 27 #[.pointer (some ⟨b, 0, none⟩), .agg #[.int .i64 k, .bool bo, .int .i64 i, .string t, .slice A1 n1 c1, .slice A2 n2 c2]] wX fun e w' => e = .returned (.tuple #[]) ∧ (∃ v', QAt B b (p ++ vT k bo i t items keys) v' w') ∧ Fr B b wX w'

set_option maxRecDepth 100000 in
set_option maxHeartbeats 4000000 in
theorem qitems5_gen (B b : Nat) (l : List UInt8) (v : Value) (bo : Bool) (i : Int) (t : ByteArray) (A1 : Option Addr) (n1 c1 : Nat) (A2 : Option Addr) (n2 c2 : Nat) (items : Vals) (keys : List ByteArray) (w : World)
    (hq : QAt B b l v w) (hv : VOk w B 5 i t A1 n1 c1 A2 n2 c2 items keys) (hpt : PTab B w) (hBw : B ≤ w.heap.size) (hlen : l.length + (200 * items.nodes + 8 * items.letters + 8 * kz keys + 2) ≤ 140737488355328)
    (hc : ∀ (j : Nat) (k : Int) (bo : Bool) (i : Int) (t : ByteArray) (it : Vals) (ks : List ByteArray) (rest : Vals), items.drop j = .cons k bo i t it ks rest → QVal B b k bo i t it ks) :
    Calls Tryd.prog 35 #[.pointer (some ⟨b, 0, none⟩), .int .u8 91, .int .u8 93, .agg #[.int .i64 5, .bool bo, .int .i64 i, .string t, .slice A1 n1 c1, .slice A2 n2 c2]] w
      fun e w' => e = .returned (.tuple #[]) ∧ (∃ v', QAt B b (l ++ (91 :: (items.qt false keys 0 ++ [93]))) v' w') ∧ Fr B b w w' := by
  obtain ⟨i0, hi, hz0, hz1, hz2⟩ := info_parts u8Info
  have hoki := Vals.okI_at hv.at_
  have hcm : n1 ≤ maxLen := Nat.le_trans hv.nc1 hv.cm1
  unfold maxLen at hcm
  have hcm2 : n2 ≤ maxLen := Nat.le_trans hv.nc2 hv.cm2
  unfold maxLen at hcm2
  have hnl := hv.at_.len_eq
  have hks := hv.ks.1
  have HNL := Lib.hid hnl; clear hnl
  have HKL := Lib.hid hks; clear hks
  have HC := Lib.hid hc; clear hc
  have HVO := Lib.hid hv; clear hv
  have HPT0 := Lib.hid hpt; clear hpt
  have hbw := hq.lt
  have hlo := hq.lo
  obtain ⟨W1, hW⟩ : ∃ W1, w.alloc (.cells #[.int .i64 5, .bool bo, .int .i64 i, .string t, .slice A1 n1 c1, .slice A2 n2 c2] 25) = W1 := ⟨_, rfl⟩
  have hgb : W1.heap[w.heap.size]? = some (.cells #[.int .i64 5, .bool bo, .int .i64 i, .string t, .slice A1 n1 c1, .slice A2 n2 c2] 25 (0, 0)) := by
    rw [← hW]
    show (w.heap.push _)[w.heap.size]? = _
    exact Array.getElem?_push_size
  have HG := Lib.hid (fun W (f : Fr B b W1 W) => six (f.kept hgb (by omega)))
  have F0 : Fr B b w W1 := hW ▸ Fr.alloc _ hBw
  have HF0 := Lib.hid F0; clear F0
  have q0 : QAt B b l v W1 := hW ▸ hq.alloc _
  have d0 := q0.cell
  have HQ := Lib.hid q0; clear q0 hq
  have HLEN := Lib.hid hlen
  have HM1 := Lib.hid (show l.length + 1 ≤ 140737488355328 by omega)
  clear hlen
  go_enter Tryd.func35, Tryd.ntmps35
  go_wp2_with (at_builtin; refine wpList_append_own _ rfl _ _ 45 rfl B 5 i0 (.int .u8 0) 1 1 Tryd.underlying45 hi hz0 hz1 hz2 rfl (by decide) _ _ _ rfl (HQ.out.row.alloc _) ⟨W1.heap.size, 0, none⟩ 1 1 [.int .u8 91] rfl rfl ?n1a ?n1b ?n1c ?n1d ?n1e ?_)
  case n1a => first | exact fun j u h => news1 W1 _ _ _ rfl j u h | (intro j u h; exact news1 W1 _ _ _ rfl j u h)
  case n1b => intro u hu; simp at hu; subst hu; rfl
  case n1c => have := HM1.out; unfold maxLen; omega
  case n1d => have := HM1.out; omega
  case n1e => exact Nat.le_trans HQ.out.lo (Nat.le_trans (Nat.le_of_lt HQ.out.lt) (by simp))
  intro v1 w1 hown1 hgrow1 _
  obtain ⟨m1, hm1⟩ : ∃ m1, m1 = (l).length + 1 := ⟨_, rfl⟩
  rw [← hm1] at hown1
  obtain ⟨ao1, cp1, rfl⟩ := slice_own hown1
  have G1 := Lib.hid ((Fr.alloc (b := b) _ (Nat.le_trans HQ.out.lo (Nat.le_of_lt HQ.out.lt))).trans (QAt.grow (HQ.out.alloc _) hgrow1))
  have st1 := QAt.step (xs := [91]) (HQ.out.alloc _) hown1 (by rw [hm1]; rfl) hgrow1
  clear hown1 hgrow1 hm1
  obtain ⟨d1, f1, q1, r1⟩ := st1
  have Q1 := Lib.hid q1; clear q1
  have R1 := Lib.hid ((Fr.alloc (b := b) _ (Nat.le_trans HQ.out.lo (Nat.le_of_lt HQ.out.lt))).trans r1); clear r1
  
  obtain ⟨y0, y1, y2, y3, y4, y5⟩ := HG.out _ G1.out
  go_wp2_with fail
  clear d1 f1 d0 y0 y1 y2 y3 y4 y5
  have hs0 : (l ++ [91]) ++ (items.drop 0).qt false keys 0 = l ++ (91 :: items.qt false keys 0) := by rw [Vals.drop_zero]; simp
  go_loopw [24] (fun i' wr => ∃ (j : Nat) (p : List UInt8) (v : Value), j ≤ n1 ∧ i' = .int .i64 j ∧ p ++ (items.drop j).qt false keys j = l ++ (91 :: items.qt false keys 0) ∧ p.length + (200 * (items.drop j).nodes + 8 * (items.drop j).letters + 8 * kz (keys.drop j) + 1) ≤ 140737488355328 ∧ QAt B b p v wr ∧ Fr B b W1 wr) (fun i' _ => n1 - (intOf i').toNat)
  case atStart =>
    exact ⟨0, _, _, Nat.zero_le _, rfl, hs0, by have := HLEN.out; rw [Vals.drop_zero, List.drop_zero, List.length_append]; simp only [List.length_cons, List.length_nil]; omega, Q1.out, R1.out⟩
  case round =>
    clear Q1 R1 G1 hs0
    obtain ⟨j, p, v, hj, rfl, hx, hpl, hq, hfr⟩ := hrel
    obtain ⟨ao, cp, rfl⟩ := slice_own hq.row
    have hBr : B ≤ wr.heap.size := Nat.le_trans hq.lo (Nat.le_of_lt hq.lt)
    have hbr := hq.lt
    have hgr : w.heap.size < wr.heap.size := by have := hfr.bel.size; rw [← hW] at this; simp at this; omega
    have hp47 : p.length + 1 ≤ 140737488355328 := by omega
    have HFR := Lib.hid hfr; clear hfr
    have HX := Lib.hid hx; clear hx
    by_cases hlt : j < n1
    · obtain ⟨b0, off, k1, bo1, i1, t1, B1, m1, d1, B2, m2, d2, it, ks, r, rfl, e1, e2, E⟩ := HVO.out.at_.el j hlt
      have E' := E.below (HF0.out.trans HFR.out).bel
      obtain ⟨hlb, x0, x1, x2, x3, x4, x5, hok⟩ := E'
      clear E
      have hsb : b0 < wr.heap.size := Nat.lt_of_lt_of_le hlb hBr
      have hqt := qt_cons k1 bo1 i1 t1 it ks r false keys j
      have HV := Lib.hid (HC.out j k1 bo1 i1 t1 it ks r e1)
      have hk2 := key_drop keys j
      rw [e1] at hpl
      have hpl' : p.length + (200 * (it.nodes + r.nodes + 1) + 8 * (t1.size + kz ks + it.letters + r.letters) + 8 * kz (keys.drop j) + 1) ≤ 140737488355328 := hpl
      clear hpl
      have hx := HX.out
      rw [e1] at hx
      have HX := Lib.hid hx; clear hx
      have HQT := Lib.hid hqt; clear hqt
      have hl9 := vT_len k1 bo1 i1 t1 it ks (i64_wf hok.iwf) (Vals.okI_at hok.at_)
      have HL9 := Lib.hid hl9; clear hl9
      have HPLN := Lib.hid hpl'
      have HK2 := Lib.hid hk2; clear hk2 hpl'
      have HE2 := Lib.hid e2; clear e1 e2
      have HOK := Lib.hid hok; clear hok
      have HPT : Hid (PTab B wr) := Lib.hid (HPT0.out.fr (HF0.out.trans HFR.out))
      obtain ⟨Wi, hWi⟩ : ∃ Wi, wr.alloc (.cells #[.int .i64 k1, .bool bo1, .int .i64 i1, .string t1, .slice B1 m1 d1, .slice B2 m2 d2] 25) = Wi := ⟨_, rfl⟩
      have hgi : Wi.heap[wr.heap.size]? = some (.cells #[.int .i64 k1, .bool bo1, .int .i64 i1, .string t1, .slice B1 m1 d1, .slice B2 m2 d2] 25 (0, 0)) := by
        rw [← hWi]
        show (wr.heap.push _)[wr.heap.size]? = _
        exact Array.getElem?_push_size
      have HI := Lib.hid (fun W (f : Fr B b Wi W) => six (f.kept hgi (by omega)))
      clear hgi
      have FI : Fr B b wr Wi := hWi ▸ Fr.alloc _ hBr
      have HFI := Lib.hid FI; clear FI
      have qI : QAt B b p (.slice ao p.length cp) Wi := hWi ▸ hq.alloc _
      have dI := qI.cell
      have dI1 := qI.cell1
      have HQI := Lib.hid qI; clear qI hq
      go_wp2_with fail
      go_quiet (fail)
      have qD := HQI.out.below (below_drewN (Below.refl _ _) nq)
      have hWd : Fr B b Wi (Wi.drewN nq) := Fr.of_below (below_drewN (Below.refl _ _) nq) (Nat.le_trans hBr HFI.out.bel.size)
      generalize Wi.drewN nq = Wd at *
      clear dI dI1 hWi
      have dD := qD.cell
      have QD := Lib.hid qD; clear qD
      have FD := Lib.hid (HFI.out.trans hWd)
      have HI2 := Lib.hid (fun W (f : Fr B b Wd W) => HI.out W (hWd.trans f))
      have HG2 := Lib.hid (fun W (f : Fr B b Wd W) => HG.out W (HFR.out.trans (HFI.out.trans (hWd.trans f))))
      clear HI hWd x0 x1 x2 x3 x4 x5 HFI HQI
      by_cases hj0 : j = 0
      · have hj0n : ¬ 0 < j := by omega
        have HJ0 := Lib.hid hj0; clear hj0
        obtain ⟨y0, y1, y2, y3, y4, y5⟩ := HG2.out _ (Fr.refl _ _ _)
        obtain ⟨z0, z1, z2, z3, z4, z5⟩ := HI2.out _ (Fr.refl _ _ _)
        go_wp2_with (go_at_call 27; refine (HV.out _ _ _ _ _ _ _ _ _ QD.out (HOK.out.below (FD.out).bel) (HPT.out.fr (FD.out)) (Nat.le_trans hBr (FD.out).bel.size) ?len).mono ?_)
        case len => have h1 := HPLN.out; have h2 := HK2.out; unfold vM; (try simp only [List.length_append]); omega
        rintro e w9 ⟨rfl, ⟨v9, q9⟩, r9⟩
        have Q9 := Lib.hid q9; clear q9
        have R9 := Lib.hid r9; clear r9
        go_wp2_with fail
        go_roundw
        case rel => exact ⟨j + 1, _, v9, by omega, by go_num, by rw [HE2.out, ← HX.out, HQT.out]; simp [HJ0.out], by rw [HE2.out]; have h1 := HPLN.out; have h2 := HK2.out; have h3 := HL9.out; unfold vM at h3; simp only [List.length_append]; omega, Q9.out, HFR.out.trans ((FD.out).trans R9.out)⟩
        case measure => simp [intOf]; omega
      · have HM2 := Lib.hid hp47
        go_wp2_with (at_builtin; refine wpList_append_own _ rfl _ _ 45 rfl B 5 i0 (.int .u8 0) 1 1 Tryd.underlying45 hi hz0 hz1 hz2 rfl (by decide) _ _ _ rfl (QD.out.row.alloc _) ⟨Wd.heap.size, 0, none⟩ 1 1 [.int .u8 44] rfl rfl ?n2a ?n2b ?n2c ?n2d ?n2e ?_)
        case n2a => first | exact fun j u h => news1 Wd _ _ _ rfl j u h | (intro j u h; exact news1 Wd _ _ _ rfl j u h)
        case n2b => intro u hu; simp at hu; subst hu; rfl
        case n2c => have := HM2.out; unfold maxLen; omega
        case n2d => have := HM2.out; omega
        case n2e => exact Nat.le_trans QD.out.lo (Nat.le_trans (Nat.le_of_lt QD.out.lt) (by simp))
        intro v2 w2 hown2 hgrow2 _
        obtain ⟨m2, hm2⟩ : ∃ m2, m2 = (p).length + 1 := ⟨_, rfl⟩
        rw [← hm2] at hown2
        obtain ⟨ao2, cp2, rfl⟩ := slice_own hown2
        have G2 := Lib.hid ((Fr.alloc (b := b) _ (Nat.le_trans QD.out.lo (Nat.le_of_lt QD.out.lt))).trans (QAt.grow (QD.out.alloc _) hgrow2))
        have st2 := QAt.step (xs := [44]) (QD.out.alloc _) hown2 (by rw [hm2]; rfl) hgrow2
        clear hown2 hgrow2 hm2
        obtain ⟨d2, f2, q2, r2⟩ := st2
        have Q2 := Lib.hid q2; clear q2
        have R2 := Lib.hid ((Fr.alloc (b := b) _ (Nat.le_trans QD.out.lo (Nat.le_of_lt QD.out.lt))).trans r2); clear r2
        obtain ⟨y0, y1, y2, y3, y4, y5⟩ := HG2.out _ G2.out
        obtain ⟨z0, z1, z2, z3, z4, z5⟩ := HI2.out _ G2.out
        go_wp2_with (go_at_call 27; refine (HV.out _ _ _ _ _ _ _ _ _ Q2.out (HOK.out.below ((FD.out.trans R2.out)).bel) (HPT.out.fr ((FD.out.trans R2.out))) (Nat.le_trans hBr ((FD.out.trans R2.out)).bel.size) ?len).mono ?_)
        case len => have h1 := HPLN.out; have h2 := HK2.out; unfold vM; (try simp only [List.length_append, List.length_cons, List.length_nil]); omega
        rintro e w9 ⟨rfl, ⟨v9, q9⟩, r9⟩
        have Q9 := Lib.hid q9; clear q9
        have R9 := Lib.hid r9; clear r9
        go_wp2_with fail
        go_roundw
        case rel => exact ⟨j + 1, _, v9, by omega, by go_num, by rw [HE2.out, ← HX.out, HQT.out]; simp [hj0], by rw [HE2.out]; have h1 := HPLN.out; have h2 := HK2.out; have h3 := HL9.out; unfold vM at h3; simp only [List.length_append, List.length_cons, List.length_nil]; omega, Q9.out, HFR.out.trans (((FD.out.trans R2.out)).trans R9.out)⟩
        case measure => simp [intOf]; omega
    · obtain rfl : j = n1 := by omega
      have hd : items.drop j = .nil := by rw [HNL.out, Vals.drop_len]
      have hx := HX.out
      rw [hd] at hx
      have hx2 : p = l ++ (91 :: items.qt false keys 0) := by rw [← hx]; simp [Vals.qt]
      have HX2 := Lib.hid hx2; clear hx hx2 hd hpl
      have HM3 := Lib.hid hp47
      have d0 := hq.cell
      have HQ3 := Lib.hid hq; clear hq
      go_wp2_with (at_builtin; refine wpList_append_own _ rfl _ _ 45 rfl B 5 i0 (.int .u8 0) 1 1 Tryd.underlying45 hi hz0 hz1 hz2 rfl (by decide) _ _ _ rfl (HQ3.out.row.alloc _) ⟨wr.heap.size, 0, none⟩ 1 1 [.int .u8 93] rfl rfl ?n3a ?n3b ?n3c ?n3d ?n3e ?_)
      case n3a => first | exact fun j u h => news1 wr _ _ _ rfl j u h | (intro j u h; exact news1 wr _ _ _ rfl j u h)
      case n3b => intro u hu; simp at hu; subst hu; rfl
      case n3c => have := HM3.out; unfold maxLen; omega
      case n3d => have := HM3.out; omega
      case n3e => exact Nat.le_trans HQ3.out.lo (Nat.le_trans (Nat.le_of_lt HQ3.out.lt) (by simp))
      intro v3 w3 hown3 hgrow3 _
      obtain ⟨m3, hm3⟩ : ∃ m3, m3 = (p).length + 1 := ⟨_, rfl⟩
      rw [← hm3] at hown3
      obtain ⟨ao3, cp3, rfl⟩ := slice_own hown3
      have G3 := Lib.hid ((Fr.alloc (b := b) _ (Nat.le_trans HQ3.out.lo (Nat.le_of_lt HQ3.out.lt))).trans (QAt.grow (HQ3.out.alloc _) hgrow3))
      have st3 := QAt.step (xs := [93]) (HQ3.out.alloc _) hown3 (by rw [hm3]; rfl) hgrow3
      clear hown3 hgrow3 hm3
      obtain ⟨d3, f3, q3, r3⟩ := st3
      have Q3 := Lib.hid q3; clear q3
      have R3 := Lib.hid ((Fr.alloc (b := b) _ (Nat.le_trans HQ3.out.lo (Nat.le_of_lt HQ3.out.lt))).trans r3); clear r3
      
      go_wp2_with fail
      clear d3 f3
      go_end0
      exact ⟨rfl, ⟨_, Q3.out.of (by rw [HX2.out]; simp)⟩, HF0.out.trans (HFR.out.trans R3.out)⟩

set_option maxRecDepth 100000 in
set_option maxHeartbeats 4000000 in
theorem qitems6_gen (B b : Nat) (l : List UInt8) (v : Value) (bo : Bool) (i : Int) (t : ByteArray) (A1 : Option Addr) (n1 c1 : Nat) (A2 : Option Addr) (n2 c2 : Nat) (items : Vals) (keys : List ByteArray) (w : World)
    (hq : QAt B b l v w) (hv : VOk w B 6 i t A1 n1 c1 A2 n2 c2 items keys) (hpt : PTab B w) (hBw : B ≤ w.heap.size) (hlen : l.length + (200 * items.nodes + 8 * items.letters + 8 * kz keys + 2) ≤ 140737488355328)
    (hc : ∀ (j : Nat) (k : Int) (bo : Bool) (i : Int) (t : ByteArray) (it : Vals) (ks : List ByteArray) (rest : Vals), items.drop j = .cons k bo i t it ks rest → QVal B b k bo i t it ks) :
    Calls Tryd.prog 35 #[.pointer (some ⟨b, 0, none⟩), .int .u8 123, .int .u8 125, .agg #[.int .i64 6, .bool bo, .int .i64 i, .string t, .slice A1 n1 c1, .slice A2 n2 c2]] w
      fun e w' => e = .returned (.tuple #[]) ∧ (∃ v', QAt B b (l ++ (123 :: (items.qt true keys 0 ++ [125]))) v' w') ∧ Fr B b w w' := by
  obtain ⟨i0, hi, hz0, hz1, hz2⟩ := info_parts u8Info
  have hoki := Vals.okI_at hv.at_
  have hcm : n1 ≤ maxLen := Nat.le_trans hv.nc1 hv.cm1
  unfold maxLen at hcm
  have hcm2 : n2 ≤ maxLen := Nat.le_trans hv.nc2 hv.cm2
  unfold maxLen at hcm2
  have hnl := hv.at_.len_eq
  have hks := hv.ks.1
  have HNL := Lib.hid hnl; clear hnl
  have HKL := Lib.hid hks; clear hks
  have HC := Lib.hid hc; clear hc
  have HVO := Lib.hid hv; clear hv
  have HPT0 := Lib.hid hpt; clear hpt
  have hbw := hq.lt
  have hlo := hq.lo
  obtain ⟨W1, hW⟩ : ∃ W1, w.alloc (.cells #[.int .i64 6, .bool bo, .int .i64 i, .string t, .slice A1 n1 c1, .slice A2 n2 c2] 25) = W1 := ⟨_, rfl⟩
  have hgb : W1.heap[w.heap.size]? = some (.cells #[.int .i64 6, .bool bo, .int .i64 i, .string t, .slice A1 n1 c1, .slice A2 n2 c2] 25 (0, 0)) := by
    rw [← hW]
    show (w.heap.push _)[w.heap.size]? = _
    exact Array.getElem?_push_size
  have HG := Lib.hid (fun W (f : Fr B b W1 W) => six (f.kept hgb (by omega)))
  have F0 : Fr B b w W1 := hW ▸ Fr.alloc _ hBw
  have HF0 := Lib.hid F0; clear F0
  have q0 : QAt B b l v W1 := hW ▸ hq.alloc _
  have d0 := q0.cell
  have HQ := Lib.hid q0; clear q0 hq
  have HLEN := Lib.hid hlen
  have HM1 := Lib.hid (show l.length + 1 ≤ 140737488355328 by omega)
  clear hlen
  go_enter Tryd.func35, Tryd.ntmps35
  go_wp2_with (at_builtin; refine wpList_append_own _ rfl _ _ 45 rfl B 5 i0 (.int .u8 0) 1 1 Tryd.underlying45 hi hz0 hz1 hz2 rfl (by decide) _ _ _ rfl (HQ.out.row.alloc _) ⟨W1.heap.size, 0, none⟩ 1 1 [.int .u8 123] rfl rfl ?n1a ?n1b ?n1c ?n1d ?n1e ?_)
  case n1a => first | exact fun j u h => news1 W1 _ _ _ rfl j u h | (intro j u h; exact news1 W1 _ _ _ rfl j u h)
  case n1b => intro u hu; simp at hu; subst hu; rfl
  case n1c => have := HM1.out; unfold maxLen; omega
  case n1d => have := HM1.out; omega
  case n1e => exact Nat.le_trans HQ.out.lo (Nat.le_trans (Nat.le_of_lt HQ.out.lt) (by simp))
  intro v1 w1 hown1 hgrow1 _
  obtain ⟨m1, hm1⟩ : ∃ m1, m1 = (l).length + 1 := ⟨_, rfl⟩
  rw [← hm1] at hown1
  obtain ⟨ao1, cp1, rfl⟩ := slice_own hown1
  have G1 := Lib.hid ((Fr.alloc (b := b) _ (Nat.le_trans HQ.out.lo (Nat.le_of_lt HQ.out.lt))).trans (QAt.grow (HQ.out.alloc _) hgrow1))
  have st1 := QAt.step (xs := [123]) (HQ.out.alloc _) hown1 (by rw [hm1]; rfl) hgrow1
  clear hown1 hgrow1 hm1
  obtain ⟨d1, f1, q1, r1⟩ := st1
  have Q1 := Lib.hid q1; clear q1
  have R1 := Lib.hid ((Fr.alloc (b := b) _ (Nat.le_trans HQ.out.lo (Nat.le_of_lt HQ.out.lt))).trans r1); clear r1
  
  obtain ⟨y0, y1, y2, y3, y4, y5⟩ := HG.out _ G1.out
  go_wp2_with fail
  clear d1 f1 d0 y0 y1 y2 y3 y4 y5
  have hs0 : (l ++ [123]) ++ (items.drop 0).qt true keys 0 = l ++ (123 :: items.qt true keys 0) := by rw [Vals.drop_zero]; simp
  go_loopw [24] (fun i' wr => ∃ (j : Nat) (p : List UInt8) (v : Value), j ≤ n1 ∧ i' = .int .i64 j ∧ p ++ (items.drop j).qt true keys j = l ++ (123 :: items.qt true keys 0) ∧ p.length + (200 * (items.drop j).nodes + 8 * (items.drop j).letters + 8 * kz (keys.drop j) + 1) ≤ 140737488355328 ∧ QAt B b p v wr ∧ Fr B b W1 wr) (fun i' _ => n1 - (intOf i').toNat)
  case atStart =>
    exact ⟨0, _, _, Nat.zero_le _, rfl, hs0, by have := HLEN.out; rw [Vals.drop_zero, List.drop_zero, List.length_append]; simp only [List.length_cons, List.length_nil]; omega, Q1.out, R1.out⟩
  case round =>
    clear Q1 R1 G1 hs0
    obtain ⟨j, p, v, hj, rfl, hx, hpl, hq, hfr⟩ := hrel
    obtain ⟨ao, cp, rfl⟩ := slice_own hq.row
    have hBr : B ≤ wr.heap.size := Nat.le_trans hq.lo (Nat.le_of_lt hq.lt)
    have hbr := hq.lt
    have hgr : w.heap.size < wr.heap.size := by have := hfr.bel.size; rw [← hW] at this; simp at this; omega
    have hp47 : p.length + 1 ≤ 140737488355328 := by omega
    have HFR := Lib.hid hfr; clear hfr
    have HX := Lib.hid hx; clear hx
    by_cases hlt : j < n1
    · obtain ⟨b0, off, k1, bo1, i1, t1, B1, m1, d1, B2, m2, d2, it, ks, r, rfl, e1, e2, E⟩ := HVO.out.at_.el j hlt
      have E' := E.below (HF0.out.trans HFR.out).bel
      obtain ⟨hlb, x0, x1, x2, x3, x4, x5, hok⟩ := E'
      clear E
      have hsb : b0 < wr.heap.size := Nat.lt_of_lt_of_le hlb hBr
      have hqt := qt_cons k1 bo1 i1 t1 it ks r true keys j
      have HV := Lib.hid (HC.out j k1 bo1 i1 t1 it ks r e1)
      have hk2 := key_drop keys j
      rw [e1] at hpl
      have hpl' : p.length + (200 * (it.nodes + r.nodes + 1) + 8 * (t1.size + kz ks + it.letters + r.letters) + 8 * kz (keys.drop j) + 1) ≤ 140737488355328 := hpl
      clear hpl
      have hx := HX.out
      rw [e1] at hx
      have HX := Lib.hid hx; clear hx
      have HQT := Lib.hid hqt; clear hqt
      have hl9 := vT_len k1 bo1 i1 t1 it ks (i64_wf hok.iwf) (Vals.okI_at hok.at_)
      have HL9 := Lib.hid hl9; clear hl9
      have HPLN := Lib.hid hpl'
      have HK2 := Lib.hid hk2; clear hk2 hpl'
      have HE2 := Lib.hid e2; clear e1 e2
      have HOK := Lib.hid hok; clear hok
      have HPT : Hid (PTab B wr) := Lib.hid (HPT0.out.fr (HF0.out.trans HFR.out))
      obtain ⟨Wi, hWi⟩ : ∃ Wi, wr.alloc (.cells #[.int .i64 k1, .bool bo1, .int .i64 i1, .string t1, .slice B1 m1 d1, .slice B2 m2 d2] 25) = Wi := ⟨_, rfl⟩
      have hgi : Wi.heap[wr.heap.size]? = some (.cells #[.int .i64 k1, .bool bo1, .int .i64 i1, .string t1, .slice B1 m1 d1, .slice B2 m2 d2] 25 (0, 0)) := by
        rw [← hWi]
        show (wr.heap.push _)[wr.heap.size]? = _
        exact Array.getElem?_push_size
      have HI := Lib.hid (fun W (f : Fr B b Wi W) => six (f.kept hgi (by omega)))
      clear hgi
      have FI : Fr B b wr Wi := hWi ▸ Fr.alloc _ hBr
      have HFI := Lib.hid FI; clear FI
      have qI : QAt B b p (.slice ao p.length cp) Wi := hWi ▸ hq.alloc _
      have dI := qI.cell
      have dI1 := qI.cell1
      have HQI := Lib.hid qI; clear qI hq
      go_wp2_with fail
      go_quiet (fail)
      have qD := HQI.out.below (below_drewN (Below.refl _ _) nq)
      have hWd : Fr B b Wi (Wi.drewN nq) := Fr.of_below (below_drewN (Below.refl _ _) nq) (Nat.le_trans hBr HFI.out.bel.size)
      generalize Wi.drewN nq = Wd at *
      clear dI dI1 hWi
      have dD := qD.cell
      have QD := Lib.hid qD; clear qD
      have FD := Lib.hid (HFI.out.trans hWd)
      have HI2 := Lib.hid (fun W (f : Fr B b Wd W) => HI.out W (hWd.trans f))
      have HG2 := Lib.hid (fun W (f : Fr B b Wd W) => HG.out W (HFR.out.trans (HFI.out.trans (hWd.trans f))))
      clear HI hWd x0 x1 x2 x3 x4 x5 HFI HQI
      by_cases hj0 : j = 0
      · have hj0n : ¬ 0 < j := by omega
        have HJ0 := Lib.hid hj0; clear hj0
        obtain ⟨y0, y1, y2, y3, y4, y5⟩ := HG2.out _ (Fr.refl _ _ _)
        obtain ⟨z0, z1, z2, z3, z4, z5⟩ := HI2.out _ (Fr.refl _ _ _)
        have hsd : (keys.getD j ⟨#[]⟩) = keys.getD j ⟨#[]⟩ := rfl
        by_cases hjk : j < n2
        · obtain ⟨b2, o2, rfl, hb2, hcs⟩ := HVO.out.ks.2.2 (by omega)
          obtain ⟨s, hs⟩ : ∃ s, keys.getD j ⟨#[]⟩ = s := ⟨_, rfl⟩
          have hsj : keys[j]? = some s := by
            have hlk : j < keys.length := by rw [← HKL.out]; exact hjk
            rw [← hs, List.getD_eq_getElem?_getD, List.getElem?_eq_getElem hlk]; rfl
          have hkc := fun W (f : Fr B b wr W) => (f.bel.cell (p := ⟨b2, o2 + j, none⟩) hb2).trans (((HF0.out.trans HFR.out).bel.cell (p := ⟨b2, o2 + j, none⟩) hb2).trans (hcs j s hsj))
          have kc := hkc _ FD.out
          clear hkc hcs
          have hb2b : b2 < b := by omega
          have HS := Lib.hid hs; clear hs hsj hsd
          obtain ⟨Lk, hLk⟩ : ∃ Lk, qS (s : ByteArray).data.toList = Lk := ⟨_, rfl⟩
          have HTX := Lib.hid (fun (q : List UInt8) (v : Value) (W : World) (hq : QAt B b q v W) (h1 : q.length + (6 * (s : ByteArray).size + 2) ≤ 140737488355328) (h2 : B ≤ W.heap.size) => (show Calls Tryd.prog 36 #[.pointer (some ⟨b, 0, none⟩), .string s] W fun e w' => e = .returned (.tuple #[]) ∧ (∃ v', QAt B b (q ++ Lk) v' w') ∧ Fr B b W w' from hLk ▸ qtext_any B b q v s W hq h1 h2))
          have hlk2 : Lk.length ≤ 6 * (keys.getD j ⟨#[]⟩).size + 2 := by
            have h4 := qS_len (s : ByteArray).data.toList
            have h5 : (s : ByteArray).data.toList.length = (s : ByteArray).size := Array.length_toList
            rw [← hLk, HS.out]; omega
          have HLK := Lib.hid (show qS (keys.getD j ⟨#[]⟩).data.toList = Lk by rw [HS.out]; exact hLk)
          have HLQ := Lib.hid hlk2
          clear hLk hlk2
          go_wp2_with (go_at_call 36; refine (HTX.out _ _ _ QD.out ?klen (Nat.le_trans hBr (FD.out).bel.size)).mono ?_)
          case klen => have h1 := HPLN.out; have h2 := HK2.out; rw [HS.out] at h2; skip; omega
          first | (rintro e w4 ⟨rfl, ⟨v4, q4⟩, r4⟩; have q4 := q4) | rintro e w4 rfl v4 q4 r4
          obtain ⟨L4, hL4⟩ : ∃ L4, (p ++ Lk) = L4 := ⟨_, rfl⟩
          replace q4 := q4.of hL4
          obtain ⟨ao4, cp4, rfl⟩ := slice_own q4.row
          have d4 := q4.cell
          have HLL := Lib.hid (show L4.length = p.length + Lk.length by rw [← hL4]; simp only [List.length_append]; try omega)
          have HL4 := Lib.hid hL4; clear hL4
          have HM5 := Lib.hid (show L4.length + 1 ≤ 140737488355328 by
            have h1 := HPLN.out; have h2 := HK2.out; have h8 := HLQ.out
            rw [HLL.out]; omega)
          have Q4 := Lib.hid q4; clear q4
          have R4 := Lib.hid ((FD.out).trans r4)
          have HI4 := Lib.hid (fun W (f : Fr B b w4 W) => HI2.out W ((Fr.refl _ _ _).trans (r4.trans f)))
          clear r4
          go_wp2_with (at_builtin; refine wpList_append_own _ rfl _ _ 45 rfl B 5 i0 (.int .u8 0) 1 1 Tryd.underlying45 hi hz0 hz1 hz2 rfl (by decide) _ _ _ rfl (Q4.out.row.alloc _) ⟨w4.heap.size, 0, none⟩ 1 1 [.int .u8 58] rfl rfl ?n5a ?n5b ?n5c ?n5d ?n5e ?_)
          case n5a => first | exact fun j u h => news1 w4 _ _ _ rfl j u h | (intro j u h; exact news1 w4 _ _ _ rfl j u h)
          case n5b => intro u hu; simp at hu; subst hu; rfl
          case n5c => have := HM5.out; unfold maxLen; omega
          case n5d => have := HM5.out; omega
          case n5e => exact Nat.le_trans Q4.out.lo (Nat.le_trans (Nat.le_of_lt Q4.out.lt) (by simp))
          intro v5 w5 hown5 hgrow5 _
          obtain ⟨m5, hm5⟩ : ∃ m5, m5 = (L4).length + 1 := ⟨_, rfl⟩
          rw [← hm5] at hown5
          obtain ⟨ao5, cp5, rfl⟩ := slice_own hown5
          have G5 := Lib.hid ((Fr.alloc (b := b) _ (Nat.le_trans Q4.out.lo (Nat.le_of_lt Q4.out.lt))).trans (QAt.grow (Q4.out.alloc _) hgrow5))
          have st5 := QAt.step (xs := [58]) (Q4.out.alloc _) hown5 (by rw [hm5]; rfl) hgrow5
          clear hown5 hgrow5 hm5
          obtain ⟨d5, f5, q5, r5⟩ := st5
          have Q5 := Lib.hid q5; clear q5
          have R5 := Lib.hid ((Fr.alloc (b := b) _ (Nat.le_trans Q4.out.lo (Nat.le_of_lt Q4.out.lt))).trans r5); clear r5
          obtain ⟨z0, z1, z2, z3, z4, z5⟩ := HI4.out _ G5.out
          go_wp2_with (go_at_call 27; refine (HV.out _ _ _ _ _ _ _ _ _ Q5.out (HOK.out.below (R4.out.trans R5.out).bel) (HPT.out.fr (R4.out.trans R5.out)) (Nat.le_trans hBr (R4.out.trans R5.out).bel.size) ?len).mono ?_)
          case len => have h1 := HPLN.out; have h2 := HK2.out;  have h7 := HLL.out; have h8 := HLQ.out; unfold vM; (try simp only [List.length_append, List.length_cons, List.length_nil]); omega
          rintro e w9 ⟨rfl, ⟨v9, q9⟩, r9⟩
          have Q9 := Lib.hid q9; clear q9
          have R9 := Lib.hid r9; clear r9
          go_wp2_with fail
          go_roundw
          case rel => exact ⟨j + 1, _, v9, by omega, by go_num, by rw [HE2.out, ← HX.out, HQT.out, HLK.out]; simp [HJ0.out, ← HL4.out], by rw [HE2.out]; have h1 := HPLN.out; have h2 := HK2.out; have h3 := HL9.out;  have h7 := HLL.out; have h8 := HLQ.out; unfold vM at h3; simp only [List.length_append, List.length_cons, List.length_nil]; omega, Q9.out, HFR.out.trans ((R4.out.trans R5.out).trans R9.out)⟩
          case measure => simp [intOf]; omega
        · obtain ⟨s, hs⟩ : ∃ s : ByteArray, s = ⟨#[]⟩ := ⟨_, rfl⟩
          have HS := Lib.hid (show keys.getD j ⟨#[]⟩ = s by
            have hlk : keys.length ≤ j := by rw [← HKL.out]; omega
            rw [hs, List.getD_eq_getElem?_getD, List.getElem?_eq_none hlk]; rfl)
          clear hsd
          subst hs
          obtain ⟨Lk, hLk⟩ : ∃ Lk, qS (⟨#[]⟩ : ByteArray).data.toList = Lk := ⟨_, rfl⟩
          have HTX := Lib.hid (fun (q : List UInt8) (v : Value) (W : World) (hq : QAt B b q v W) (h1 : q.length + (6 * (⟨#[]⟩ : ByteArray).size + 2) ≤ 140737488355328) (h2 : B ≤ W.heap.size) => (show Calls Tryd.prog 36 #[.pointer (some ⟨b, 0, none⟩), .string ⟨#[]⟩] W fun e w' => e = .returned (.tuple #[]) ∧ (∃ v', QAt B b (q ++ Lk) v' w') ∧ Fr B b W w' from hLk ▸ qtext_any B b q v ⟨#[]⟩ W hq h1 h2))
          have hlk2 : Lk.length ≤ 6 * (keys.getD j ⟨#[]⟩).size + 2 := by
            have h4 := qS_len (⟨#[]⟩ : ByteArray).data.toList
            have h5 : (⟨#[]⟩ : ByteArray).data.toList.length = (⟨#[]⟩ : ByteArray).size := Array.length_toList
            rw [← hLk, HS.out]; omega
          have HLK := Lib.hid (show qS (keys.getD j ⟨#[]⟩).data.toList = Lk by rw [HS.out]; exact hLk)
          have HLQ := Lib.hid hlk2
          clear hLk hlk2
          go_wp2_with (go_at_call 36; refine (HTX.out _ _ _ QD.out ?klen (Nat.le_trans hBr (FD.out).bel.size)).mono ?_)
          case klen => have h1 := HPLN.out; have h2 := HK2.out; rw [HS.out] at h2; skip; omega
          first | (rintro e w4 ⟨rfl, ⟨v4, q4⟩, r4⟩; have q4 := q4) | rintro e w4 rfl v4 q4 r4
          obtain ⟨L4, hL4⟩ : ∃ L4, (p ++ Lk) = L4 := ⟨_, rfl⟩
          replace q4 := q4.of hL4
          obtain ⟨ao4, cp4, rfl⟩ := slice_own q4.row
          have d4 := q4.cell
          have HLL := Lib.hid (show L4.length = p.length + Lk.length by rw [← hL4]; simp only [List.length_append]; try omega)
          have HL4 := Lib.hid hL4; clear hL4
          have HM5 := Lib.hid (show L4.length + 1 ≤ 140737488355328 by
            have h1 := HPLN.out; have h2 := HK2.out; have h8 := HLQ.out
            rw [HLL.out]; omega)
          have Q4 := Lib.hid q4; clear q4
          have R4 := Lib.hid ((FD.out).trans r4)
          have HI4 := Lib.hid (fun W (f : Fr B b w4 W) => HI2.out W ((Fr.refl _ _ _).trans (r4.trans f)))
          clear r4
          go_wp2_with (at_builtin; refine wpList_append_own _ rfl _ _ 45 rfl B 5 i0 (.int .u8 0) 1 1 Tryd.underlying45 hi hz0 hz1 hz2 rfl (by decide) _ _ _ rfl (Q4.out.row.alloc _) ⟨w4.heap.size, 0, none⟩ 1 1 [.int .u8 58] rfl rfl ?n5a ?n5b ?n5c ?n5d ?n5e ?_)
          case n5a => first | exact fun j u h => news1 w4 _ _ _ rfl j u h | (intro j u h; exact news1 w4 _ _ _ rfl j u h)
          case n5b => intro u hu; simp at hu; subst hu; rfl
          case n5c => have := HM5.out; unfold maxLen; omega
          case n5d => have := HM5.out; omega
          case n5e => exact Nat.le_trans Q4.out.lo (Nat.le_trans (Nat.le_of_lt Q4.out.lt) (by simp))
          intro v5 w5 hown5 hgrow5 _
          obtain ⟨m5, hm5⟩ : ∃ m5, m5 = (L4).length + 1 := ⟨_, rfl⟩
          rw [← hm5] at hown5
          obtain ⟨ao5, cp5, rfl⟩ := slice_own hown5
          have G5 := Lib.hid ((Fr.alloc (b := b) _ (Nat.le_trans Q4.out.lo (Nat.le_of_lt Q4.out.lt))).trans (QAt.grow (Q4.out.alloc _) hgrow5))
          have st5 := QAt.step (xs := [58]) (Q4.out.alloc _) hown5 (by rw [hm5]; rfl) hgrow5
          clear hown5 hgrow5 hm5
          obtain ⟨d5, f5, q5, r5⟩ := st5
          have Q5 := Lib.hid q5; clear q5
          have R5 := Lib.hid ((Fr.alloc (b := b) _ (Nat.le_trans Q4.out.lo (Nat.le_of_lt Q4.out.lt))).trans r5); clear r5
          obtain ⟨z0, z1, z2, z3, z4, z5⟩ := HI4.out _ G5.out
          go_wp2_with (go_at_call 27; refine (HV.out _ _ _ _ _ _ _ _ _ Q5.out (HOK.out.below (R4.out.trans R5.out).bel) (HPT.out.fr (R4.out.trans R5.out)) (Nat.le_trans hBr (R4.out.trans R5.out).bel.size) ?len).mono ?_)
          case len => have h1 := HPLN.out; have h2 := HK2.out;  have h7 := HLL.out; have h8 := HLQ.out; unfold vM; (try simp only [List.length_append, List.length_cons, List.length_nil]); omega
          rintro e w9 ⟨rfl, ⟨v9, q9⟩, r9⟩
          have Q9 := Lib.hid q9; clear q9
          have R9 := Lib.hid r9; clear r9
          go_wp2_with fail
          go_roundw
          case rel => exact ⟨j + 1, _, v9, by omega, by go_num, by rw [HE2.out, ← HX.out, HQT.out, HLK.out]; simp [HJ0.out, ← HL4.out], by rw [HE2.out]; have h1 := HPLN.out; have h2 := HK2.out; have h3 := HL9.out;  have h7 := HLL.out; have h8 := HLQ.out; unfold vM at h3; simp only [List.length_append, List.length_cons, List.length_nil]; omega, Q9.out, HFR.out.trans ((R4.out.trans R5.out).trans R9.out)⟩
          case measure => simp [intOf]; omega
      · have HM2 := Lib.hid hp47
        go_wp2_with (at_builtin; refine wpList_append_own _ rfl _ _ 45 rfl B 5 i0 (.int .u8 0) 1 1 Tryd.underlying45 hi hz0 hz1 hz2 rfl (by decide) _ _ _ rfl (QD.out.row.alloc _) ⟨Wd.heap.size, 0, none⟩ 1 1 [.int .u8 44] rfl rfl ?n2a ?n2b ?n2c ?n2d ?n2e ?_)
        case n2a => first | exact fun j u h => news1 Wd _ _ _ rfl j u h | (intro j u h; exact news1 Wd _ _ _ rfl j u h)
        case n2b => intro u hu; simp at hu; subst hu; rfl
        case n2c => have := HM2.out; unfold maxLen; omega
        case n2d => have := HM2.out; omega
        case n2e => exact Nat.le_trans QD.out.lo (Nat.le_trans (Nat.le_of_lt QD.out.lt) (by simp))
        intro v2 w2 hown2 hgrow2 _
        obtain ⟨m2, hm2⟩ : ∃ m2, m2 = (p).length + 1 := ⟨_, rfl⟩
        rw [← hm2] at hown2
        obtain ⟨ao2, cp2, rfl⟩ := slice_own hown2
        have G2 := Lib.hid ((Fr.alloc (b := b) _ (Nat.le_trans QD.out.lo (Nat.le_of_lt QD.out.lt))).trans (QAt.grow (QD.out.alloc _) hgrow2))
        have st2 := QAt.step (xs := [44]) (QD.out.alloc _) hown2 (by rw [hm2]; rfl) hgrow2
        clear hown2 hgrow2 hm2
        obtain ⟨d2, f2, q2, r2⟩ := st2
        have Q2 := Lib.hid q2; clear q2
        have R2 := Lib.hid ((Fr.alloc (b := b) _ (Nat.le_trans QD.out.lo (Nat.le_of_lt QD.out.lt))).trans r2); clear r2
        obtain ⟨y0, y1, y2, y3, y4, y5⟩ := HG2.out _ G2.out
        obtain ⟨z0, z1, z2, z3, z4, z5⟩ := HI2.out _ G2.out
        have hsd : (keys.getD j ⟨#[]⟩) = keys.getD j ⟨#[]⟩ := rfl
        by_cases hjk : j < n2
        · obtain ⟨b2, o2, rfl, hb2, hcs⟩ := HVO.out.ks.2.2 (by omega)
          obtain ⟨s, hs⟩ : ∃ s, keys.getD j ⟨#[]⟩ = s := ⟨_, rfl⟩
          have hsj : keys[j]? = some s := by
            have hlk : j < keys.length := by rw [← HKL.out]; exact hjk
            rw [← hs, List.getD_eq_getElem?_getD, List.getElem?_eq_getElem hlk]; rfl
          have hkc := fun W (f : Fr B b wr W) => (f.bel.cell (p := ⟨b2, o2 + j, none⟩) hb2).trans (((HF0.out.trans HFR.out).bel.cell (p := ⟨b2, o2 + j, none⟩) hb2).trans (hcs j s hsj))
          have kc := hkc _ (FD.out.trans G2.out)
          clear hkc hcs
          have hb2b : b2 < b := by omega
          have HS := Lib.hid hs; clear hs hsj hsd
          obtain ⟨Lk, hLk⟩ : ∃ Lk, qS (s : ByteArray).data.toList = Lk := ⟨_, rfl⟩
          have HTX := Lib.hid (fun (q : List UInt8) (v : Value) (W : World) (hq : QAt B b q v W) (h1 : q.length + (6 * (s : ByteArray).size + 2) ≤ 140737488355328) (h2 : B ≤ W.heap.size) => (show Calls Tryd.prog 36 #[.pointer (some ⟨b, 0, none⟩), .string s] W fun e w' => e = .returned (.tuple #[]) ∧ (∃ v', QAt B b (q ++ Lk) v' w') ∧ Fr B b W w' from hLk ▸ qtext_any B b q v s W hq h1 h2))
          have hlk2 : Lk.length ≤ 6 * (keys.getD j ⟨#[]⟩).size + 2 := by
            have h4 := qS_len (s : ByteArray).data.toList
            have h5 : (s : ByteArray).data.toList.length = (s : ByteArray).size := Array.length_toList
            rw [← hLk, HS.out]; omega
          have HLK := Lib.hid (show qS (keys.getD j ⟨#[]⟩).data.toList = Lk by rw [HS.out]; exact hLk)
          have HLQ := Lib.hid hlk2
          clear hLk hlk2
          go_wp2_with (go_at_call 36; refine (HTX.out _ _ _ Q2.out ?klen (Nat.le_trans hBr ((FD.out.trans R2.out)).bel.size)).mono ?_)
          case klen => have h1 := HPLN.out; have h2 := HK2.out; rw [HS.out] at h2; simp only [List.length_append, List.length_cons, List.length_nil]; omega
          first | (rintro e w4 ⟨rfl, ⟨v4, q4⟩, r4⟩; have q4 := q4) | rintro e w4 rfl v4 q4 r4
          obtain ⟨L4, hL4⟩ : ∃ L4, ((p ++ [44]) ++ Lk) = L4 := ⟨_, rfl⟩
          replace q4 := q4.of hL4
          obtain ⟨ao4, cp4, rfl⟩ := slice_own q4.row
          have d4 := q4.cell
          have HLL := Lib.hid (show L4.length = p.length + 1 + Lk.length by rw [← hL4]; simp only [List.length_append, List.length_cons, List.length_nil]; try omega)
          have HL4 := Lib.hid hL4; clear hL4
          have HM5 := Lib.hid (show L4.length + 1 ≤ 140737488355328 by
            have h1 := HPLN.out; have h2 := HK2.out; have h8 := HLQ.out
            rw [HLL.out]; omega)
          have Q4 := Lib.hid q4; clear q4
          have R4 := Lib.hid (((FD.out.trans R2.out)).trans r4)
          have HI4 := Lib.hid (fun W (f : Fr B b w4 W) => HI2.out W ((R2.out).trans (r4.trans f)))
          clear r4
          go_wp2_with (at_builtin; refine wpList_append_own _ rfl _ _ 45 rfl B 5 i0 (.int .u8 0) 1 1 Tryd.underlying45 hi hz0 hz1 hz2 rfl (by decide) _ _ _ rfl (Q4.out.row.alloc _) ⟨w4.heap.size, 0, none⟩ 1 1 [.int .u8 58] rfl rfl ?n5a ?n5b ?n5c ?n5d ?n5e ?_)
          case n5a => first | exact fun j u h => news1 w4 _ _ _ rfl j u h | (intro j u h; exact news1 w4 _ _ _ rfl j u h)
          case n5b => intro u hu; simp at hu; subst hu; rfl
          case n5c => have := HM5.out; unfold maxLen; omega
          case n5d => have := HM5.out; omega
          case n5e => exact Nat.le_trans Q4.out.lo (Nat.le_trans (Nat.le_of_lt Q4.out.lt) (by simp))
          intro v5 w5 hown5 hgrow5 _
          obtain ⟨m5, hm5⟩ : ∃ m5, m5 = (L4).length + 1 := ⟨_, rfl⟩
          rw [← hm5] at hown5
          obtain ⟨ao5, cp5, rfl⟩ := slice_own hown5
          have G5 := Lib.hid ((Fr.alloc (b := b) _ (Nat.le_trans Q4.out.lo (Nat.le_of_lt Q4.out.lt))).trans (QAt.grow (Q4.out.alloc _) hgrow5))
          have st5 := QAt.step (xs := [58]) (Q4.out.alloc _) hown5 (by rw [hm5]; rfl) hgrow5
          clear hown5 hgrow5 hm5
          obtain ⟨d5, f5, q5, r5⟩ := st5
          have Q5 := Lib.hid q5; clear q5
          have R5 := Lib.hid ((Fr.alloc (b := b) _ (Nat.le_trans Q4.out.lo (Nat.le_of_lt Q4.out.lt))).trans r5); clear r5
          obtain ⟨z0, z1, z2, z3, z4, z5⟩ := HI4.out _ G5.out
          go_wp2_with (go_at_call 27; refine (HV.out _ _ _ _ _ _ _ _ _ Q5.out (HOK.out.below (R4.out.trans R5.out).bel) (HPT.out.fr (R4.out.trans R5.out)) (Nat.le_trans hBr (R4.out.trans R5.out).bel.size) ?len).mono ?_)
          case len => have h1 := HPLN.out; have h2 := HK2.out;  have h7 := HLL.out; have h8 := HLQ.out; unfold vM; (try simp only [List.length_append, List.length_cons, List.length_nil]); omega
          rintro e w9 ⟨rfl, ⟨v9, q9⟩, r9⟩
          have Q9 := Lib.hid q9; clear q9
          have R9 := Lib.hid r9; clear r9
          go_wp2_with fail
          go_roundw
          case rel => exact ⟨j + 1, _, v9, by omega, by go_num, by rw [HE2.out, ← HX.out, HQT.out, HLK.out]; simp [hj0, ← HL4.out], by rw [HE2.out]; have h1 := HPLN.out; have h2 := HK2.out; have h3 := HL9.out;  have h7 := HLL.out; have h8 := HLQ.out; unfold vM at h3; simp only [List.length_append, List.length_cons, List.length_nil]; omega, Q9.out, HFR.out.trans ((R4.out.trans R5.out).trans R9.out)⟩
          case measure => simp [intOf]; omega
        · obtain ⟨s, hs⟩ : ∃ s : ByteArray, s = ⟨#[]⟩ := ⟨_, rfl⟩
          have HS := Lib.hid (show keys.getD j ⟨#[]⟩ = s by
            have hlk : keys.length ≤ j := by rw [← HKL.out]; omega
            rw [hs, List.getD_eq_getElem?_getD, List.getElem?_eq_none hlk]; rfl)
          clear hsd
          subst hs
          obtain ⟨Lk, hLk⟩ : ∃ Lk, qS (⟨#[]⟩ : ByteArray).data.toList = Lk := ⟨_, rfl⟩
          have HTX := Lib.hid (fun (q : List UInt8) (v : Value) (W : World) (hq : QAt B b q v W) (h1 : q.length + (6 * (⟨#[]⟩ : ByteArray).size + 2) ≤ 140737488355328) (h2 : B ≤ W.heap.size) => (show Calls Tryd.prog 36 #[.pointer (some ⟨b, 0, none⟩), .string ⟨#[]⟩] W fun e w' => e = .returned (.tuple #[]) ∧ (∃ v', QAt B b (q ++ Lk) v' w') ∧ Fr B b W w' from hLk ▸ qtext_any B b q v ⟨#[]⟩ W hq h1 h2))
          have hlk2 : Lk.length ≤ 6 * (keys.getD j ⟨#[]⟩).size + 2 := by
            have h4 := qS_len (⟨#[]⟩ : ByteArray).data.toList
            have h5 : (⟨#[]⟩ : ByteArray).data.toList.length = (⟨#[]⟩ : ByteArray).size := Array.length_toList
            rw [← hLk, HS.out]; omega
          have HLK := Lib.hid (show qS (keys.getD j ⟨#[]⟩).data.toList = Lk by rw [HS.out]; exact hLk)
          have HLQ := Lib.hid hlk2
          clear hLk hlk2
          go_wp2_with (go_at_call 36; refine (HTX.out _ _ _ Q2.out ?klen (Nat.le_trans hBr ((FD.out.trans R2.out)).bel.size)).mono ?_)
          case klen => have h1 := HPLN.out; have h2 := HK2.out; rw [HS.out] at h2; simp only [List.length_append, List.length_cons, List.length_nil]; omega
          first | (rintro e w4 ⟨rfl, ⟨v4, q4⟩, r4⟩; have q4 := q4) | rintro e w4 rfl v4 q4 r4
          obtain ⟨L4, hL4⟩ : ∃ L4, ((p ++ [44]) ++ Lk) = L4 := ⟨_, rfl⟩
          replace q4 := q4.of hL4
          obtain ⟨ao4, cp4, rfl⟩ := slice_own q4.row
          have d4 := q4.cell
          have HLL := Lib.hid (show L4.length = p.length + 1 + Lk.length by rw [← hL4]; simp only [List.length_append, List.length_cons, List.length_nil]; try omega)
          have HL4 := Lib.hid hL4; clear hL4
          have HM5 := Lib.hid (show L4.length + 1 ≤ 140737488355328 by
            have h1 := HPLN.out; have h2 := HK2.out; have h8 := HLQ.out
            rw [HLL.out]; omega)
          have Q4 := Lib.hid q4; clear q4
          have R4 := Lib.hid (((FD.out.trans R2.out)).trans r4)
          have HI4 := Lib.hid (fun W (f : Fr B b w4 W) => HI2.out W ((R2.out).trans (r4.trans f)))
          clear r4
          go_wp2_with (at_builtin; refine wpList_append_own _ rfl _ _ 45 rfl B 5 i0 (.int .u8 0) 1 1 Tryd.underlying45 hi hz0 hz1 hz2 rfl (by decide) _ _ _ rfl (Q4.out.row.alloc _) ⟨w4.heap.size, 0, none⟩ 1 1 [.int .u8 58] rfl rfl ?n5a ?n5b ?n5c ?n5d ?n5e ?_)
          case n5a => first | exact fun j u h => news1 w4 _ _ _ rfl j u h | (intro j u h; exact news1 w4 _ _ _ rfl j u h)
          case n5b => intro u hu; simp at hu; subst hu; rfl
          case n5c => have := HM5.out; unfold maxLen; omega
          case n5d => have := HM5.out; omega
          case n5e => exact Nat.le_trans Q4.out.lo (Nat.le_trans (Nat.le_of_lt Q4.out.lt) (by simp))
          intro v5 w5 hown5 hgrow5 _
          obtain ⟨m5, hm5⟩ : ∃ m5, m5 = (L4).length + 1 := ⟨_, rfl⟩
          rw [← hm5] at hown5
          obtain ⟨ao5, cp5, rfl⟩ := slice_own hown5
          have G5 := Lib.hid ((Fr.alloc (b := b) _ (Nat.le_trans Q4.out.lo (Nat.le_of_lt Q4.out.lt))).trans (QAt.grow (Q4.out.alloc _) hgrow5))
          have st5 := QAt.step (xs := [58]) (Q4.out.alloc _) hown5 (by rw [hm5]; rfl) hgrow5
          clear hown5 hgrow5 hm5
          obtain ⟨d5, f5, q5, r5⟩ := st5
          have Q5 := Lib.hid q5; clear q5
          have R5 := Lib.hid ((Fr.alloc (b := b) _ (Nat.le_trans Q4.out.lo (Nat.le_of_lt Q4.out.lt))).trans r5); clear r5
          obtain ⟨z0, z1, z2, z3, z4, z5⟩ := HI4.out _ G5.out
          go_wp2_with (go_at_call 27; refine (HV.out _ _ _ _ _ _ _ _ _ Q5.out (HOK.out.below (R4.out.trans R5.out).bel) (HPT.out.fr (R4.out.trans R5.out)) (Nat.le_trans hBr (R4.out.trans R5.out).bel.size) ?len).mono ?_)
          case len => have h1 := HPLN.out; have h2 := HK2.out;  have h7 := HLL.out; have h8 := HLQ.out; unfold vM; (try simp only [List.length_append, List.length_cons, List.length_nil]); omega
          rintro e w9 ⟨rfl, ⟨v9, q9⟩, r9⟩
          have Q9 := Lib.hid q9; clear q9
          have R9 := Lib.hid r9; clear r9
          go_wp2_with fail
          go_roundw
          case rel => exact ⟨j + 1, _, v9, by omega, by go_num, by rw [HE2.out, ← HX.out, HQT.out, HLK.out]; simp [hj0, ← HL4.out], by rw [HE2.out]; have h1 := HPLN.out; have h2 := HK2.out; have h3 := HL9.out;  have h7 := HLL.out; have h8 := HLQ.out; unfold vM at h3; simp only [List.length_append, List.length_cons, List.length_nil]; omega, Q9.out, HFR.out.trans ((R4.out.trans R5.out).trans R9.out)⟩
          case measure => simp [intOf]; omega
    · obtain rfl : j = n1 := by omega
      have hd : items.drop j = .nil := by rw [HNL.out, Vals.drop_len]
      have hx := HX.out
      rw [hd] at hx
      have hx2 : p = l ++ (123 :: items.qt true keys 0) := by rw [← hx]; simp [Vals.qt]
      have HX2 := Lib.hid hx2; clear hx hx2 hd hpl
      have HM3 := Lib.hid hp47
      have d0 := hq.cell
      have HQ3 := Lib.hid hq; clear hq
      go_wp2_with (at_builtin; refine wpList_append_own _ rfl _ _ 45 rfl B 5 i0 (.int .u8 0) 1 1 Tryd.underlying45 hi hz0 hz1 hz2 rfl (by decide) _ _ _ rfl (HQ3.out.row.alloc _) ⟨wr.heap.size, 0, none⟩ 1 1 [.int .u8 125] rfl rfl ?n3a ?n3b ?n3c ?n3d ?n3e ?_)
      case n3a => first | exact fun j u h => news1 wr _ _ _ rfl j u h | (intro j u h; exact news1 wr _ _ _ rfl j u h)
      case n3b => intro u hu; simp at hu; subst hu; rfl
      case n3c => have := HM3.out; unfold maxLen; omega
      case n3d => have := HM3.out; omega
      case n3e => exact Nat.le_trans HQ3.out.lo (Nat.le_trans (Nat.le_of_lt HQ3.out.lt) (by simp))
      intro v3 w3 hown3 hgrow3 _
      obtain ⟨m3, hm3⟩ : ∃ m3, m3 = (p).length + 1 := ⟨_, rfl⟩
      rw [← hm3] at hown3
      obtain ⟨ao3, cp3, rfl⟩ := slice_own hown3
      have G3 := Lib.hid ((Fr.alloc (b := b) _ (Nat.le_trans HQ3.out.lo (Nat.le_of_lt HQ3.out.lt))).trans (QAt.grow (HQ3.out.alloc _) hgrow3))
      have st3 := QAt.step (xs := [125]) (HQ3.out.alloc _) hown3 (by rw [hm3]; rfl) hgrow3
      clear hown3 hgrow3 hm3
      obtain ⟨d3, f3, q3, r3⟩ := st3
      have Q3 := Lib.hid q3; clear q3
      have R3 := Lib.hid ((Fr.alloc (b := b) _ (Nat.le_trans HQ3.out.lo (Nat.le_of_lt HQ3.out.lt))).trans r3); clear r3
      
      go_wp2_with fail
      clear d3 f3
      go_end0
      exact ⟨rfl, ⟨_, Q3.out.of (by rw [HX2.out]; simp)⟩, HF0.out.trans (HFR.out.trans R3.out)⟩

end Go.Proofs.YtfgekmfkaepgjaaDoor
