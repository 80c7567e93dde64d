/- DERIVED. asset.MapString. Conditions: the library's variable MaxLen holds a number, and the table of math/bits holds 5 at its place 31. -/
import Derived.Test.YtkobenohijipeaaDoorFmtA
import Derived.Test.YtkobenohijipeaaDoorLocB
import Derived.Test.YtkobenohijipeaaDoorPaths7
import Derived.Test.YtkobenohijipeaaDoorBuilder
import Derived.WalkSpells
import Derived.WalkLawsBesides
import Derived.Lib.OthersKept
import Derived.Deep.AppendLies
import Derived.Maps.AppendAt
namespace Go.Proofs.YtkobenohijipeaaDoor
open Go.RowKit
set_option linter.unusedVariables false
theorem IntsAt.morm {w : World} {B B' : Nat} {A : Option Addr} {zs : List Int} (h : IntsAt w B A zs) (hB : B ≤ B') : IntsAt w B' A zs := fun j z hz => by
  obtain ⟨a, ha, hl, hc⟩ := h j z hz
  exact ⟨a, ha, by omega, hc⟩
theorem box3m {w : World} {N : Nat} {t : TypeId} {x y z : Value} (e : w.heap[N]? = some (.cells #[x, y, z] t (0, 0))) : w.cell? ⟨N, 0, none⟩ = some x ∧ w.cell? ⟨N, 1, none⟩ = some y ∧ w.cell? ⟨N, 2, none⟩ = some z := by
  have h : ∀ j, w.cell? ⟨N, j, none⟩ = (#[x, y, z] : Array Value)[j]? := fun j => cell_of_row _ _ _ _ _ _ e
  exact ⟨h 0, h 1, h 2⟩
theorem d32_len : ∀ f u, (d32 f u).length ≤ f + 1
  | 0, u => Nat.le_refl _
  | f + 1, u => by
    by_cases h : u < 32
    · rw [d32_small h]; simp
    · rw [d32_step h, List.length_append]
      have := d32_len f (u / 32)
      simp
      omega
/-- A line of a map. -/
def mlineB (p : ByteArray) (d : Int) : ByteArray := p ++ ⟨#[32]⟩ ++ ⟨(d32 3 d.toNat).toArray⟩ ++ ⟨#[10]⟩
def mapL (ps : List ByteArray) (zs : List Int) : Nat → List UInt8
  | 0 => []
  | k + 1 => mapL ps zs k ++ (mlineB (ps.getD k ⟨#[]⟩) (zs.getD k 0 - startAt zs k)).data.toList
theorem mapL_succ {ps : List ByteArray} {zs : List Int} {k : Nat} {p : ByteArray} {z : Int} (hp : ps[k]? = some p) (hz : zs[k]? = some z) : mapL ps zs (k + 1) = mapL ps zs k ++ (mlineB p (z - startAt zs k)).data.toList := by
  show mapL ps zs k ++ (mlineB (ps.getD k ⟨#[]⟩) (zs.getD k 0 - startAt zs k)).data.toList = _
  rw [List.getD_eq_getElem?_getD, List.getD_eq_getElem?_getD, hp, hz]
  rfl
theorem mlineB_size (p : ByteArray) (d : Int) : (mlineB p d).size ≤ p.size + 6 := by
  have := d32_len 3 d.toNat
  have e : (⟨(d32 3 d.toNat).toArray⟩ : ByteArray).size = (d32 3 d.toNat).length := by show (d32 3 d.toNat).toArray.size = _; simp
  unfold mlineB
  rw [ByteArray.size_append, ByteArray.size_append, ByteArray.size_append, e]
  show p.size + 1 + _ + 1 ≤ _
  omega
theorem tpath_size {s : ByteArray} (h : tpathB s = true) : s.size ≤ 200 := by
  unfold tpathB at h
  simp only [Bool.and_eq_true, decide_eq_true_eq] at h
  exact h.1
theorem pE_all : ∀ (l d : List ByteArray), pE d l = 0 → ∀ (k : Nat) (x : ByteArray), l[k]? = some x → tpathB x = true
  | [], _, _, k, x, hx => by simp at hx
  | y :: r, d, h, k, x, hx => by
    unfold pE at h
    split at h
    · cases h
    · rename_i h1
      split at h
      · cases h
      · cases k with
        | zero => simp at hx; subst hx; simpa using h1
        | succ k => exact pE_all r _ h k x (by simpa using hx)
theorem mapL_len {ps : List ByteArray} {zs : List Int} (h : ∀ (k : Nat) (x : ByteArray), ps[k]? = some x → x.size ≤ 200) : ∀ k, (mapL ps zs k).length ≤ 206 * k
  | 0 => Nat.le_refl _
  | k + 1 => by
    have h1 := mapL_len (zs := zs) h k
    have h2 := mlineB_size (ps.getD k ⟨#[]⟩) (zs.getD k 0 - startAt zs k)
    have h3 : (ps.getD k ⟨#[]⟩).size ≤ 200 := by
      rw [List.getD_eq_getElem?_getD]
      cases e : ps[k]? with
      | none => exact Nat.zero_le _
      | some x => exact h k x e
    show (mapL ps zs k ++ (mlineB (ps.getD k ⟨#[]⟩) (zs.getD k 0 - startAt zs k)).data.toList).length ≤ _
    rw [List.length_append]
    have h4 : (mlineB (ps.getD k ⟨#[]⟩) (zs.getD k 0 - startAt zs k)).data.toList.length = (mlineB (ps.getD k ⟨#[]⟩) (zs.getD k 0 - startAt zs k)).size := by simp
    omega
theorem start_mono {zs : List Int} {m : Int} (h : rs zs = some m) {k : Nat} {z : Int} (hz : zs[k]? = some z) : startAt zs k ≤ z := by
  have hk := (List.getElem?_eq_some_iff.1 hz).1
  have h1 := (rs_ok h k (by omega)).1
  have h3 := rs_take hz
  rw [h1] at h3
  by_cases hlt : z < startAt zs k
  · rw [rs_none (h3.trans (stpE_lt hlt))] at h
    cases h
  · omega
theorem start_le {zs : List Int} {m : Int} (h : rs zs = some m) : ∀ d k, k + d = zs.length → startAt zs k ≤ m
  | 0, k, hk => by rw [rs_end h, ← hk]; exact Int.le_refl _
  | d + 1, k, hk => by
    obtain ⟨z, hz⟩ : ∃ z, zs[k]? = some z := ⟨_, List.getElem?_eq_getElem (by omega)⟩
    have h1 := start_mono h hz
    have h2 := start_le h d (k + 1) (by omega)
    rw [startAt_succ hz] at h2
    omega
theorem diff_in {zs : List Int} {bz k : Nat} {z : Int} (h : rs zs = some (bz : Int)) (hb : bz ≤ 200000) (hz : zs[k]? = some z) : 0 ≤ z - startAt zs k ∧ z - startAt zs k ≤ 200000 ∧ 0 ≤ startAt zs k ∧ z ≤ 200000 := by
  have hk := (List.getElem?_eq_some_iff.1 hz).1
  have h1 := start_mono h hz
  have h2 := start_le h (zs.length - (k + 1)) (k + 1) (by omega)
  rw [startAt_succ hz] at h2
  have h3 := (rs_ok h k (by omega)).2
  omega
theorem bd_belowA {T e : TypeId} {B b : Nat} {q : Value} {bs : List Value} {W W' : World} (h : Lib.BuilderAtF T e B b q bs W) (hb : Below W.heap.size W W') : Lib.BuilderAtF T e B b q bs W' := by
  have hlt := h.lt
  obtain ⟨hB, v, hv, hown, hne⟩ := h
  exact ⟨hB, v, (hb.block b hlt).trans hv, hown.kept (row := none) ⟨hb.os, hb.tape, hb.output, hb.size, fun k hk _ => hb.block k hk⟩ (Classical.em _), hne⟩
theorem bd_below {T e : TypeId} {B b : Nat} {bs : List Value} {W W' : World} (h : Lib.IsBuilderF T e B b bs W) (hb : Below W.heap.size W W') : Lib.IsBuilderF T e B b bs W' :=
  h.elim (fun x => .inl (bd_belowA x hb)) (fun x => .inr (bd_belowA x hb))
def mapE (bz n1 n2 : Nat) (zs : List Int) (ps : List ByteArray) : Int := if bunE bz n1 n2 zs = 0 then pathsE ps else bunE bz n1 n2 zs
def mapS (bz n1 n2 : Nat) (zs : List Int) (ps : List ByteArray) : ByteArray := if mapE bz n1 n2 zs ps = 0 then ⟨(mapL ps zs n1).toArray⟩ else ⟨#[]⟩
set_option maxRecDepth 100000 in
set_option maxHeartbeats 1600000 in
theorem mapP_any (s : ByteArray) (A1 A2 : Option Addr) (n1 c1 n2 c2 : Nat) (ps : List ByteArray) (zs : List Int) (w : World) (hl : ps.length = n1) (hn : n1 ≤ c1) (hcm : c1 ≤ 9223372036854775807) (hm : MaxT w) (ht : Tz32 w) (hR : StrRow w w.heap.size A1 ps) (hz : zs.length = n2) (hn2 : n2 ≤ maxLen) (hI : IntsAt w w.heap.size A2 zs) :
    Calls Tryd.prog 15 #[.agg #[.string s, .slice A1 n1 c1, .slice A2 n2 c2]] w fun e w' => e = .returned (.tuple #[.string (mapS s.size n1 n2 zs ps), .int .i64 (mapE s.size n1 n2 zs ps)]) ∧ Below w.heap.size w w' := by
  have H1 := Lib.hid (fun wX (hX : Below w.heap.size w wX) => bun_any s A1 A2 n1 c1 n2 c2 zs wX hz hn2 ((hI.below hX (Nat.le_refl _)).morm hX.size))
  have H2 := Lib.hid (fun wX (hX : Below w.heap.size w wX) => paths_any A1 n1 c1 ps wX hl hn hcm (hm.below hX) ((hR.below hX (Nat.le_refl _)).more hX.size))
  have H3 := Lib.hid (fun (k : Nat) (hk : k < 1048576) wX (hX : Below w.heap.size w wX) => fmt32 k wX hk (ht.below hX))
  have HI := Lib.hid hI
  have HZ := Lib.hid hz
  have HR := Lib.hid hR
  have HL := Lib.hid hl
  obtain ⟨er, her⟩ : ∃ er, bunE s.size n1 n2 zs = er := ⟨_, rfl⟩
  obtain ⟨ep, hep⟩ : ∃ ep, pathsE ps = ep := ⟨_, rfl⟩
  rw [her] at H1
  rw [hep] at H2
  clear hI hz hR hl hm ht
  unfold maxLen at hn2
  by_cases hE : er = 0
  · subst hE
    by_cases hP : ep = 0
    · subst hP
      obtain ⟨f1, f2, f3, f4⟩ := fits_inv her
      have HME := Lib.hid (show mapE s.size n1 n2 zs ps = 0 by unfold mapE; rw [if_pos her, hep])
      have HMS := Lib.hid (show mapS s.size n1 n2 zs ps = ⟨(mapL ps zs n1).toArray⟩ by unfold mapS; rw [if_pos HME.out])
      rw [HME.out, HMS.out]
      have HDI := Lib.hid (fun (k : Nat) (z : Int) (hz : zs[k]? = some z) => diff_in f4 f3 hz)
      have HSZ := Lib.hid (fun (k : Nat) x (hx : ps[k]? = some x) => tpath_size (pE_all ps [] hep k x hx))
      have HLE := Lib.hid (mapL_len (zs := zs) HSZ.out)
      clear her hep f3 f4
      subst f1
      go_enter Tryd.func15, Tryd.ntmps15
      go_wp2_with fail
      refine (H1.out _ ((Below.refl _ w).alloc (Nat.le_refl _) _)).mono ?_
      rintro e w1 ⟨rfl, hb1⟩
      have HB := Lib.hid (((Below.refl _ w).alloc (Nat.le_refl _) _).trans (hb1.mono (by simp)))
      have o0 : w1.heap[w.heap.size]? = some (.cells #[.string s, .slice A1 n1 c1, .slice A2 n1 c2] 33 (0, 0)) := (hb1.block w.heap.size (by simp)).trans (heap_alloc_new _ _)
      obtain ⟨e0, e1, e2⟩ := box3m o0
      have HO := Lib.hid o0
      clear o0 hb1
      go_wp2_with fail
      refine (H2.out _ HB.out).mono ?_
      rintro e w2 ⟨rfl, hb2⟩
      have HB2 := Lib.hid (HB.out.trans (hb2.mono HB.out.size))
      have hsz1 : w.heap.size < w1.heap.size := by
        have := (Array.getElem?_eq_some_iff.1 HO.out).1
        exact this
      have o2 : w2.heap[w.heap.size]? = some (.cells #[.string s, .slice A1 n1 c1, .slice A2 n1 c2] 33 (0, 0)) := (hb2.block w.heap.size hsz1).trans HO.out
      have HO2 := Lib.hid o2
      clear e0 e1 e2
      obtain ⟨e0, e1, e2⟩ := box3m o2
      have hsz2 : w.heap.size < w2.heap.size := Nat.lt_of_lt_of_le hsz1 hb2.size
      have E1 : ∀ X, (w2.alloc X).cell? ⟨w.heap.size, 1, none⟩ = some (.slice A1 n1 c1) := fun X => (((Below.refl _ w2).alloc (Nat.le_refl _) X).cell (p := ⟨w.heap.size, 1, none⟩) hsz2).trans e1
      clear o2 hb2
      go_wp2_with fail
      go_loopw [7, 24] (fun st i wr => ∃ k : Nat, k ≤ n1 ∧ i = .int .i64 k ∧ st = .int .i64 (startAt zs k) ∧ Bd w2.heap.size w2.heap.size (mapL ps zs k) wr ∧ Below w2.heap.size w2 wr) (fun _ i _ => n1 - (intOf i).toNat)
      case atStart => exact ⟨0, Nat.zero_le _, rfl, rfl, Lib.IsBuilderF.of (Lib.fresh_isBuilder 66 5 w2), (Below.refl _ _).alloc (Nat.le_refl _) _⟩
      case round =>
        obtain ⟨k, hk, rfl, rfl, hbd, hbw⟩ := hrel
        have hwz := hbw.size
        by_cases hlt : k < n1
        · obtain ⟨p, hp⟩ : ∃ p, ps[k]? = some p := ⟨_, List.getElem?_eq_getElem (by rw [HL.out]; exact hlt)⟩
          obtain ⟨z, hzk⟩ : ∃ z, zs[k]? = some z := ⟨_, List.getElem?_eq_getElem (by rw [HZ.out]; exact hlt)⟩
          obtain ⟨b, off, rfl, hb, hc⟩ : ∃ b off, A1 = some ⟨b, off, none⟩ ∧ b < w.heap.size ∧ ∀ j x, ps[j]? = some x → w.cell? ⟨b, off + j, none⟩ = some (.string x) := by
            rcases HR.out with h | h
            · rw [h] at hp; simp at hp
            · exact h
          obtain ⟨a, rfl, hab, hac0⟩ := HI.out k z hzk
          have hBW := HB2.out.trans (hbw.mono (by omega))
          have g1 : wr.cell? ⟨b, off + k, none⟩ = some (.string p) := (hBW.cell (p := ⟨b, off + k, none⟩) hb).trans (hc k p hp)
          have g2 : wr.cell? (a.add k) = some (.int .i64 z) := (hBW.cell (by rw [addr_block]; exact hab)).trans hac0
          have g3 : wr.cell? ⟨w.heap.size, 2, none⟩ = some (.slice (some a) n1 c2) := (hbw.cell (p := ⟨w.heap.size, 2, none⟩) hsz2).trans e2
          obtain ⟨d0, d1, d2, d3⟩ := HDI.out k z hzk
          have hml := mapL_succ hp hzk
          obtain ⟨st, hst⟩ : ∃ st, startAt zs k = st := ⟨_, rfl⟩
          rw [hst] at d0 d1 d2 hml ⊢
          obtain ⟨q, hq⟩ : ∃ q : Nat, z - st = q := ⟨(z - st).toNat, by omega⟩
          have hms := mlineB_size p (z - st)
          have hps := HSZ.out k p hp
          have hle := HLE.out k
          have room : (Lib.byteCells (mapL ps zs k)).length + (mlineB p (z - st)).size ≤ 140737488355328 := by rw [Lib.byteCells_length]; omega
          have HRM := Lib.hid room
          have HML := Lib.hid hml
          have HBD := Lib.hid hbd
          have HBW := Lib.hid hBW
          have hBWs := hBW.size
          have hq9 : q < 1048576 := by omega
          have hd4 := d32_len 3 q
          have hF := H3.out q hq9
          obtain ⟨g, hg⟩ : ∃ g : ByteArray, (⟨(d32 3 q).toArray⟩ : ByteArray) = g := ⟨_, rfl⟩
          have hg4 : g.size ≤ 4 := by rw [← hg]; show (d32 3 q).toArray.size ≤ 4; simpa using hd4
          rw [hg] at hF
          have HF := Lib.hid hF
          have HQ := Lib.hid (show mlineB p (z - st) = p ++ ⟨#[32]⟩ ++ g ++ ⟨#[10]⟩ by unfold mlineB; rw [hq, Int.toNat_natCast, hg])
          have HZS := Lib.hid (startAt_succ hzk)
          clear hc hac0 hp hzk hml hms hle room hbd hBW e0 e1 e2 E1 hd4 hF hg
          go_wp2_with fail
          refine (HF.out _ HBW.out).mono ?_
          rintro e w3 ⟨rfl, hb3⟩
          have HB3 := Lib.hid hb3
          have g4 : w3.cell? (a.add k) = some (.int .i64 z) := (hb3.cell (by rw [addr_block]; have := hBWs; omega)).trans g2
          have g5 : w3.cell? ⟨w.heap.size, 2, none⟩ = some (.slice (some a) n1 c2) := (hb3.cell (p := ⟨w.heap.size, 2, none⟩) (by show w.heap.size < wr.heap.size; omega)).trans g3
          have hw3 := hb3.size
          have HRM2 : (Lib.byteCells (mapL ps zs k)).length + (p ++ ⟨#[32]⟩ ++ g ++ ⟨#[10]⟩ : ByteArray).size ≤ 140737488355328 := by
            have := HRM.out
            rw [HQ.out] at this
            exact this
          have HW := Lib.hid (writeString_any w2.heap.size w2.heap.size (Lib.byteCells (mapL ps zs k)) (p ++ ⟨#[32]⟩ ++ g ++ ⟨#[10]⟩) w3 (bd_below HBD.out HB3.out) HRM2 (by omega))
          clear hb3 g1 g2 g3 HRM2
          go_wp2_with fail
          refine (HW.out).mono ?_
          rintro e w4 ⟨rfl, hb4, hbel4⟩
          have HBD4 := Lib.hid hb4
          have g6 : w4.cell? ⟨w.heap.size, 2, none⟩ = some (.slice (some a) n1 c2) := (hbel4.cell (p := ⟨w.heap.size, 2, none⟩) hsz2).trans g5
          have g7 : w4.cell? (a.add k) = some (.int .i64 z) := (hbel4.cell (by rw [addr_block]; omega)).trans g4
          have HBL4 := Lib.hid ((hbw.trans (HB3.out.mono hwz)).trans hbel4)
          clear hb4 hbel4 g4 g5
          go_wp2_with fail
          go_roundw
          case rel =>
            refine ⟨k + 1, by omega, by go_num, by rw [HZS.out], ?_, HBL4.out⟩
            have hb := HBD4.out
            have hm := HML.out
            rw [HQ.out] at hm
            rw [hm]
            show Lib.IsBuilderF _ _ _ _ (Lib.byteCells (_ ++ _)) _
            rw [Lib.byteCells_append]
            exact hb
          case measure => simp [intOf]; omega
        · have hkn : k = n1 := by omega
          subst hkn
          have HBD := Lib.hid hbd
          have HX := Lib.hid (HB2.out.trans (hbw.mono (Nat.le_of_lt hsz2)))
          clear hbd
          go_wp2_with (go_at_call 45; refine (Tryd.Builder_String_any_k w2.heap.size w2.heap.size (mapL ps zs k) _ HBD.out hwz).mono ?_; rintro e w3 ⟨rfl, _, hbel3, _⟩)
          go_ret2
          exact ⟨rfl, HX.out.trans (hbel3.mono (Nat.le_of_lt hsz2))⟩
    · have hmE : mapE s.size n1 n2 zs ps = ep := by unfold mapE; rw [if_pos her, hep]
      have HME := Lib.hid (And.intro hmE (show mapS s.size n1 n2 zs ps = ⟨#[]⟩ by unfold mapS; rw [if_neg (by rw [hmE]; exact hP)]))
      rw [HME.out.1, HME.out.2]
      clear her hep hmE
      go_enter Tryd.func15, Tryd.ntmps15
      go_wp2_with fail
      refine (H1.out _ ((Below.refl _ w).alloc (Nat.le_refl _) _)).mono ?_
      rintro e w1 ⟨rfl, hb1⟩
      have HB := Lib.hid (((Below.refl _ w).alloc (Nat.le_refl _) _).trans (hb1.mono (by simp)))
      have o0 : w1.heap[w.heap.size]? = some (.cells #[.string s, .slice A1 n1 c1, .slice A2 n2 c2] 33 (0, 0)) := (hb1.block w.heap.size (by simp)).trans (heap_alloc_new _ _)
      obtain ⟨e0, e1, e2⟩ := box3m o0
      clear o0 hb1
      go_wp2_with fail
      refine (H2.out _ HB.out).mono ?_
      rintro e w2 ⟨rfl, hb2⟩
      have HB2 := Lib.hid (HB.out.trans (hb2.mono HB.out.size))
      clear e0 e1 e2 hb2
      go_wp2_with fail
      go_ret2
      exact ⟨rfl, HB2.out⟩
  · have hmE : mapE s.size n1 n2 zs ps = er := by unfold mapE; rw [if_neg (by rw [her]; exact hE), her]
    have HME := Lib.hid (And.intro hmE (show mapS s.size n1 n2 zs ps = ⟨#[]⟩ by unfold mapS; rw [if_neg (by rw [hmE]; exact hE)]))
    rw [HME.out.1, HME.out.2]
    clear her hep hmE
    go_enter Tryd.func15, Tryd.ntmps15
    go_wp2_with fail
    refine (H1.out _ ((Below.refl _ w).alloc (Nat.le_refl _) _)).mono ?_
    rintro e w1 ⟨rfl, hb1⟩
    have HB := Lib.hid (((Below.refl _ w).alloc (Nat.le_refl _) _).trans (hb1.mono (by simp)))
    have o0 : w1.heap[w.heap.size]? = some (.cells #[.string s, .slice A1 n1 c1, .slice A2 n2 c2] 33 (0, 0)) := (hb1.block w.heap.size (by simp)).trans (heap_alloc_new _ _)
    obtain ⟨e0, e1, e2⟩ := box3m o0
    clear o0 hb1
    go_wp2_with fail
    go_ret2
    exact ⟨rfl, HB.out⟩
end Go.Proofs.YtkobenohijipeaaDoor
