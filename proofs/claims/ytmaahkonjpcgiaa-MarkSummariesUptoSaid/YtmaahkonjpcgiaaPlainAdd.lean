/- DERIVED. The plain string that the program makes of a document: addPlain, plain, by induction over the document. Condition: at most 2^40 nodes and letters. -/
import Derived.Test.YtmaahkonjpcgiaaPlainWords
import Derived.Test.YtmaahkonjpcgiaaBuilderO
import Derived.Test.YtmaahkonjpcgiaaShelf
set_option linter.unusedSimpArgs false
set_option linter.unusedVariables false
namespace Go.Proofs.Ytmaahkonjpcgiaa
open Go.RowKit

/-- What such a call keeps: all below B, and above it all but the builder and what holds bytes. -/
def Keeps (B b : Nat) (w w' : World) : Prop := Below B w w' ∧ Lib.OthersKept 5 (some b) w w'
theorem Keeps.trans {B b : Nat} {a c d : World} (h : Keeps B b a c) (k : Keeps B b c d) : Keeps B b a d := ⟨h.1.trans k.1, h.2.trans k.2⟩
theorem Keeps.refl (B b : Nat) (w : World) : Keeps B b w w := ⟨Below.refl _ _, Lib.OthersKept.refl _ _ _⟩
theorem Keeps.alloc {B b : Nat} {a w : World} (h : Keeps B b a w) (hB : B ≤ w.heap.size) (o : Obj) : Keeps B b a (w.alloc o) := ⟨h.1.alloc hB o, h.2.alloc o⟩
theorem Keeps.node {B b S : Nat} {w w' : World} {cs : Array Value} (h : Keeps B b w w') (hS : S ≠ b) (hx : w.heap[S]? = some (.cells cs 56)) : w'.heap[S]? = some (.cells cs 56) :=
  h.2 S _ hx (by simpa using hS) (by intro c fz h; simp at h)
theorem bd_lt {B b : Nat} {l : List UInt8} {w : World} (h : Bd B b l w) : b < w.heap.size := by
  rcases h with h | h <;> exact h.lt
theorem node_cells {w : World} {S : Nat} {k l : Int} {t d i : ByteArray} {A : Option Addr} {n c : Nat} (h : w.heap[S]? = some (.cells #[.int .i64 k, .int .i64 l, .string t, .string d, .string i, .slice A n c] 56)) :
    w.cell? ⟨S, 0, none⟩ = some (.int .i64 k) ∧ w.cell? ⟨S, 2, none⟩ = some (.string t) ∧ w.cell? ⟨S, 5, none⟩ = some (.slice A n c) :=
  ⟨by rw [Lib.cell_of_heap h]; rfl, by rw [Lib.cell_of_heap h]; rfl, by rw [Lib.cell_of_heap h]; rfl⟩
theorem alloc_node (w : World) (o : Obj) : (w.alloc o).heap[w.heap.size]? = some o := by
  show (w.heap.push o)[w.heap.size]? = some o
  simp

theorem bdByte (B b : Nat) (l l' : List UInt8) (c : UInt8) (v : Int) (w : World) (hv : v = c.toNat) (hl : l' = l ++ [c]) (h : Bd B b l w) (hlen : l.length + 1 ≤ 140737488355328) (hBw : B ≤ w.heap.size) :
    Calls Try.prog 29 #[.pointer (some ⟨b, 0, none⟩), .int .u8 v] w fun e w' => e = .returned .nilIface ∧ Bd B b l' w' ∧ Keeps B b w w' := by
  subst hv
  subst hl
  refine (writeByteO_any B b (Lib.byteCells l) _ w h (by rw [Lib.byteCells_length]; exact hlen) hBw).mono ?_
  rintro e w' ⟨he, hb, hbel, hk⟩
  refine ⟨he, ?_, hbel, hk⟩
  unfold Bd
  rw [Lib.byteCells_append]
  exact hb
theorem bdString (B b : Nat) (l l' : List UInt8) (s : ByteArray) (w : World) (hl : l' = l ++ s.data.toList) (h : Bd B b l w) (hlen : l.length + s.size ≤ 140737488355328) (hBw : B ≤ w.heap.size) :
    Calls Try.prog 28 #[.pointer (some ⟨b, 0, none⟩), .string s] w fun e w' => e = .returned (.tuple #[.int .i64 s.size, .nilIface]) ∧ Bd B b l' w' ∧ Keeps B b w w' := by
  subst hl
  refine (writeStringO_any B b (Lib.byteCells l) s w h (by rw [Lib.byteCells_length]; exact hlen) hBw).mono ?_
  rintro e w' ⟨he, hb, hbel, hk⟩
  refine ⟨he, ?_, hbel, hk⟩
  unfold Bd
  rw [Lib.byteCells_append, ← Lib.strCells_eq]
  exact hb

set_option maxRecDepth 100000 in
set_option maxHeartbeats 1600000 in
theorem addPlain_any (N : Nat) : ∀ (a : Doc) (A : Option Addr) (n c : Nat) (B b : Nat) (l : List UInt8) (w : World), a.nodes ≤ N → l.length + a.letters + 2 * a.nodes ≤ 1099511627776 → a.At w B A n → B ≤ w.heap.size → Bd B b l w →
    Calls Try.prog 47 #[.pointer (some ⟨b, 0, none⟩), .slice A n c] w fun e w' => e = .returned (.tuple #[]) ∧ Bd B b (l ++ a.plain true) w' ∧ Keeps B b w w' := by
  induction N with
  | zero =>
    intro a A n c B b l w hN _ ha hB hbd
    have h0 : a = .nil := by
      cases a with
      | nil => rfl
      | cons => simp [Doc.nodes] at hN
    subst h0
    obtain rfl : n = 0 := ha.len_eq
    clear ha hN
    have HBD := Lib.hid hbd; clear hbd
    go_enter Try.func47, Try.ntmps47
    go_wp2_with fail
    refine wp_loop_rounds 1 ?_
    rw [rounds_succ]
    go_wp2_with fail
    go_end0
    exact ⟨rfl, by simpa [Doc.plain] using HBD.out, Keeps.refl _ _ _⟩
  | succ N ih =>
    intro a A n c B b l w hN hbig ha hB hbd
    have IH := Lib.hid ih; clear ih
    have hnl := ha.len_eq
    have hn : n ≤ 1099511627776 := by
      have h1 := Doc.len_le a
      omega
    have HNL := Lib.hid hnl; clear hnl
    have HA := Lib.hid ha; clear ha
    have HBD := Lib.hid hbd; clear hbd
    obtain ⟨total, htot⟩ : ∃ total, l ++ a.plain true = total := ⟨_, rfl⟩
    have HT := Lib.hid htot
    rw [htot]
    clear htot
    have HBG := Lib.hid hbig; clear hbig
    go_enter Try.func47, Try.ntmps47
    go_wp2_with fail
    go_loopw [8] (fun i wr => ∃ (k : Nat) (x : List UInt8), k ≤ n ∧ i = .int .i64 k ∧ x ++ (a.drop k).plain (k == 0) = total ∧ x.length + (a.drop k).letters + 2 * (a.drop k).nodes ≤ 1099511627776 ∧ Bd B b x wr ∧ Keeps B b w wr) (fun i _ => n - (intOf i).toNat)
    case atStart => exact ⟨0, l, Nat.zero_le _, rfl, by rw [Doc.drop_zero', ← HT.out]; rfl, by rw [Doc.drop_zero']; exact HBG.out, HBD.out, Keeps.refl _ _ _⟩
    case round =>
      obtain ⟨k, x, hk, rfl, hx, hpot, hbd1, hkw⟩ := hrel
      clear HBD HT HBG
      have hBr : B ≤ wr.heap.size := Nat.le_trans hB hkw.1.size
      by_cases hlt : k < n
      · obtain ⟨bb, off, k1, l1, t1, d1, i1, A1, n1, c1, kd, r, rfl, e1, e2, E⟩ := HA.out.el k hlt
        have E' := E.below hkw.1
        obtain ⟨hlb, x0, x1, x2, x3, x4, x5, _, _, _, _, _, _, _, hat⟩ := E'
        clear E
        have hsb : bb < wr.heap.size := Nat.lt_of_lt_of_le hlb hBr
        have hkN : kd.nodes ≤ N := by
          have h1 := Doc.nodes_drop' k a
          rw [e1] at h1
          simp only [Doc.nodes] at h1
          omega
        rw [e1] at hx hpot
        simp only [Doc.plain] at hx
        simp only [Doc.letters, Doc.nodes] at hpot
        obtain ⟨xp, hxp⟩ : ∃ xp, xp = x ++ pre k1 (k == 0) := ⟨_, rfl⟩
        obtain ⟨xt, hxt⟩ : ∃ xt, xt = xp ++ t1.data.toList := ⟨_, rfl⟩
        obtain ⟨xk, hxk⟩ : ∃ xk, xk = xt ++ kd.plain true := ⟨_, rfl⟩
        obtain ⟨xe, hxe⟩ : ∃ xe, xe = xk ++ post k1 := ⟨_, rfl⟩
        have p1 := pre_len k1 (k == 0)
        have p2 := post_len k1
        have p3 := Doc.plain_len kd true
        have p4 : t1.data.toList.length = t1.size := by simp
        have q1 : xp.length = x.length + (pre k1 (k == 0)).length := by rw [hxp, List.length_append]
        have q2 : xt.length = xp.length + t1.size := by rw [hxt, List.length_append, p4]
        have q3 : xk.length = xt.length + (kd.plain true).length := by rw [hxk, List.length_append]
        have q4 : xe.length = xk.length + (post k1).length := by rw [hxe, List.length_append]
        have lens : x.length + 1 ≤ 140737488355328 ∧ xp.length + t1.size ≤ 140737488355328 ∧ xk.length + 1 ≤ 140737488355328 ∧ xt.length + kd.letters + 2 * kd.nodes ≤ 1099511627776 ∧ xe.length + r.letters + 2 * r.nodes ≤ 1099511627776 := by
          refine ⟨?_, ?_, ?_, ?_, ?_⟩ <;> omega
        have htot : xe ++ r.plain false = total := by
          rw [← hx, hxe, hxk, hxt, hxp]; simp only [List.append_assoc]
        have hcall : ∀ wX, Below B wr wX → Bd B b xt wX → Calls Try.prog 47 #[.pointer (some ⟨b, 0, none⟩), .slice A1 n1 c1] wX fun e w' => e = .returned (.tuple #[]) ∧ Bd B b xk w' ∧ Keeps B b wX w' := fun wX hX hb => by
          rw [hxk]
          exact IH.out kd A1 n1 c1 B b _ wX hkN lens.2.2.2.1 (hat.below hX) (Nat.le_trans hBr hX.size) hb
        have HC := Lib.hid hcall; clear hcall
        have HLN := Lib.hid lens; clear lens
        have HTO := Lib.hid htot; clear htot
        have HXP := Lib.hid hxp; clear hxp
        have HXT := Lib.hid hxt; clear hxt
        have HXE := Lib.hid hxe; clear hxe
        clear q1 q2 q3 q4 p1 p2 p3 p4 hxk hx hpot
        have HE2 := Lib.hid e2; clear e1 e2 hat hkN
        have H1 := Lib.hid hbd1; clear hbd1
        have hSb : wr.heap.size ≠ b := by have := bd_lt H1.out; omega
        have hw0 : Keeps B b wr (wr.alloc (.cells #[.int .i64 k1, .int .i64 l1, .string t1, .string d1, .string i1, .slice A1 n1 c1] 56)) := (Keeps.refl _ _ _).alloc hBr _
        have H0 := Lib.hid hw0; clear hw0
        have hn0 := alloc_node wr (.cells #[.int .i64 k1, .int .i64 l1, .string t1, .string d1, .string i1, .slice A1 n1 c1] 56)
        have HN0 := Lib.hid hn0; clear hn0
        have hbd1 : Bd B b x (wr.alloc (.cells #[.int .i64 k1, .int .i64 l1, .string t1, .string d1, .string i1, .slice A1 n1 c1] 56)) := H1.out.alloc _
        have HB0 := Lib.hid hbd1; clear hbd1
        by_cases g12 : k1 = 12
        · subst g12
          have hp : xp = x ++ [32] := by rw [HXP.out, show pre 12 (k == 0) = [32] from rfl]
          have HP := Lib.hid hp; clear hp
          go_wp2_with fail
          refine (bdByte B b x xp 32 _ _ rfl HP.out HB0.out HLN.out.1 (Nat.le_trans hBr H0.out.1.size)).mono ?_
          rintro e w1 ⟨rfl, hbp, hk2⟩
          have HBP := Lib.hid hbp; clear hbp
          have HKP := Lib.hid (H0.out.trans hk2)
          have hnp := hk2.node hSb HN0.out
          clear hk2
          obtain ⟨y0, y2, y5⟩ := node_cells hnp
          have HNP := Lib.hid hnp; clear hnp
          go_wp2_with fail
          refine (bdString B b xp xt t1 _ HXT.out HBP.out HLN.out.2.1 (Nat.le_trans hBr HKP.out.1.size)).mono ?_
          rintro e w2 ⟨rfl, hbt, hk3⟩
          have HBT := Lib.hid hbt; clear hbt
          have HK3 := Lib.hid (HKP.out.trans hk3)
          have hn2 := hk3.node hSb HNP.out
          clear hk3
          obtain ⟨z0, z2, z5⟩ := node_cells hn2
          have HN2 := Lib.hid hn2; clear hn2
          go_wp2_with fail
          refine (HC.out _ HK3.out.1 HBT.out).mono ?_
          rintro e w3 ⟨rfl, hbk, hk4⟩
          have HBK := Lib.hid hbk; clear hbk
          have HK4 := Lib.hid (HK3.out.trans hk4)
          have hn3 := hk4.node hSb HN2.out
          clear hk4
          obtain ⟨u0, u2, u5⟩ := node_cells hn3
          clear hn3
          go_wp2_with fail
          have hxk : xe = xk := by rw [HXE.out, show post 12 = [] from rfl, List.append_nil]
          go_roundw
          case rel => exact ⟨k + 1, xe, by omega, by go_num, by rw [HE2.out]; exact HTO.out, by rw [HE2.out]; exact HLN.out.2.2.2.2, by rw [hxk]; exact HBK.out, hkw.trans HK4.out⟩
          case measure => simp [intOf]; omega
        by_cases g13 : k1 = 13
        · subst g13
          have hp : xp = x ++ [32] := by rw [HXP.out, show pre 13 (k == 0) = [32] from rfl]
          have HP := Lib.hid hp; clear hp
          go_wp2_with fail
          refine (bdByte B b x xp 32 _ _ rfl HP.out HB0.out HLN.out.1 (Nat.le_trans hBr H0.out.1.size)).mono ?_
          rintro e w1 ⟨rfl, hbp, hk2⟩
          have HBP := Lib.hid hbp; clear hbp
          have HKP := Lib.hid (H0.out.trans hk2)
          have hnp := hk2.node hSb HN0.out
          clear hk2
          obtain ⟨y0, y2, y5⟩ := node_cells hnp
          have HNP := Lib.hid hnp; clear hnp
          go_wp2_with fail
          refine (bdString B b xp xt t1 _ HXT.out HBP.out HLN.out.2.1 (Nat.le_trans hBr HKP.out.1.size)).mono ?_
          rintro e w2 ⟨rfl, hbt, hk3⟩
          have HBT := Lib.hid hbt; clear hbt
          have HK3 := Lib.hid (HKP.out.trans hk3)
          have hn2 := hk3.node hSb HNP.out
          clear hk3
          obtain ⟨z0, z2, z5⟩ := node_cells hn2
          have HN2 := Lib.hid hn2; clear hn2
          go_wp2_with fail
          refine (HC.out _ HK3.out.1 HBT.out).mono ?_
          rintro e w3 ⟨rfl, hbk, hk4⟩
          have HBK := Lib.hid hbk; clear hbk
          have HK4 := Lib.hid (HK3.out.trans hk4)
          have hn3 := hk4.node hSb HN2.out
          clear hk4
          obtain ⟨u0, u2, u5⟩ := node_cells hn3
          clear hn3
          go_wp2_with fail
          have hxk : xe = xk := by rw [HXE.out, show post 13 = [] from rfl, List.append_nil]
          go_roundw
          case rel => exact ⟨k + 1, xe, by omega, by go_num, by rw [HE2.out]; exact HTO.out, by rw [HE2.out]; exact HLN.out.2.2.2.2, by rw [hxk]; exact HBK.out, hkw.trans HK4.out⟩
          case measure => simp [intOf]; omega
        by_cases g10 : k1 = 10
        · subst g10
          by_cases gk : k = 0
          · subst gk
            have GK := Lib.hid (show ((0 : Nat) == 0) = true from rfl)
            simp only [Nat.zero_mul, Nat.add_zero] at x0 x1 x2 x3 x4 x5
            have hp : xp = x := by rw [HXP.out, GK.out, show pre 10 true = [] from rfl, List.append_nil]
            have HP := Lib.hid hp; clear hp
            have hbp := HB0.out
            rw [← HP.out] at hbp
            have HBP := Lib.hid hbp; clear hbp
            have HKP := H0
            have HNP := HN0
            go_wp2_with fail
            refine (bdString B b xp xt t1 _ HXT.out HBP.out HLN.out.2.1 (Nat.le_trans hBr HKP.out.1.size)).mono ?_
            rintro e w2 ⟨rfl, hbt, hk3⟩
            have HBT := Lib.hid hbt; clear hbt
            have HK3 := Lib.hid (HKP.out.trans hk3)
            have hn2 := hk3.node hSb HNP.out
            clear hk3
            obtain ⟨z0, z2, z5⟩ := node_cells hn2
            have HN2 := Lib.hid hn2; clear hn2
            go_wp2_with fail
            refine (HC.out _ HK3.out.1 HBT.out).mono ?_
            rintro e w3 ⟨rfl, hbk, hk4⟩
            have HBK := Lib.hid hbk; clear hbk
            have HK4 := Lib.hid (HK3.out.trans hk4)
            have hn3 := hk4.node hSb HN2.out
            clear hk4
            obtain ⟨u0, u2, u5⟩ := node_cells hn3
            clear hn3
            go_wp2_with fail
            have hxk : xe = xk := by rw [HXE.out, show post 10 = [] from rfl, List.append_nil]
            go_roundw
            case rel => exact ⟨1, xe, by omega, by go_num, by rw [HE2.out]; exact HTO.out, by rw [HE2.out]; exact HLN.out.2.2.2.2, by rw [hxk]; exact HBK.out, hkw.trans HK4.out⟩
            case measure => simp [intOf]; omega
          · have gk0 : (k == 0) = false := by simpa using gk
            have gkp : 0 < (k : Int) := by omega
            have GK := Lib.hid gk0; clear gk0
            have hp : xp = x ++ [9] := by rw [HXP.out, GK.out, show pre 10 false = [9] from rfl]
            have HP := Lib.hid hp; clear hp
            go_wp2_with fail
            refine (bdByte B b x xp 9 _ _ rfl HP.out HB0.out HLN.out.1 (Nat.le_trans hBr H0.out.1.size)).mono ?_
            rintro e w1 ⟨rfl, hbp, hk2⟩
            have HBP := Lib.hid hbp; clear hbp
            have HKP := Lib.hid (H0.out.trans hk2)
            have hnp := hk2.node hSb HN0.out
            clear hk2
            obtain ⟨y0, y2, y5⟩ := node_cells hnp
            have HNP := Lib.hid hnp; clear hnp
            go_wp2_with fail
            refine (bdString B b xp xt t1 _ HXT.out HBP.out HLN.out.2.1 (Nat.le_trans hBr HKP.out.1.size)).mono ?_
            rintro e w2 ⟨rfl, hbt, hk3⟩
            have HBT := Lib.hid hbt; clear hbt
            have HK3 := Lib.hid (HKP.out.trans hk3)
            have hn2 := hk3.node hSb HNP.out
            clear hk3
            obtain ⟨z0, z2, z5⟩ := node_cells hn2
            have HN2 := Lib.hid hn2; clear hn2
            go_wp2_with fail
            refine (HC.out _ HK3.out.1 HBT.out).mono ?_
            rintro e w3 ⟨rfl, hbk, hk4⟩
            have HBK := Lib.hid hbk; clear hbk
            have HK4 := Lib.hid (HK3.out.trans hk4)
            have hn3 := hk4.node hSb HN2.out
            clear hk4
            obtain ⟨u0, u2, u5⟩ := node_cells hn3
            clear hn3
            go_wp2_with fail
            have hxk : xe = xk := by rw [HXE.out, show post 10 = [] from rfl, List.append_nil]
            go_roundw
            case rel => exact ⟨k + 1, xe, by omega, by go_num, by rw [HE2.out]; exact HTO.out, by rw [HE2.out]; exact HLN.out.2.2.2.2, by rw [hxk]; exact HBK.out, hkw.trans HK4.out⟩
            case measure => simp [intOf]; omega
        by_cases g1 : k1 = 1
        · subst g1
          have hp : xp = x := by rw [HXP.out, show pre 1 (k == 0) = [] from rfl, List.append_nil]
          have HP := Lib.hid hp; clear hp
          have hbp := HB0.out
          rw [← HP.out] at hbp
          have HBP := Lib.hid hbp; clear hbp
          have HKP := H0
          have HNP := HN0
          go_wp2_with fail
          refine (bdString B b xp xt t1 _ HXT.out HBP.out HLN.out.2.1 (Nat.le_trans hBr HKP.out.1.size)).mono ?_
          rintro e w2 ⟨rfl, hbt, hk3⟩
          have HBT := Lib.hid hbt; clear hbt
          have HK3 := Lib.hid (HKP.out.trans hk3)
          have hn2 := hk3.node hSb HNP.out
          clear hk3
          obtain ⟨z0, z2, z5⟩ := node_cells hn2
          have HN2 := Lib.hid hn2; clear hn2
          go_wp2_with fail
          refine (HC.out _ HK3.out.1 HBT.out).mono ?_
          rintro e w3 ⟨rfl, hbk, hk4⟩
          have HBK := Lib.hid hbk; clear hbk
          have HK4 := Lib.hid (HK3.out.trans hk4)
          have hn3 := hk4.node hSb HN2.out
          clear hk4
          obtain ⟨u0, u2, u5⟩ := node_cells hn3
          clear hn3
          go_wp2_with fail
          refine (bdByte B b xk xe 10 _ _ rfl (by rw [HXE.out, show post 1 = [10] from rfl]) HBK.out HLN.out.2.2.1 (Nat.le_trans hBr HK4.out.1.size)).mono ?_
          rintro e w4 ⟨rfl, hbe, hk5⟩
          have HBE := Lib.hid hbe; clear hbe
          have HK5 := Lib.hid (HK4.out.trans hk5)
          clear hk5
          go_wp2_with fail
          go_roundw
          case rel => exact ⟨k + 1, xe, by omega, by go_num, by rw [HE2.out]; exact HTO.out, by rw [HE2.out]; exact HLN.out.2.2.2.2, HBE.out, hkw.trans HK5.out⟩
          case measure => simp [intOf]; omega
        by_cases g2 : k1 = 2
        · subst g2
          have hp : xp = x := by rw [HXP.out, show pre 2 (k == 0) = [] from rfl, List.append_nil]
          have HP := Lib.hid hp; clear hp
          have hbp := HB0.out
          rw [← HP.out] at hbp
          have HBP := Lib.hid hbp; clear hbp
          have HKP := H0
          have HNP := HN0
          go_wp2_with fail
          refine (bdString B b xp xt t1 _ HXT.out HBP.out HLN.out.2.1 (Nat.le_trans hBr HKP.out.1.size)).mono ?_
          rintro e w2 ⟨rfl, hbt, hk3⟩
          have HBT := Lib.hid hbt; clear hbt
          have HK3 := Lib.hid (HKP.out.trans hk3)
          have hn2 := hk3.node hSb HNP.out
          clear hk3
          obtain ⟨z0, z2, z5⟩ := node_cells hn2
          have HN2 := Lib.hid hn2; clear hn2
          go_wp2_with fail
          refine (HC.out _ HK3.out.1 HBT.out).mono ?_
          rintro e w3 ⟨rfl, hbk, hk4⟩
          have HBK := Lib.hid hbk; clear hbk
          have HK4 := Lib.hid (HK3.out.trans hk4)
          have hn3 := hk4.node hSb HN2.out
          clear hk4
          obtain ⟨u0, u2, u5⟩ := node_cells hn3
          clear hn3
          go_wp2_with fail
          refine (bdByte B b xk xe 10 _ _ rfl (by rw [HXE.out, show post 2 = [10] from rfl]) HBK.out HLN.out.2.2.1 (Nat.le_trans hBr HK4.out.1.size)).mono ?_
          rintro e w4 ⟨rfl, hbe, hk5⟩
          have HBE := Lib.hid hbe; clear hbe
          have HK5 := Lib.hid (HK4.out.trans hk5)
          clear hk5
          go_wp2_with fail
          go_roundw
          case rel => exact ⟨k + 1, xe, by omega, by go_num, by rw [HE2.out]; exact HTO.out, by rw [HE2.out]; exact HLN.out.2.2.2.2, HBE.out, hkw.trans HK5.out⟩
          case measure => simp [intOf]; omega
        by_cases g3 : k1 = 3
        · subst g3
          have hp : xp = x := by rw [HXP.out, show pre 3 (k == 0) = [] from rfl, List.append_nil]
          have HP := Lib.hid hp; clear hp
          have hbp := HB0.out
          rw [← HP.out] at hbp
          have HBP := Lib.hid hbp; clear hbp
          have HKP := H0
          have HNP := HN0
          go_wp2_with fail
          refine (bdString B b xp xt t1 _ HXT.out HBP.out HLN.out.2.1 (Nat.le_trans hBr HKP.out.1.size)).mono ?_
          rintro e w2 ⟨rfl, hbt, hk3⟩
          have HBT := Lib.hid hbt; clear hbt
          have HK3 := Lib.hid (HKP.out.trans hk3)
          have hn2 := hk3.node hSb HNP.out
          clear hk3
          obtain ⟨z0, z2, z5⟩ := node_cells hn2
          have HN2 := Lib.hid hn2; clear hn2
          go_wp2_with fail
          refine (HC.out _ HK3.out.1 HBT.out).mono ?_
          rintro e w3 ⟨rfl, hbk, hk4⟩
          have HBK := Lib.hid hbk; clear hbk
          have HK4 := Lib.hid (HK3.out.trans hk4)
          have hn3 := hk4.node hSb HN2.out
          clear hk4
          obtain ⟨u0, u2, u5⟩ := node_cells hn3
          clear hn3
          go_wp2_with fail
          refine (bdByte B b xk xe 10 _ _ rfl (by rw [HXE.out, show post 3 = [10] from rfl]) HBK.out HLN.out.2.2.1 (Nat.le_trans hBr HK4.out.1.size)).mono ?_
          rintro e w4 ⟨rfl, hbe, hk5⟩
          have HBE := Lib.hid hbe; clear hbe
          have HK5 := Lib.hid (HK4.out.trans hk5)
          clear hk5
          go_wp2_with fail
          go_roundw
          case rel => exact ⟨k + 1, xe, by omega, by go_num, by rw [HE2.out]; exact HTO.out, by rw [HE2.out]; exact HLN.out.2.2.2.2, HBE.out, hkw.trans HK5.out⟩
          case measure => simp [intOf]; omega
        by_cases g9 : k1 = 9
        · subst g9
          have hp : xp = x := by rw [HXP.out, show pre 9 (k == 0) = [] from rfl, List.append_nil]
          have HP := Lib.hid hp; clear hp
          have hbp := HB0.out
          rw [← HP.out] at hbp
          have HBP := Lib.hid hbp; clear hbp
          have HKP := H0
          have HNP := HN0
          go_wp2_with fail
          refine (bdString B b xp xt t1 _ HXT.out HBP.out HLN.out.2.1 (Nat.le_trans hBr HKP.out.1.size)).mono ?_
          rintro e w2 ⟨rfl, hbt, hk3⟩
          have HBT := Lib.hid hbt; clear hbt
          have HK3 := Lib.hid (HKP.out.trans hk3)
          have hn2 := hk3.node hSb HNP.out
          clear hk3
          obtain ⟨z0, z2, z5⟩ := node_cells hn2
          have HN2 := Lib.hid hn2; clear hn2
          go_wp2_with fail
          refine (HC.out _ HK3.out.1 HBT.out).mono ?_
          rintro e w3 ⟨rfl, hbk, hk4⟩
          have HBK := Lib.hid hbk; clear hbk
          have HK4 := Lib.hid (HK3.out.trans hk4)
          have hn3 := hk4.node hSb HN2.out
          clear hk4
          obtain ⟨u0, u2, u5⟩ := node_cells hn3
          clear hn3
          go_wp2_with fail
          refine (bdByte B b xk xe 10 _ _ rfl (by rw [HXE.out, show post 9 = [10] from rfl]) HBK.out HLN.out.2.2.1 (Nat.le_trans hBr HK4.out.1.size)).mono ?_
          rintro e w4 ⟨rfl, hbe, hk5⟩
          have HBE := Lib.hid hbe; clear hbe
          have HK5 := Lib.hid (HK4.out.trans hk5)
          clear hk5
          go_wp2_with fail
          go_roundw
          case rel => exact ⟨k + 1, xe, by omega, by go_num, by rw [HE2.out]; exact HTO.out, by rw [HE2.out]; exact HLN.out.2.2.2.2, HBE.out, hkw.trans HK5.out⟩
          case measure => simp [intOf]; omega
        by_cases g7 : k1 = 7
        · subst g7
          have hp : xp = x := by rw [HXP.out, show pre 7 (k == 0) = [] from rfl, List.append_nil]
          have HP := Lib.hid hp; clear hp
          have hbp := HB0.out
          rw [← HP.out] at hbp
          have HBP := Lib.hid hbp; clear hbp
          have HKP := H0
          have HNP := HN0
          go_wp2_with fail
          refine (bdString B b xp xt t1 _ HXT.out HBP.out HLN.out.2.1 (Nat.le_trans hBr HKP.out.1.size)).mono ?_
          rintro e w2 ⟨rfl, hbt, hk3⟩
          have HBT := Lib.hid hbt; clear hbt
          have HK3 := Lib.hid (HKP.out.trans hk3)
          have hn2 := hk3.node hSb HNP.out
          clear hk3
          obtain ⟨z0, z2, z5⟩ := node_cells hn2
          have HN2 := Lib.hid hn2; clear hn2
          go_wp2_with fail
          refine (HC.out _ HK3.out.1 HBT.out).mono ?_
          rintro e w3 ⟨rfl, hbk, hk4⟩
          have HBK := Lib.hid hbk; clear hbk
          have HK4 := Lib.hid (HK3.out.trans hk4)
          have hn3 := hk4.node hSb HN2.out
          clear hk4
          obtain ⟨u0, u2, u5⟩ := node_cells hn3
          clear hn3
          go_wp2_with fail
          refine (bdByte B b xk xe 10 _ _ rfl (by rw [HXE.out, show post 7 = [10] from rfl]) HBK.out HLN.out.2.2.1 (Nat.le_trans hBr HK4.out.1.size)).mono ?_
          rintro e w4 ⟨rfl, hbe, hk5⟩
          have HBE := Lib.hid hbe; clear hbe
          have HK5 := Lib.hid (HK4.out.trans hk5)
          clear hk5
          go_wp2_with fail
          go_roundw
          case rel => exact ⟨k + 1, xe, by omega, by go_num, by rw [HE2.out]; exact HTO.out, by rw [HE2.out]; exact HLN.out.2.2.2.2, HBE.out, hkw.trans HK5.out⟩
          case measure => simp [intOf]; omega
        have hpn : pre k1 (k == 0) = [] := by unfold pre; rw [if_neg (by omega), if_neg (by omega)]
        have hpo : post k1 = [] := by unfold post; rw [if_neg (by omega)]
        have HPN := Lib.hid hpn; clear hpn
        have HPO := Lib.hid hpo; clear hpo
        have hp : xp = x := by rw [HXP.out, HPN.out, List.append_nil]
        have HP := Lib.hid hp; clear hp
        have hbp := HB0.out
        rw [← HP.out] at hbp
        have HBP := Lib.hid hbp; clear hbp
        have HKP := H0
        have HNP := HN0
        go_wp2_with fail
        refine (bdString B b xp xt t1 _ HXT.out HBP.out HLN.out.2.1 (Nat.le_trans hBr HKP.out.1.size)).mono ?_
        rintro e w2 ⟨rfl, hbt, hk3⟩
        have HBT := Lib.hid hbt; clear hbt
        have HK3 := Lib.hid (HKP.out.trans hk3)
        have hn2 := hk3.node hSb HNP.out
        clear hk3
        obtain ⟨z0, z2, z5⟩ := node_cells hn2
        have HN2 := Lib.hid hn2; clear hn2
        go_wp2_with fail
        refine (HC.out _ HK3.out.1 HBT.out).mono ?_
        rintro e w3 ⟨rfl, hbk, hk4⟩
        have HBK := Lib.hid hbk; clear hbk
        have HK4 := Lib.hid (HK3.out.trans hk4)
        have hn3 := hk4.node hSb HN2.out
        clear hk4
        obtain ⟨u0, u2, u5⟩ := node_cells hn3
        clear hn3
        go_wp2_with fail
        have hxk : xe = xk := by rw [HXE.out, HPO.out, List.append_nil]
        go_roundw
        case rel => exact ⟨k + 1, xe, by omega, by go_num, by rw [HE2.out]; exact HTO.out, by rw [HE2.out]; exact HLN.out.2.2.2.2, by rw [hxk]; exact HBK.out, hkw.trans HK4.out⟩
        case measure => simp [intOf]; omega
      · obtain rfl : k = n := by omega
        have hd : a.drop k = .nil := by rw [HNL.out, Doc.drop_len']
        have hxt : x = total := by rw [← hx, hd]; simp [Doc.plain]
        have HXX := Lib.hid hxt; clear hxt hd hx hpot
        have H1 := Lib.hid hbd1; clear hbd1
        go_wp2_with fail
        go_end0
        exact ⟨rfl, by rw [← HXX.out]; exact H1.out, hkw⟩

set_option maxRecDepth 100000 in
set_option maxHeartbeats 800000 in
theorem plain_any (a : Doc) (A : Option Addr) (n c : Nat) (w : World) (hbig : a.letters + 2 * a.nodes ≤ 1099511627776) (ha : a.At w w.heap.size A n) :
    Calls Try.prog 34 #[.slice A n c] w fun e w' => e = .returned (.string ⟨(a.plain true).toArray⟩) ∧ Below w.heap.size w w' := by
  have hf := Lib.IsBuilderF.of (Lib.fresh_isBuilder 60 5 w)
  have hw0 : Below w.heap.size w (w.alloc (.cells #[.pointer none, .slice none 0 0] 60)) := (Below.refl _ _).alloc (Nat.le_refl _) _
  have H1 := Lib.hid (addPlain_any a.nodes a A n c w.heap.size w.heap.size [] _ (Nat.le_refl _) (by simpa using hbig) (ha.below hw0) hw0.size hf)
  have H0 := Lib.hid hw0; clear hw0 hf ha
  go_enter Try.func34, Try.ntmps34
  go_wp2_with fail
  refine H1.out.mono ?_
  rintro e w1 ⟨rfl, hb, hk⟩
  have HB := Lib.hid hb; clear hb
  have hb2 := H0.out.trans hk.1
  clear hk
  go_wp2_with fail
  refine (Try.Builder_String_any_k w.heap.size w.heap.size (a.plain true) _ (by simpa using HB.out) hb2.size).mono ?_
  rintro e w2 ⟨rfl, _, hbel1, _⟩
  go_wp2_with fail
  go_ret
  exact ⟨rfl, hb2.trans hbel1⟩
end Go.Proofs.Ytmaahkonjpcgiaa
