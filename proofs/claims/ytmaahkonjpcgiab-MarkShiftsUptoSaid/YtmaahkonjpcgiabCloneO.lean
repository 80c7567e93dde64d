/- DERIVED. What clone returns, with where it lies: the same document in blocks of its own, in order. Condition: at most 2^40 nodes. -/
import Derived.Test.YtmaahkonjpcgiabRows
import Derived.Test.YtmaahkonjpcgiabOwnDoc
import Derived.Test.YtmaahkonjpcgiabClone
import Derived.Lib.Hide
import Derived.WalkKit
import Derived.WalkSmall
import Derived.BigGuardPart
set_option linter.unusedSimpArgs false
set_option linter.unusedVariables false
namespace Go.Proofs.Ytmaahkonjpcgiab
open Go.RowKit

def Lies (a : Doc) (n : Nat) (lo : Nat) (A' : Option Addr) (w' : World) : Prop := a.len = 0 ∧ n = 0 ∨ ∃ R', A' = some ⟨R', 0, none⟩ ∧ n = a.len ∧ lo ≤ R' ∧ a.own w' R' 0 (R' + 1) w'.heap.size
def OwnPost (a : Doc) (n : Nat) (w : World) (e : Ending) (w' : World) : Prop :=
  ∃ (A' : Option Addr) (c' : Nat), e = .returned (.slice A' n c') ∧ n ≤ c' ∧ c' ≤ maxLen ∧ Lies a n w.heap.size A' w' ∧ Below w.heap.size w w'

set_option maxRecDepth 100000 in
set_option maxHeartbeats 1600000 in
theorem cloneO_any (N : Nat) : ∀ (a : Doc) (A : Option Addr) (n c : Nat) (w : World), a.nodes ≤ N → a.nodes ≤ 1099511627776 → a.At w w.heap.size A n →
    Calls Try.prog 21 #[.slice A n c] w (OwnPost a n w) := by
  induction N with
  | zero =>
    intro a A n c w hN _ ha
    have h0 : a = .nil := by
      cases a with
      | nil => rfl
      | cons => simp [Doc.nodes] at hN
    subst h0
    obtain rfl : n = 0 := ha.len_eq
    clear ha hN
    go_enter Try.func21, Try.ntmps21
    go_wp2_with fail
    go_ret
    exact ⟨none, 0, rfl, Nat.le_refl _, Nat.zero_le _, .inl ⟨rfl, rfl⟩, Below.refl _ _⟩
  | succ N ih =>
    intro a A n c w hN hbig ha
    have hnl := ha.len_eq
    have hn : n ≤ 1099511627776 := Nat.le_trans (by rw [hnl]; exact Doc.len_le a) hbig
    by_cases hn0 : n = 0
    · subst hn0
      have h0 : a = .nil := by
        cases a with
        | nil => rfl
        | cons => simp [Doc.len] at hnl
      subst h0
      clear ha hN ih
      go_enter Try.func21, Try.ntmps21
      go_wp2_with fail
      go_ret
      exact ⟨none, 0, rfl, Nat.le_refl _, Nat.zero_le _, .inl ⟨rfl, rfl⟩, Below.refl _ _⟩
    have hn2 : ((n : Int) == 0) = false := by simpa using hn0
    have IH := Lib.hid ih; clear ih
    have HNL := Lib.hid hnl; clear hnl
    have HA := Lib.hid ha; clear ha
    have hmk := node_make n hn
    obtain ⟨z, hz⟩ : ∃ z, z = madeCells #[Value.int .i64 0, .int .i64 0, .string ⟨#[]⟩, .string ⟨#[]⟩, .string ⟨#[]⟩, .slice none 0 0] (n * 6) := ⟨_, rfl⟩
    have hzs : z.size = n * 6 := by rw [hz, size_madeCells]
    rw [← hz] at hmk
    clear hz
    have ht0 : (w.alloc (.cells z 47)).there w.heap.size 0 (n * 6) := by rw [← hzs]; exact there_of (t := 47) (by show (w.heap.push (.cells z 47))[w.heap.size]? = some (.cells z 47 (0, 0)); simp)
    have HT0 := Lib.hid ht0; clear ht0 hzs
    go_enter Try.func21, Try.ntmps21
    go_wp2_with fail
    clear hmk
    go_loopw [14] (fun i wr => ∃ k : Nat, k ≤ n ∧ i = .int .i64 k ∧ w.heap.size < wr.heap.size ∧ wr.there w.heap.size 0 (n * 6) ∧ (a.fst k).own wr w.heap.size 0 (w.heap.size + 1) wr.heap.size ∧ Below w.heap.size w wr) (fun i _ => n - (intOf i).toNat)
    case atStart => exact ⟨0, Nat.zero_le _, rfl, by simp, HT0.out, by (have h0 : a.fst 0 = .nil := by cases a <;> rfl); rw [h0]; show w.heap.size + 1 ≤ _; simp, (Below.refl _ _).alloc (Nat.le_refl _) _⟩
    case round =>
      obtain ⟨k, hk, rfl, hsz, hth, hel, hbw⟩ := hrel
      have HTH := Lib.hid hth; clear hth HT0
      have HEL := Lib.hid hel; clear hel
      by_cases hlt : k < n
      · obtain ⟨b, off, k1, l1, t1, d1, i1, A1, n1, c1, kd, r, rfl, e1, e2, E⟩ := HA.out.el k hlt
        have E' := E.below hbw
        obtain ⟨hlb, x0, x1, x2, x3, x4, x5, hnc, hcm, hkw, hlw, hts, hds, htis, hat⟩ := E'
        clear E
        have hsb : b < wr.heap.size := Nat.lt_of_lt_of_le hlb hbw.size
        have hkn : kd.nodes ≤ N ∧ kd.nodes ≤ 1099511627776 := by
          have h1 := Doc.nodes_drop' k a
          rw [e1] at h1
          simp only [Doc.nodes] at h1
          omega
        have hcall : ∀ wX, Below w.heap.size wr wX → Calls Try.prog 21 #[.slice A1 n1 c1] wX (OwnPost kd n1 wX) := fun wX hX =>
          IH.out kd A1 n1 c1 wX hkn.1 hkn.2 ((hat.below hX).more (Nat.le_trans hbw.size hX.size))
        have HC := Lib.hid hcall; clear hcall
        have HE1 := Lib.hid e1
        have HFA := Lib.hid (And.intro hkw (And.intro hlw (And.intro hts (And.intro hds htis))))
        clear e1 e2 hat hkn hkw hlw hts hds htis hnc hcm
        obtain ⟨o, ho⟩ : ∃ o, o = Obj.cells #[.int .i64 k1, .int .i64 l1, .string t1, .string d1, .string i1, .slice A1 n1 c1] 47 := ⟨_, rfl⟩
        have hw0 : Below wr.heap.size wr (wr.alloc o) := (Below.refl _ _).alloc (Nat.le_refl _) _
        have hs0 : (wr.alloc o).heap.size = wr.heap.size + 1 := by simp
        have ho0 : (wr.alloc o).heap[wr.heap.size]? = some o := by show (wr.heap.push o)[wr.heap.size]? = some o; simp
        rw [ho] at hw0 hs0 ho0
        have H0 := Lib.hid hw0; clear hw0
        have HS0 := Lib.hid hs0; clear hs0
        have HO0 := Lib.hid ho0; clear ho0 ho o
        go_wp2_with fail
        refine (HC.out _ (H0.out.mono (Nat.le_of_lt hsz))).mono ?_
        rintro e w1 ⟨A2, c2, rfl, hc2, hm2, hat2, hb1⟩
        rw [HS0.out] at hat2 hb1
        have hblk := hb1.block wr.heap.size (Nat.lt_succ_self _)
        rw [HO0.out] at hblk
        have y0 := (Lib.cell_of_heap hblk 0)
        have y1 := (Lib.cell_of_heap hblk 1)
        have y2 := (Lib.cell_of_heap hblk 2)
        have y3 := (Lib.cell_of_heap hblk 3)
        have y4 := (Lib.cell_of_heap hblk 4)
        have y5 := (Lib.cell_of_heap hblk 5)
        have f5 := (Lib.frozen_of_heap hblk 5)
        simp at y0 y1 y2 y3 y4 y5
        obtain ⟨w2, hw2⟩ : ∃ w2, w2 = w1.setCell ⟨wr.heap.size, 5, none⟩ (.slice A2 n1 c2) := ⟨_, rfl⟩
        have hs1 : wr.heap.size < w1.heap.size := by have h := hb1.size; rw [HS0.out] at h; exact h
        have hs2 : w2.heap.size = w1.heap.size := by rw [hw2]; simp
        have hc1r : ∀ q, q < wr.heap.size → w1.heap[q]? = wr.heap[q]? := fun q hq => (hb1.block q (Nat.lt_succ_of_lt hq)).trans (H0.out.block q hq)
        have hc21 : ∀ q, q ≠ wr.heap.size → w2.heap[q]? = w1.heap[q]? := fun q hq => by rw [hw2]; exact Below.heap_setCell _ _ _ _ hq
        have hR2 : w2.heap[w.heap.size]? = wr.heap[w.heap.size]? := (hc21 _ (Nat.ne_of_lt hsz)).trans (hc1r _ hsz)
        have hth2 := there_keep HTH.out hR2
        have hth2k := there_sub hth2 (show k * 6 + 6 ≤ n * 6 by omega)
        obtain ⟨cs, hcs⟩ : ∃ cs, cs = ndCells k1 l1 t1 d1 i1 A2 n1 c2 := ⟨_, rfl⟩
        have hcl : cs.length = 6 := by rw [hcs]; rfl
        have hcs' : (#[.int .i64 k1, .int .i64 l1, .string t1, .string d1, .string i1, .slice A2 n1 c2] : Array Value).toList = cs := by rw [hcs]; rfl
        obtain ⟨w3, hw3⟩ : ∃ w3, w3 = w2.setCells w.heap.size (k * 6) cs := ⟨_, rfl⟩
        have hs3 : w3.heap.size = w1.heap.size := by rw [hw3, size_setCells, hs2]
        have hth3 : w3.there w.heap.size 0 (n * 6) := by rw [hw3]; exact World.there_setCells hth2 _ _ _
        have hrg : w3.rangeAt w.heap.size (k * 6) cs := by rw [hw3]; exact World.rangeAt_setCells_same _ _ _ _ (by rw [hcl]; exact hth2k)
        have h31 : ∀ q, q ≠ w.heap.size → q ≠ wr.heap.size → q < w1.heap.size → w3.heap[q]? = w1.heap[q]? := fun q g1 g2 g3 => by
          rw [hw3, World.heap_setCells_other _ _ _ _ (by omega) g1]
          exact hc21 q g2
        have hlk : (a.fst k).len = k := Doc.fst_len k a (by rw [← HNL.out]; exact hk)
        have hel3 : (a.fst (k + 1)).own w3 w.heap.size 0 (w.heap.size + 1) w3.heap.size := by
          rw [Doc.fst_succ HE1.out]
          refine Doc.own_app (mid := wr.heap.size) (Doc.own_keep (fun q g1 g2 => (h31 q (by omega) (by omega) (by omega)).trans (hc1r q g2)) (fun i _ hi => ⟨?_, ?_⟩) HEL.out) ?_
          · rw [hlk] at hi
            rw [hw3, World.cell?_setCells_out _ _ _ _ _ (fun _ _ => .inl (show i < k * 6 by omega))]
            exact World.cell?_of_block hR2
          · rw [hw3, World.frozen?_setCells]
            exact World.frozen?_of_block hR2
          · rw [hlk, Nat.zero_add]
            rw [hcs] at hrg
            refine ⟨A2, n1, c2, w3.heap.size, by omega, hrg, there_sub hth3 (by omega), hc2, hm2, HFA.out.1, HFA.out.2.1, HFA.out.2.2.1, HFA.out.2.2.2.1, HFA.out.2.2.2.2, ?_, Nat.le_refl _⟩
            rcases hat2 with h | ⟨R', q1, q2, q3, q4⟩
            · exact .inl h
            · have hle := Doc.own_le q4
              rw [hs3]
              refine .inr ⟨R', q1, q2, by omega, Doc.own_keep (fun q g1 g2 => h31 q (by omega) (by omega) g2) (fun i _ _ => ?_) q4⟩
              have hbb := h31 R' (by omega) (by omega) (by omega)
              exact ⟨World.cell?_of_block hbb, World.frozen?_of_block hbb⟩
        have hbw3 : Below w.heap.size w w3 := by
          rw [hw3]
          refine below_setCells (Nat.le_refl _) _ _ ?_
          rw [hw2]
          exact (hbw.trans (H0.out.mono (Nat.le_of_lt hsz))).trans (hb1.mono (by omega)) |>.setCell (p := ⟨wr.heap.size, 5, none⟩) (Nat.le_of_lt hsz) _
        have hw3' : (w1.setCell ⟨wr.heap.size, 5, none⟩ (.slice A2 n1 c2)).setCells w.heap.size (k * 6) (#[.int .i64 k1, .int .i64 l1, .string t1, .string d1, .string i1, .slice A2 n1 c2] : Array Value).toList = w3 := by rw [hcs', hw3, hw2]
        have HW3 := Lib.hid hw3'; clear hw3'
        rw [hw2] at hth2k
        have HTK := Lib.hid hth2k
        have HREL := Lib.hid (And.intro hs1 (And.intro hs3 (And.intro hth3 (And.intro hel3 hbw3))))
        clear hs1 hs2 hs3 hth3 hel3 hbw3 hc1r hc21 hR2 hth2 hth2k hcs hcl hcs' hw3 h31 hlk hrg hw2 hat2 hc2 hm2 hb1 hblk
        go_wp2_with (refine wpList_store_mid rfl 47 (.tmp 26) (.tmp 25) rfl w.heap.size (k * 6) #[.int .i64 k1, .int .i64 l1, .string t1, .string d1, .string i1, .slice A2 n1 c2] rfl rfl HTK.out node_size (by simp [Value.oneCell']) ?_; rw [HW3.out])
        go_roundw
        case rel =>
          obtain ⟨g1, g2, g3, g4, g5⟩ := HREL.out
          exact ⟨k + 1, by omega, by go_num, by omega, g3, g4, g5⟩
        case measure => simp [intOf]; omega
      · obtain rfl : k = n := by omega
        go_wp2_with fail
        go_ret
        have hl := HEL.out
        rw [show a.fst k = a by rw [HNL.out, Doc.fst_all]] at hl
        exact ⟨_, k, rfl, Nat.le_refl _, by unfold maxLen; omega, .inr ⟨_, rfl, HNL.out, Nat.le_refl _, hl⟩, hbw⟩
end Go.Proofs.Ytmaahkonjpcgiab
