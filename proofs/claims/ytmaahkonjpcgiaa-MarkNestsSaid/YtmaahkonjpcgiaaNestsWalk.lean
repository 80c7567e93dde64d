/- DERIVED. What mark.Nested returns for every list of entries that lies in memory: by a walk of its text. No condition but that the list has at most 4000 entries. -/
import Derived.Test.YtmaahkonjpcgiaaRows
import Derived.Test.YtmaahkonjpcgiaaNestsPlain
import Derived.WalkKit
import Derived.WalkSpells
import Derived.WalkLawsBesides
import Derived.Lib.Hide
namespace Go.Proofs.Ytmaahkonjpcgiaa
open Go.RowKit
open NestsPlain

/-- Entries in memory, below block B: only their levels matter. -/
def EntsAt (w : World) (B : Nat) (A : Option Addr) (n : Nat) (lv : Nat → Int) : Prop :=
  ∀ i, i < n → ∃ (b off : Nat) (s t : ByteArray), A = some ⟨b, off, none⟩ ∧ b < B ∧ w.cell? ⟨b, off + i * 3, none⟩ = some (.int .i64 (lv i)) ∧
    w.cell? ⟨b, off + i * 3 + 1, none⟩ = some (.string s) ∧ w.cell? ⟨b, off + i * 3 + 2, none⟩ = some (.string t)
theorem EntsAt.below {w w' : World} {B : Nat} {A : Option Addr} {n : Nat} {lv : Nat → Int} (h : EntsAt w B A n lv) (hb : Below B w w') : EntsAt w' B A n lv := by
  intro i hi
  obtain ⟨b, off, s, t, h1, h2, h3, h4, h5⟩ := h i hi
  exact ⟨b, off, s, t, h1, h2, (hb.cell h2).trans h3, (hb.cell h2).trans h4, (hb.cell h2).trans h5⟩

theorem nests_info : (Try.prog.info? 3).map (fun i => (i.zero, i.size, i.bytes)) = some (some (.int .i64 0), 1, 8) := by kernel_rfl

def Good (lv : Nat → Int) (n : Nat) : Prop := ∀ i, i < n → 1 ≤ lv i ∧ lv i ≤ 6
def Bad (lv : Nat → Int) (n : Nat) : Prop := ∃ i, i < n ∧ Good lv i ∧ ¬ (1 ≤ lv i ∧ lv i ≤ 6)
def NestPost (lv : Nat → Int) (n : Nat) (w : World) (e : Ending) (w' : World) : Prop :=
  (∃ v, Good lv n ∧ e = .returned (.tuple #[v, .int .i64 0]) ∧ w'.ownsRow (w.heap.size + 1) 3 1 v n ((outs lv n).map (Value.int .i64)) ∧ Below w.heap.size w w') ∨
  (Bad lv n ∧ e = .returned (.tuple #[.slice none 0 0, .int .i64 2]) ∧ Below w.heap.size w w')

def lastRow (lv : Nat → Int) (i : Nat) (u : Int) : Array Value := #[.int .i64 (tab lv i u 0), .int .i64 (tab lv i u 1), .int .i64 (tab lv i u 2), .int .i64 (tab lv i u 3), .int .i64 (tab lv i u 4), .int .i64 (tab lv i u 5)]

theorem lastRow_get (lv : Nat → Int) (i : Nat) (u : Int) (j : Nat) (h : j < 6) : (lastRow lv i u)[j]? = some (.int .i64 (tab lv i u j)) := by
  match j, h with
  | 0, _ => rfl
  | 1, _ => rfl
  | 2, _ => rfl
  | 3, _ => rfl
  | 4, _ => rfl
  | 5, _ => rfl
theorem lastRow_end (lv : Nat → Int) (i : Nat) : lastRow lv i 6 = lastRow lv (i + 1) (lv (i + 1)) := by
  unfold lastRow
  simp only [tab_start]
  rw [tab_end lv i 6 0 (by omega), tab_end lv i 6 1 (by omega), tab_end lv i 6 2 (by omega), tab_end lv i 6 3 (by omega), tab_end lv i 6 4 (by omega), tab_end lv i 6 5 (by omega)]
theorem lastRow_set (lv : Nat → Int) (i j : Nat) (h : j < 6) (hl : lv i ≤ j) : (lastRow lv i j).setIfInBounds j (.int .i64 i) = lastRow lv i ((j : Int) + 1) := by
  have other : ∀ m : Nat, m ≠ j → tab lv i ((j : Int) + 1) m = tab lv i j m := fun m hm => tab_step_other lv i j m (by omega)
  have same : tab lv i ((j : Int) + 1) j = i := tab_step_same lv i j hl
  apply Array.ext_getElem?
  intro m
  rw [Array.getElem?_setIfInBounds]
  by_cases hm : m < 6
  · rw [lastRow_get _ _ _ m hm]
    by_cases e : j = m
    · subst e
      rw [if_pos rfl, if_pos (by show j < 6; exact h), lastRow_get _ _ _ j h, same]
    · rw [if_neg e, lastRow_get _ _ _ m hm, other m (fun h => e h.symm)]
  · have hs : ∀ u, (lastRow lv i u)[m]? = none := fun u => Array.getElem?_eq_none (by show 6 ≤ m; omega)
    rw [if_neg (by omega), hs, hs]

theorem block_set {w : World} {b : Nat} {cs : Array Value} {t : TypeId} (h : w.heap[b]? = some (.cells cs t (0, 0))) {i : Nat} {v : Value} : (w.setCell ⟨b, i, none⟩ v).heap[b]? = some (.cells (cs.setIfInBounds i v) t (0, 0)) := by
  simp [World.setCell, Array.getElem?_modify, h]

/-- What stands behind the append: the entry's own block, the table's, what is owned. -/
theorem behind_append {w wr w1 : World} {u : Value} {k : Nat} {xs : List Value} {o1 : Array Value} {t1 : TypeId} {o2 : Obj} {last : Array Value}
    (hsz : w.heap.size < wr.heap.size) (hown : wr.ownsRow (w.heap.size + 1) 3 1 u k xs) (hlast : wr.heap[w.heap.size]? = some (.cells last 75 (0, 0))) (hbw : Below w.heap.size w wr)
    (hgrow : ((wr.alloc (.cells o1 t1)).alloc o2).grownBy w1 u.ownBlock) :
    w1.heap[wr.heap.size]? = some (.cells o1 t1 (0, 0)) ∧ w1.heap[w.heap.size]? = some (.cells last 75 (0, 0)) ∧ Below w.heap.size w w1 := by
  have hlt := hown.lt
  refine ⟨?_, ?_, ((hbw.alloc (by omega) _).alloc (by simp; omega) _).grown hgrow (by simp; omega) (fun j hj => by have := (hlt j hj).1; omega)⟩
  · rw [hgrow.block wr.heap.size (by simp; omega) (fun h => by have := (hlt _ h.symm).2; omega)]
    rw [Below.heap_alloc _ _ _ (by simp)]
    exact heap_alloc_new wr _
  · rw [hgrow.block w.heap.size (by simp; omega) (fun h => by have := (hlt _ h.symm).1; omega)]
    rw [Below.heap_alloc _ _ _ (by simp; omega), Below.heap_alloc _ _ _ hsz]
    exact hlast

set_option maxRecDepth 100000 in
set_option maxHeartbeats 400000 in
theorem nested_any (A : Option Addr) (n c : Nat) (lv : Nat → Int) (w : World) (hn : n ≤ 4000) (hents : EntsAt w w.heap.size A n lv) :
    Calls Try.prog 20 #[.slice A n c] w (NestPost lv n w) := by
  have HE := Lib.hid hents; clear hents
  obtain ⟨i0, hi, hz0, hz1, hz2⟩ := info_parts nests_info
  go_enter Try.func20, Try.ntmps20
  go_wp2
  go_loopw [4, 12] (fun v i wr => ∃ k : Nat, k ≤ n ∧ i = .int .i64 k ∧ Good lv k ∧ wr.ownsRow (w.heap.size + 1) 3 1 v k ((outs lv k).map (Value.int .i64)) ∧
      wr.heap[w.heap.size]? = some (.cells (lastRow lv k (lv k)) 75 (0, 0)) ∧ Below w.heap.size w wr) (fun _ i _ => n - (intOf i).toNat)
  case atStart =>
    refine ⟨0, Nat.zero_le _, rfl, fun i hi => absurd hi (by omega), World.ownsRow_nil _ _ _ _, ?_, (Below.refl _ _).alloc (Nat.le_refl _) _⟩
    have e : ∀ j, tab lv 0 (lv 0) j = -1 := fun j => by rw [tab_start]; rfl
    unfold lastRow
    simp only [e]
    exact heap_alloc_new w _
  case round =>
    obtain ⟨k, hk, rfl, hgood, hown, hlast, hbw⟩ := hrel
    by_cases hlt : k < n
    · obtain ⟨b, off, s, t, rfl, hb, hc0, hc1, hc2⟩ := HE.out k hlt
      have g0 : wr.cell? ⟨b, off + k * 3, none⟩ = some (.int .i64 (lv k)) := (hbw.cell hb).trans hc0
      have g1 : wr.cell? ⟨b, off + k * 3 + 1, none⟩ = some (.string s) := (hbw.cell hb).trans hc1
      have g2 : wr.cell? ⟨b, off + k * 3 + 2, none⟩ = some (.string t) := (hbw.cell hb).trans hc2
      clear hc0 hc1 hc2
      have hsz : w.heap.size < wr.heap.size := (Array.getElem?_eq_some_iff.1 hlast).1
      obtain ⟨x, hx⟩ : ∃ x, x = lv k := ⟨_, rfl⟩
      rw [← hx] at g0
      have HX := Lib.hid hx; clear hx
      by_cases hr : 1 ≤ x ∧ x ≤ 6
      · obtain ⟨h1, h6⟩ := hr
        have HL := Lib.hid hlast; clear hlast
        have HO := Lib.hid hown; clear hown
        have HG := Lib.hid hgood; clear hgood
        have hL : wr.cell? ⟨w.heap.size, x.toNat - 1, none⟩ = some (.int .i64 (prev lv x k)) := by
          rw [cell_of_row _ _ _ _ _ _ HL.out, lastRow_get _ _ _ _ (by omega), tab_start]
          congr 3; omega
        go_wp2_with (at_builtin; refine wpList_append_own _ rfl _ _ 38 rfl (w.heap.size + 1) 3 i0 (.int .i64 0) 1 8 Try.underlying38 hi hz0 hz1 hz2 rfl (by decide) _ _ _ rfl ((HO.out.alloc _).alloc _) ⟨wr.heap.size + 1, 0, none⟩ 1 1 [.int .i64 (prev lv x k)] rfl rfl ?c1 ?c2 ?c3 ?c4 ?c5 ?_)
        case c1 =>
          intro j u hj
          match j, hj with
          | 0, hj => simp at hj; subst hj; simp [Addr.add]
        case c2 => intro u hu; simp at hu; subst hu; rfl
        case c3 => unfold maxLen; omega
        case c4 => omega
        case c5 => have := hbw.size; simp; omega
        intro v' w1 hown' hgrow _
        obtain ⟨he, hl1, hb1⟩ := behind_append hsz HO.out HL.out hbw hgrow
        clear hgrow
        have ge0 : w1.cell? ⟨wr.heap.size, 0, none⟩ = some (.int .i64 x) := by rw [cell_of_row _ _ _ _ _ _ he]; rfl
        have HO1 := Lib.hid hown'; clear hown'
        have HL1 := Lib.hid hl1; clear hl1
        have HE1 := Lib.hid he; clear he
        go_wp2
        go_loopw [8] (fun l wi => ∃ u : Nat, x ≤ u ∧ u ≤ 6 ∧ l = .int .i64 u ∧ wi.heap[w.heap.size]? = some (.cells (lastRow lv k u) 75 (0, 0)) ∧
            wi.ownsRow (w.heap.size + 1) 3 1 v' (k + 1) ((outs lv (k + 1)).map (Value.int .i64)) ∧ Below w.heap.size w wi) (fun l _ => 6 - (intOf l).toNat)
        case atStart =>
          refine ⟨x.toNat, by omega, by omega, by congr 1; omega, ?_, ?_, hb1⟩
          · rw [HL1.out, HX.out]; congr 3; have := HX.out; omega
          · have := HO1.out
            rw [outs_succ, ← HX.out, List.map_append]
            exact this
        case round =>
          obtain ⟨u, hxu, hu6, rfl, hli, hoi, hbi⟩ := hrel
          by_cases hlu : u < 6
          · have gc : wr.cell? ⟨w.heap.size, u, none⟩ = some (.int .i64 (tab lv k u u)) := by rw [cell_of_row _ _ _ _ _ _ hli]; exact lastRow_get _ _ _ _ hlu
            have gf : wr.frozen? ⟨w.heap.size, u, none⟩ = false := by simp [World.frozen?, hli]
            have HLI := Lib.hid hli; clear hli
            have HOI := Lib.hid hoi; clear hoi
            go_wp2
            go_roundw
            case rel =>
              refine ⟨u + 1, by omega, by omega, by go_num, ?_, ownsRow_setCell_below HOI.out (Nat.lt_succ_self _) _, hbi.setCell (Nat.le_refl _) _⟩
              rw [block_set HLI.out, lastRow_set lv k u hlu (by have := HX.out; omega)]
              rfl
            case measure => simp [intOf]; omega
          · have HLI := Lib.hid hli; clear hli
            have HOI := Lib.hid hoi; clear hoi
            have hu : u = 6 := by omega
            go_wp2
            go_roundw
            case rel =>
              refine ⟨k + 1, by omega, by go_num, ?_, HOI.out, ?_, hbi⟩
              · intro i hi
                by_cases e : i < k
                · exact HG.out i e
                · obtain rfl : i = k := by omega
                  have := HX.out
                  omega
              · rw [HLI.out, ← lastRow_end lv k, hu]
                rfl
            case measure => simp [intOf]; omega
      · have HL := Lib.hid hlast; clear hlast
        have HO := Lib.hid hown; clear hown
        have HG := Lib.hid hgood; clear hgood
        by_cases h1 : x < 1
        · go_wp2
          go_ret2
          exact .inr ⟨⟨k, hlt, HG.out, by have := HX.out; omega⟩, rfl, hbw.alloc (by omega) _⟩
        · have h6 : 6 < x := by omega
          go_wp2
          go_ret2
          exact .inr ⟨⟨k, hlt, HG.out, by have := HX.out; omega⟩, rfl, hbw.alloc (by omega) _⟩
    · have HL := Lib.hid hlast; clear hlast
      have HO := Lib.hid hown; clear hown
      have HG := Lib.hid hgood; clear hgood
      have hkn : k = n := by omega
      subst hkn
      go_wp2
      go_ret2
      exact .inl ⟨_, HG.out, rfl, HO.out, hbw⟩
end Go.Proofs.Ytmaahkonjpcgiaa
