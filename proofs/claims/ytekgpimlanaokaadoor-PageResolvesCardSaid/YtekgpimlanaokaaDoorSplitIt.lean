/- DERIVED. The iterator that strings.SplitSeq gives at one slash: its pieces, in order. -/
import Derived.Test.YtekgpimlanaokaaDoorShelf
import Derived.Test.YtekgpimlanaokaaDoorRangeBox
import Derived.RangeFuncBox
import Derived.RangeFuncLeaves
import Derived.Shelf.Abstract
import Derived.WalkKit
import Derived.OwnWalkIn
import Derived.TacticsInMore
import Derived.LoopNIn
import Derived.LoopIn
import Derived.Lib.Hide
namespace Go.Proofs.YtekgpimlanaokaaDoor
set_option linter.unusedVariables false
open Go.RowKit Go.Shelf
attribute [local go_sem] Oper.semAt_some
abbrev bP (l : List UInt8) : ByteArray := ⟨l.toArray⟩
theorem bP_size (l : List UInt8) : (bP l).size = l.length := by show l.toArray.size = _; simp
theorem bP_list (l : List UInt8) : (bP l).data.toList = l := by simp
theorem bP_ext (l : List UInt8) (k : Nat) : (bP l).extract k (bP l).size = bP (l.drop k) := by
  apply ByteArray.ext
  apply Array.toList_inj.1
  rw [Lib.extract_to_end]
theorem bP_ext0 (l : List UInt8) (k : Nat) : (bP l).extract 0 k = bP (l.take k) := by
  apply ByteArray.ext
  apply Array.toList_inj.1
  rw [Lib.extract_data]
  simp
/-- The pieces between the slashes. -/
def pieces : List UInt8 → List (List UInt8)
  | [] => [[]]
  | c :: r => if c = 47 then [] :: pieces r else (c :: (pieces r).headD []) :: (pieces r).tail
theorem pieces_ne : ∀ l : List UInt8, pieces l ≠ []
  | [] => by simp [pieces]
  | c :: r => by unfold pieces; split <;> simp
theorem pieces_at : ∀ (l : List UInt8) (k : Nat), l[k]? = some 47 → (∀ j, j < k → l[j]? ≠ some 47) → pieces l = l.take k :: pieces (l.drop (k + 1))
  | [], k, h, _ => by simp at h
  | c :: r, 0, h, _ => by
    simp at h
    subst h
    simp [pieces]
  | c :: r, k + 1, h, h0 => by
    have hc : c ≠ 47 := fun e => h0 0 (by omega) (by simp [e])
    have ih := pieces_at r k (by simpa using h) (fun j hj => by have := h0 (j + 1) (by omega); simpa using this)
    rw [pieces, if_neg hc, ih]
    simp
theorem pieces_one : ∀ (l : List UInt8), (∀ k : Nat, l[k]? ≠ some 47) → pieces l = [l]
  | [], _ => rfl
  | c :: r, h => by
    have hc : c ≠ 47 := fun e => h 0 (by simp [e])
    have ih := pieces_one r (fun k => by have := h (k + 1); simpa using this)
    rw [pieces, if_neg hc, ih]
    rfl
theorem ixP (l : List UInt8) : (Lib.indexByte l 47 = -1 ∧ pieces l = [l]) ∨ (∃ k : Nat, Lib.indexByte l 47 = k ∧ pieces l = l.take k :: pieces (l.drop (k + 1)) ∧ k < l.length) := by
  by_cases h : Lib.indexByte l 47 = -1
  · exact .inl ⟨h, pieces_one l (Lib.indexByte_none h)⟩
  · have hge := Lib.indexByte_ge l 47
    obtain ⟨k, hk⟩ : ∃ k : Nat, Lib.indexByte l 47 = k := ⟨(Lib.indexByte l 47).toNat, by omega⟩
    obtain ⟨h1, h2⟩ := Lib.indexByte_some hk
    exact .inr ⟨k, hk, pieces_at l k h1 h2, (List.getElem?_eq_some_iff.1 h1).1⟩
/-- What the iterator does by itself: it writes its own block bss, and makes new ones. -/
def TS (bss : Nat) (A B : World) : Prop := (B.os = A.os ∧ B.tape = A.tape ∧ B.output = A.output) ∧ A.heap.size ≤ B.heap.size ∧ ∀ k, k < A.heap.size → k ≠ bss → B.heap[k]? = A.heap[k]?
theorem TS.set (bss : Nat) (A : World) (v : Value) : TS bss A (A.setCell ⟨bss, 0, none⟩ v) := ⟨⟨((Below.refl 0 A).setCell (p := ⟨bss, 0, none⟩) (Nat.zero_le _) v).os, ((Below.refl 0 A).setCell (p := ⟨bss, 0, none⟩) (Nat.zero_le _) v).tape, ((Below.refl 0 A).setCell (p := ⟨bss, 0, none⟩) (Nat.zero_le _) v).output⟩, by simp, fun k _ hk => Below.heap_setCell _ _ _ _ hk⟩
/-- What a round leaves as it is. -/
def KS (b1 b2 b3 : Nat) (A B : World) : Prop := A.heap.size ≤ B.heap.size ∧ ∀ k, k = b1 ∨ k = b2 ∨ k = b3 → k < A.heap.size → B.heap[k]? = A.heap[k]?
def sizeC (bss : Nat) (w : World) : Nat := match w.cell? ⟨bss, 0, none⟩ with
  | some (.string r) => r.size
  | _ => 0
theorem sizeC_eq {bss : Nat} {w : World} {r : ByteArray} (h : w.cell? ⟨bss, 0, none⟩ = some (.string r)) : sizeC bss w = r.size := by unfold sizeC; rw [h]
set_option maxRecDepth 100000 in
set_option maxHeartbeats 2000000 in
theorem split_in (n : Nat) (hn : 1 ≤ n) (l b1 b2 b3 : Nat) (h12 : b1 ≠ b2) (h32 : b3 ≠ b2) (s : List UInt8) (hs : s.length ≤ 1048576) (J Jx : List ByteArray → World → Prop)
    (hJT : ∀ x A B, J x A → TS b2 A B → J x B)
    (hY : ∀ pre x W1, J pre W1 → pre ++ [x] <+: (pieces s).map bP → YieldAt Fence.wide (n - 1) Tryd.prog l #[.string x] W1 fun e W' =>
      (e = .returned (.bool true) ∧ J (pre ++ [x]) W' ∧ KS b1 b2 b3 W1 W') ∨ (e = .returned (.bool false) ∧ Jx (pre ++ [x]) W'))
    (W : World) (x1 : Boxed W b1 9 (.string ⟨#[47]⟩)) (x2 : Boxed W b2 9 (.string (bP s))) (x3 : Boxed W b3 3 (.int .i64 0)) (h0 : J [] W) :
    CallsIn Fence.wide n Tryd.prog 39 #[.func (.yield l) #[] #[], .pointer (some ⟨b1, 0, none⟩), .pointer (some ⟨b2, 0, none⟩), .pointer (some ⟨b3, 0, none⟩)] W fun e W' => (∃ v, e = .returned v) ∧
      ((∃ ys, ys = (pieces s).map bP ∧ J ys W') ∨ (∃ pre, pre <+: (pieces s).map bP ∧ Jx pre W')) := by
  refine callsIn_of_wp Tryd.func39 rfl trivial ?_ rfl
  simp only [Tryd.ntmps39, List.size_toArray, List.length_cons, List.length_nil, Nat.reduceAdd, Nat.reduceSub, Array.replicate_succ, Array.replicate_zero, List.push_toArray, List.append_toArray, List.nil_append, List.cons_append]
  have X1 := Lib.hid x1
  have X2 := Lib.hid x2
  have X3 := Lib.hid x3
  have HY := Lib.hid hY
  have HJT := Lib.hid hJT
  have y1 := x1.cell
  have y2 := x2.cell
  have y3 := x3.cell
  clear x1 x2 x3 hY hJT
  gi_wp2
  gi_loopw [7] (fun _ wr => ∃ (pre : List ByteArray) (rest : List UInt8), (pieces s).map bP = pre ++ (pieces rest).map bP ∧ rest.length + pre.length ≤ s.length ∧ Boxed wr b1 9 (.string ⟨#[47]⟩) ∧ Boxed wr b2 9 (.string (bP rest)) ∧ Boxed wr b3 3 (.int .i64 0) ∧ J pre wr) (fun _ wr => sizeC b2 wr)
  case atStart => exact ⟨[], s, rfl, by simp, X1.out, X2.out, X3.out, h0⟩
  case round =>
    obtain ⟨pre, rest, hpc, hlen, z1, z2, z3, hj⟩ := hrel
    have y1 := z1.cell
    have y2 := z2.cell
    have y3 := z3.cell
    have f2 := z2.frozen
    have hix := fun wX => Tryd.strings_Index_one (bP rest) 47 wX
    have hbl := bP_list rest
    have hx0 := bP_ext0 rest
    have hx1 := bP_ext rest
    have hsz := bP_size rest
    obtain ⟨R, hR⟩ : ∃ R, bP rest = R := ⟨_, rfl⟩
    rw [hR] at hix y2 hbl hx0 hx1 hsz
    rw [hbl] at hix
    have HZ := Lib.hid (And.intro z1 (And.intro z2 z3))
    have HPC := Lib.hid hpc
    have HR := Lib.hid hR
    have hJ := Lib.hid hj
    clear z1 z2 z3 hpc hbl
    rcases ixP rest with ⟨hi, hp⟩ | ⟨k, hi, hp, hk⟩
    · rw [hi] at hix
      have HIX := Lib.hid hix
      have HP := Lib.hid hp
      obtain ⟨fn, tmps, assign, body, hy, hRd⟩ := HY.out pre R wr hj (by rw [HPC.out, hp, ← hR]; exact List.prefix_refl _)
      clear hix hi hp hx0 hx1 hR
      gi_wp2
      refine ⟨trivial, (callsIn_wide.2 (HIX.out _)).mono ?_⟩
      rintro e w9 ⟨rfl, rfl⟩
      gi_wp2
      refine hRd.mono ?_
      rintro e W3 (⟨rfl, hJ3, hk3⟩ | ⟨rfl, hJx3⟩)
      · gi_wp2
        go_end0
        refine ⟨⟨_, rfl⟩, .inl ⟨_, ?_, hJ3⟩⟩
        rw [HPC.out, HP.out, ← HR.out]
        rfl
      · gi_wp2
        go_end0
        refine ⟨⟨_, rfl⟩, .inr ⟨_, ?_, hJx3⟩⟩
        rw [HPC.out, HP.out, ← HR.out]
        exact List.prefix_refl _
    · rw [hi] at hix
      have HIX := Lib.hid hix
      have HP := Lib.hid hp
      have e0 := hx0 k
      have e1 := hx1 (k + 1)
      clear hx0 hx1
      obtain ⟨X, hX⟩ : ∃ X, R.extract 0 k = X := ⟨_, rfl⟩
      obtain ⟨Y, hYy⟩ : ∃ Y, R.extract (k + 1) R.size = Y := ⟨_, rfl⟩
      have HX := Lib.hid (hX.symm.trans e0)
      have HYY := Lib.hid (hYy.symm.trans e1)
      obtain ⟨fn, tmps, assign, body, hy, hRd⟩ := HY.out pre X wr hj (by rw [HPC.out, hp, HX.out]; exact ⟨(pieces (rest.drop (k + 1))).map bP, by simp⟩)
      have i0 : decide ((k : Int) < 0) = false := decide_eq_false (by omega)
      have i1 : (0 : Int) ≤ (k : Int) := by omega
      have i2 : (k : Int) ≤ (R.size : Int) := by omega
      have k1 : IntKind.i64.wrap ((k : Int) + 1) = (k : Int) + 1 := IntWalk.i64_in _ (by omega)
      have k2 : (0 : Int) ≤ (k : Int) + 1 := by omega
      have k3 : ((k : Int) + 1).toNat = k + 1 := by omega
      have k4 : (k : Int) + 1 ≤ (R.size : Int) := by omega
      have HSZ := Lib.hid hsz
      clear hix hi hp e0 e1 hR hsz
      gi_wp2
      refine ⟨trivial, (callsIn_wide.2 (HIX.out _)).mono ?_⟩
      rintro e w9 ⟨rfl, rfl⟩
      gi_wp2
      refine hRd.mono ?_
      rintro e W3 (⟨rfl, hJ3, hk3⟩ | ⟨rfl, hJx3⟩)
      · have z1 : Boxed W3 b1 9 (.string ⟨#[47]⟩) := (hk3.2 b1 (.inl rfl) HZ.out.1.lt).trans HZ.out.1
        have z2 : Boxed W3 b2 9 (.string R) := (hk3.2 b2 (.inr (.inl rfl)) HZ.out.2.1.lt).trans (by have := HZ.out.2.1; rwa [HR.out] at this)
        have z3 : Boxed W3 b3 3 (.int .i64 0) := (hk3.2 b3 (.inr (.inr rfl)) HZ.out.2.2.lt).trans HZ.out.2.2
        have y1 := z1.cell
        have y2 := z2.cell
        have f2 := z2.frozen
        have HZ3 := Lib.hid (And.intro z1 (And.intro z2 z3))
        have HJ3 := Lib.hid hJ3
        clear z1 z2 z3 hJ3 hk3
        gi_wp2
        go_roundw
        case rel =>
          refine ⟨pre ++ [X], rest.drop (k + 1), ?_, ?_, HZ3.out.1.other h12 _, ?_, HZ3.out.2.2.other h32 _, HJT.out _ _ _ HJ3.out (TS.set _ _ _)⟩
          · rw [HPC.out, HP.out, HX.out]
            simp
          · simp
            omega
          · rw [← HYY.out]
            exact HZ3.out.2.1.set _
        case measure =>
          rw [sizeC_eq (HZ3.out.2.1.set _).cell, sizeC_eq (by have := HZ.out.2.1.cell; rwa [HR.out] at this), HYY.out, bP_size, HSZ.out]
          simp
          omega
      · gi_wp2
        refine bodyPost_ret (results_none rfl _ _ _) rfl ?_
        refine ⟨⟨_, rfl⟩, .inr ⟨_, ?_, hJx3⟩⟩
        rw [HPC.out, HP.out, HX.out]
        exact ⟨(pieces (rest.drop (k + 1))).map bP, by simp⟩
/-- What strings.SplitSeq gives at one slash, as a contract for a loop. -/
theorem split_stops (n : Nat) (hn : 1 ≤ n) (b1 b2 b3 : Nat) (h12 : b1 ≠ b2) (h32 : b3 ≠ b2) (s : List UInt8) (hs : s.length ≤ 1048576) (w : World) (hb1 : b1 < w.heap.size) (hb2 : b2 < w.heap.size) (hb3 : b3 < w.heap.size)
    (x1 : Boxed w b1 9 (.string ⟨#[47]⟩)) (x2 : Boxed w b2 9 (.string (bP s))) (x3 : Boxed w b3 3 (.int .i64 0)) :
    SeqT Fence.wide n Tryd.prog 39 #[.pointer (some ⟨b1, 0, none⟩), .pointer (some ⟨b2, 0, none⟩), .pointer (some ⟨b3, 0, none⟩)] (fun x : ByteArray => #[Value.string x]) (TS b2) (KS b1 b2 b3)
      (fun ys => ys = (pieces s).map bP) (fun pre => pre <+: (pieces s).map bP) (fun pre x => pre ++ [x] <+: (pieces s).map bP) w := fun l J Jx W hW hJ hJx hY h0 =>
  split_in n hn l b1 b2 b3 h12 h32 s hs J Jx hJ hY W ((hW.block b1 hb1).trans x1) ((hW.block b2 hb2).trans x2) ((hW.block b3 hb3).trans x3) h0
end Go.Proofs.YtekgpimlanaokaaDoor
