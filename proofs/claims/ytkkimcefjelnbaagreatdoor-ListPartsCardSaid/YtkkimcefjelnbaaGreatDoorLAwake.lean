/- DERIVED. What list's reader does with the empty string: an error. No condition but that the signs lie where they do. -/
import Derived.Test.YtkkimcefjelnbaaGreatDoorProg
import Derived.Lib.Hide
import Derived.ProofKit
import Derived.BigQuiet
import Derived.Deep.QuietTactic
import Derived.WalkSmall
import Derived.StillTailTactics
import Derived.Carry
import Derived.Laws.ResultCell
import Derived.Laws.Rows
namespace Go.Proofs.YtkkimcefjelnbaaGreatDoor.LAw
set_option linter.unusedVariables false
open Go.RowKit
theorem setIf_id {α : Type} {c : Array α} {i : Nat} {v : α} (h : c[i]? = some v) : c.setIfInBounds i v = c := by
  apply Array.ext_getElem?
  intro j
  rw [Array.getElem?_setIfInBounds]
  split
  · rename_i e
    subst e
    split
    · exact h.symm
    · rename_i hn
      rw [Array.getElem?_eq_none (by omega)] at h
      cases h
  · rfl
/-- A store of what is there turns nothing. -/
theorem setCell_id {w : World} {a : Addr} {v : Value} (h : w.cell? a = some v) : w.setCell a v = w := by
  have hh : (w.setCell a v).heap = w.heap := by
    apply Array.ext_getElem?
    intro j
    by_cases hj : j = a.block
    · subst hj
      unfold World.cell? at h
      unfold World.setCell
      simp only [Array.getElem?_modify, if_true]
      cases hb : w.heap[a.block]? with
      | none => rfl
      | some o =>
        rw [hb] at h
        cases o with
        | cells c e f =>
          simp only at h
          split at h
          · cases h
          · rename_i hs
            simp only [Option.map_some, if_neg hs, setIf_id h]
        | _ => cases h
    · exact heap_setCell_other w a j v hj
  have h2 : w.setCell a v = { w with heap := (w.setCell a v).heap } := rfl
  rw [h2, hh]
/-- The reader of the empty string, as it begins. -/
structure Rd (w : World) (R : Nat) : Prop where
  lt : R < w.heap.size
  c0 : w.cell? ⟨R, 0, none⟩ = some (.string ⟨#[]⟩)
  c1 : w.cell? ⟨R, 1, none⟩ = some (.int .i64 0)
  c2 : w.cell? ⟨R, 2, none⟩ = some (.int .i64 0)
  c3 : w.cell? ⟨R, 3, none⟩ = some (.string ⟨#[]⟩)
  f1 : w.frozen? ⟨R, 1, none⟩ = false
  f2 : w.frozen? ⟨R, 2, none⟩ = false
  f3 : w.frozen? ⟨R, 3, none⟩ = false
theorem Rd.below {w w' : World} {R : Nat} (h : Rd w R) (hb : Below (R + 1) w w') : Rd w' R :=
  ⟨Nat.lt_of_lt_of_le h.lt hb.size, (hb.cell (p := ⟨R, 0, none⟩) (by simp)).trans h.c0, (hb.cell (p := ⟨R, 1, none⟩) (by simp)).trans h.c1, (hb.cell (p := ⟨R, 2, none⟩) (by simp)).trans h.c2, (hb.cell (p := ⟨R, 3, none⟩) (by simp)).trans h.c3,
    (hb.frozen (p := ⟨R, 1, none⟩) (by simp)).trans h.f1, (hb.frozen (p := ⟨R, 2, none⟩) (by simp)).trans h.f2, (hb.frozen (p := ⟨R, 3, none⟩) (by simp)).trans h.f3⟩
theorem Rd.keep {w w' : World} {R : Nat} (h : Rd w R) (hb : Below w.heap.size w w') : Rd w' R := h.below (hb.mono h.lt)
/-- The signs lie in memory, and the fourth is 'not'. -/
structure Sg (w : World) (b o n c : Nat) : Prop where
  lt : b < w.heap.size
  gt : 0 < w.heap.size
  le : 3 < n
  g : w.cell? ⟨0, 0, none⟩ = some (.slice (some ⟨b, o, none⟩) n c)
  s : w.cell? ⟨b, o + 3, none⟩ = some (.string ⟨#[110, 111, 116]⟩)
theorem Sg.below {w w' : World} {b o n c : Nat} (h : Sg w b o n c) (hb : Below w.heap.size w w') : Sg w' b o n c :=
  ⟨Nat.lt_of_lt_of_le h.lt hb.size, Nat.lt_of_lt_of_le h.gt hb.size, h.le, (hb.cell (p := ⟨0, 0, none⟩) h.gt).trans h.g, (hb.cell (p := ⟨b, o + 3, none⟩) h.lt).trans h.s⟩
/-- The condition nil. -/
def zc : Array Value := #[.int .i64 0, .string ⟨#[]⟩, .int .i64 0, .bool false, .int .i64 0, .string ⟨#[]⟩, .slice none 0 0, .slice none 0 0, .slice none 0 0]
def nilC : Value := .agg #[.int .i64 0, .string ⟨#[]⟩, .int .i64 0, .bool false, .int .i64 0, .string ⟨#[]⟩, .slice none 0 0, .slice none 0 0, .slice none 0 0]
theorem zero9 {w : World} {N : Nat} {t : TypeId} (e : w.heap[N]? = some (.cells zc t (0, 0))) :
    (w.cell? ⟨N, 0, none⟩ = some (.int .i64 0) ∧ w.frozen? ⟨N, 0, none⟩ = false) ∧ (w.cell? ⟨N, 1, none⟩ = some (.string ⟨#[]⟩) ∧ w.frozen? ⟨N, 1, none⟩ = false) ∧ (w.cell? ⟨N, 2, none⟩ = some (.int .i64 0) ∧ w.frozen? ⟨N, 2, none⟩ = false) ∧ (w.cell? ⟨N, 3, none⟩ = some (.bool false) ∧ w.frozen? ⟨N, 3, none⟩ = false) ∧ (w.cell? ⟨N, 4, none⟩ = some (.int .i64 0) ∧ w.frozen? ⟨N, 4, none⟩ = false) ∧ (w.cell? ⟨N, 5, none⟩ = some (.string ⟨#[]⟩) ∧ w.frozen? ⟨N, 5, none⟩ = false) ∧ (w.cell? ⟨N, 6, none⟩ = some (.slice none 0 0) ∧ w.frozen? ⟨N, 6, none⟩ = false) ∧ (w.cell? ⟨N, 7, none⟩ = some (.slice none 0 0) ∧ w.frozen? ⟨N, 7, none⟩ = false) ∧ (w.cell? ⟨N, 8, none⟩ = some (.slice none 0 0) ∧ w.frozen? ⟨N, 8, none⟩ = false) := by
  have c : ∀ j, w.cell? ⟨N, j, none⟩ = zc[j]? := fun j => cell_of_row _ _ _ _ _ _ e
  exact ⟨⟨c 0, frozen_of_row w _ 0 _ _ e⟩, ⟨c 1, frozen_of_row w _ 1 _ _ e⟩, ⟨c 2, frozen_of_row w _ 2 _ _ e⟩, ⟨c 3, frozen_of_row w _ 3 _ _ e⟩, ⟨c 4, frozen_of_row w _ 4 _ _ e⟩, ⟨c 5, frozen_of_row w _ 5 _ _ e⟩, ⟨c 6, frozen_of_row w _ 6 _ _ e⟩, ⟨c 7, frozen_of_row w _ 7 _ _ e⟩, ⟨c 8, frozen_of_row w _ 8 _ _ e⟩⟩
set_option maxRecDepth 100000 in
set_option maxHeartbeats 800000 in
theorem readQ (R : Nat) (w : World) (h : Rd w R) :
    Calls Tryz.prog 9 #[.pointer (some ⟨R, 0, none⟩)] w fun e w' => e = .returned (.int .i64 0) ∧ Below w.heap.size w w' := by
  obtain ⟨hlt, c0, c1, c2, c3, f1, f2, f3⟩ := h
  have HID := Lib.hid (setCell_id c1)
  go_enter Tryz.func9, Tryz.ntmps9
  go_wp2_with fail
  rw [HID.out]
  go_loopw [] (fun wr => wr = w) (fun _ => 0)
  case atStart => rfl
  case round =>
    subst hrel
    go_wp2_with fail
    go_quiet (fail)
    go_wp2_with fail
    have hb1 := below_drewN (Below.refl wr.heap.size wr) nq
    have d0 := (hb1.cell (p := ⟨R, 0, none⟩) hlt).trans c0
    have d1 := (hb1.cell (p := ⟨R, 1, none⟩) hlt).trans c1
    have d2 := (hb1.cell (p := ⟨R, 2, none⟩) hlt).trans c2
    have d3 := (hb1.cell (p := ⟨R, 3, none⟩) hlt).trans c3
    have g2 := (hb1.frozen (p := ⟨R, 2, none⟩) hlt).trans f2
    have g3 := (hb1.frozen (p := ⟨R, 3, none⟩) hlt).trans f3
    have hdr : Below wr.heap.size wr (wr.drewN nq) := hb1
    have hlt1 : R < (wr.drewN nq).heap.size := Nat.lt_of_lt_of_le hlt hb1.size
    generalize wr.drewN nq = w1 at hdr d0 d1 d2 d3 g2 g3 hlt1 ⊢
    clear HID hb1 c0 c1 c2 c3 f1 f2 f3
    go_quiet (fail)
    go_wp2_with fail
    have hb2 := below_drewN (Below.refl w1.heap.size w1) nq
    have c0 := (hb2.cell (p := ⟨R, 0, none⟩) hlt1).trans d0
    have c1 := (hb2.cell (p := ⟨R, 1, none⟩) hlt1).trans d1
    have c2 := (hb2.cell (p := ⟨R, 2, none⟩) hlt1).trans d2
    have c3 := (hb2.cell (p := ⟨R, 3, none⟩) hlt1).trans d3
    have f2 := (hb2.frozen (p := ⟨R, 2, none⟩) hlt1).trans g2
    have f3 := (hb2.frozen (p := ⟨R, 3, none⟩) hlt1).trans g3
    have hdr2 : Below wr.heap.size wr (w1.drewN nq) := hdr.trans (hb2.mono hdr.size)
    generalize w1.drewN nq = w2 at hdr2 c0 c1 c2 c3 f2 f3 ⊢
    clear hb2 d0 d1 d2 d3 g2 g3 hdr hlt1
    go_region
    go_wp2_with fail
    have e3 : w2.setCell ⟨R, 3, none⟩ (.string ByteArray.empty) = w2 := setCell_id c3
    have e2 : w2.setCell ⟨R, 2, none⟩ (.int .i64 0) = w2 := setCell_id c2
    rw [e3, e2]
    go_ret
    exact ⟨rfl, hdr2.drew⟩
set_option maxRecDepth 100000 in
set_option maxHeartbeats 800000 in
theorem ofRouteQ (R : Nat) (w : World) (h : Rd w R) :
    Calls Tryz.prog 71 #[.pointer (some ⟨R, 0, none⟩)] w fun e w' => e = .returned (.tuple #[nilC, .int .i64 8]) ∧ Below w.heap.size w w' := by
  obtain ⟨hlt, k0, k1, k2, k3, -, -, -⟩ := h
  go_enter Tryz.func71, Tryz.ntmps71
  go_wp2_with fail
  have e0 : (w.alloc (.cells zc 36)).heap[w.heap.size]? = some (.cells zc 36 (0, 0)) := heap_alloc_new w _
  refine bodyPost_ret (v := .tuple #[nilC, .int .i64 8]) ?_ rfl ⟨rfl, (Below.refl _ _).alloc (Nat.le_refl _) _⟩
  generalize hW : w.alloc (.cells zc 36) = w1 at e0
  unfold zc at hW
  rw [hW]
  obtain ⟨⟨c0, f0⟩, ⟨c1, f1⟩, ⟨c2, f2⟩, ⟨c3, f3⟩, ⟨c4, f4⟩, ⟨c5, f5⟩, ⟨c6, f6⟩, ⟨c7, f7⟩, ⟨c8, f8⟩⟩ := zero9 e0
  simp [results, Tryz.results71, go_sem, c0, c1, c2, c3, c4, c5, c6, c7, c8, nilC]
set_option maxRecDepth 100000 in
set_option maxHeartbeats 800000 in
theorem singleQ (R b o n c : Nat) (w : World) (h : Rd w R) (hs : Sg w b o n c) :
    Calls Tryz.prog 51 #[.pointer (some ⟨R, 0, none⟩)] w fun e w' => e = .returned (.tuple #[nilC, .int .i64 8]) ∧ Below w.heap.size w w' := by
  have HC := Lib.hid (fun wX (hX : Rd wX R) => ofRouteQ R wX hX)
  go_enter Tryz.func51, Tryz.ntmps51
  have hbZ : Below w.heap.size w (w.alloc (.cells zc 36)) := (Below.refl _ _).alloc (Nat.le_refl _) _
  have e0 : (w.alloc (.cells zc 36)).heap[w.heap.size]? = some (.cells zc 36 (0, 0)) := heap_alloc_new w _
  have hsz : w.heap.size < (w.alloc (.cells zc 36)).heap.size := by simp
  have hRd := h.keep hbZ
  have hSg := hs.below hbZ
  generalize hW : w.alloc (.cells zc 36) = w1 at e0 hbZ hsz hRd hSg
  unfold zc at hW
  clear h hs
  have HR := Lib.hid hRd
  have HS := Lib.hid hSg
  obtain ⟨hlt, k0, k1, k2, k3, -, -, -⟩ := hRd
  clear hSg
  go_wp2_with fail
  refine (HC.out _ HR.out).mono ?_
  rintro e w2 ⟨rfl, hb2⟩
  have hbA := hbZ.trans (hb2.mono (Nat.le_of_lt hsz))
  have e1 := (hb2.block w.heap.size hsz).trans e0
  obtain ⟨⟨c0, f0⟩, ⟨c1, f1⟩, ⟨c2, f2⟩, ⟨c3, f3⟩, ⟨c4, f4⟩, ⟨c5, f5⟩, ⟨c6, f6⟩, ⟨c7, f7⟩, ⟨c8, f8⟩⟩ := zero9 e1
  clear hb2 e1 e0
  unfold nilC
  go_wp2_with fail
  rw [setCell_id c0, setCell_id c1, setCell_id c2, setCell_id c3, setCell_id c4, setCell_id c5, setCell_id c6, setCell_id c7, setCell_id c8]
  refine bodyPost_ret (v := .tuple #[nilC, .int .i64 8]) ?_ rfl ⟨rfl, hbA⟩
  simp [results, Tryz.results51, go_sem, c0, c1, c2, c3, c4, c5, c6, c7, c8, nilC]
set_option maxRecDepth 100000 in
set_option maxHeartbeats 800000 in
theorem notQ (R b o n c : Nat) (w : World) (h : Rd w R) (hs : Sg w b o n c) :
    Calls Tryz.prog 36 #[.pointer (some ⟨R, 0, none⟩)] w fun e w' => e = .returned (.tuple #[nilC, .int .i64 8]) ∧ Below w.heap.size w w' := by
  have HC := Lib.hid (fun wX hX hY => singleQ R b o n c wX hX hY)
  go_enter Tryz.func36, Tryz.ntmps36
  have hbZ : Below w.heap.size w (w.alloc (.cells zc 36)) := (Below.refl _ _).alloc (Nat.le_refl _) _
  have e0 : (w.alloc (.cells zc 36)).heap[w.heap.size]? = some (.cells zc 36 (0, 0)) := heap_alloc_new w _
  have hsz : w.heap.size < (w.alloc (.cells zc 36)).heap.size := by simp
  have hRd := h.keep hbZ
  have hSg := hs.below hbZ
  generalize hW : w.alloc (.cells zc 36) = w1 at e0 hbZ hsz hRd hSg
  unfold zc at hW
  clear h hs
  have HR := Lib.hid hRd
  have HS := Lib.hid hSg
  obtain ⟨hlt, k0, k1, k2, k3, -, -, -⟩ := hRd
  obtain ⟨hbl, hgl, hle, s0, s1⟩ := hSg
  have i1 : (3 : Int) < (n : Int) := by omega
  go_wp2_with fail
  go_quiet (fail)
  go_wp2_with fail
  have hbq : Below w1.heap.size w1 (w1.drewN nq) := below_drewN (Below.refl _ _) nq
  have hbZ := hbZ.trans (hbq.mono (Nat.le_of_lt hsz))
  have e0 := (hbq.block w.heap.size hsz).trans e0
  have hRd := HR.out.keep hbq
  have hSg := HS.out.below hbq
  have hsz : w.heap.size < (w1.drewN nq).heap.size := Nat.lt_of_lt_of_le hsz hbq.size
  generalize w1.drewN nq = w3 at hbZ e0 hRd hSg hsz ⊢
  refine (HC.out _ hRd hSg).mono ?_
  rintro e w2 ⟨rfl, hb2⟩
  have hbA := hbZ.trans (hb2.mono (Nat.le_of_lt hsz))
  have e1 := (hb2.block w.heap.size hsz).trans e0
  obtain ⟨⟨c0, f0⟩, ⟨c1, f1⟩, ⟨c2, f2⟩, ⟨c3, f3⟩, ⟨c4, f4⟩, ⟨c5, f5⟩, ⟨c6, f6⟩, ⟨c7, f7⟩, ⟨c8, f8⟩⟩ := zero9 e1
  clear hb2 e1 e0
  unfold nilC
  go_wp2_with fail
  rw [setCell_id c0, setCell_id c1, setCell_id c2, setCell_id c3, setCell_id c4, setCell_id c5, setCell_id c6, setCell_id c7, setCell_id c8]
  refine bodyPost_ret (v := .tuple #[nilC, .int .i64 8]) ?_ rfl ⟨rfl, hbA⟩
  simp [results, Tryz.results36, go_sem, c0, c1, c2, c3, c4, c5, c6, c7, c8, nilC]
set_option maxRecDepth 100000 in
set_option maxHeartbeats 800000 in
theorem severalNotQ (R b o n c : Nat) (w : World) (h : Rd w R) (hs : Sg w b o n c) :
    Calls Tryz.prog 18 #[.pointer (some ⟨R, 0, none⟩), .int .i64 1, .func (.func 36) #[.pointer (some ⟨R, 0, none⟩)] #[]] w fun e w' => e = .returned (.tuple #[nilC, .int .i64 8]) ∧ Below w.heap.size w w' := by
  have HC := Lib.hid (fun wX hX hY => notQ R b o n c wX hX hY)
  go_enter Tryz.func18, Tryz.ntmps18
  have hbZ : Below w.heap.size w (w.alloc (.cells zc 36)) := (Below.refl _ _).alloc (Nat.le_refl _) _
  have e0 : (w.alloc (.cells zc 36)).heap[w.heap.size]? = some (.cells zc 36 (0, 0)) := heap_alloc_new w _
  have hsz : w.heap.size < (w.alloc (.cells zc 36)).heap.size := by simp
  have hRd := h.keep hbZ
  have hSg := hs.below hbZ
  generalize hW : w.alloc (.cells zc 36) = w1 at e0 hbZ hsz hRd hSg
  unfold zc at hW
  clear h hs
  have HR := Lib.hid hRd
  have HS := Lib.hid hSg
  clear hRd hSg
  go_wp2_with fail
  refine (HC.out _ HR.out HS.out).mono ?_
  rintro e w2 ⟨rfl, hb2⟩
  have hbA := hbZ.trans (hb2.mono (Nat.le_of_lt hsz))
  have hs2 : w.heap.size < w2.heap.size := Nat.lt_of_lt_of_le hsz hb2.size
  have e1 := (hb2.block w.heap.size hsz).trans e0
  clear hb2 e0
  unfold nilC
  go_wp2_with fail
  go_quiet (fail)
  have hbq : Below w2.heap.size w2 ((w2.alloc (.cells #[.int .i64 0, .string ⟨#[]⟩, .int .i64 0, .bool false, .int .i64 0, .string ⟨#[]⟩, .slice none 0 0, .slice none 0 0, .slice none 0 0] 36)).drewN nq) := below_drewN ((Below.refl _ _).alloc (Nat.le_refl _) _) nq
  have e2 : ((w2.alloc (.cells #[.int .i64 0, .string ⟨#[]⟩, .int .i64 0, .bool false, .int .i64 0, .string ⟨#[]⟩, .slice none 0 0, .slice none 0 0, .slice none 0 0] 36)).drewN nq).heap[w2.heap.size]? = some (.cells #[.int .i64 0, .string ⟨#[]⟩, .int .i64 0, .bool false, .int .i64 0, .string ⟨#[]⟩, .slice none 0 0, .slice none 0 0, .slice none 0 0] 36 (0, 0)) := heap_alloc_new w2 _
  have e1 := (hbq.block w.heap.size hs2).trans e1
  have hbA := hbA.trans (hbq.mono hbA.size)
  generalize (w2.alloc (.cells #[.int .i64 0, .string ⟨#[]⟩, .int .i64 0, .bool false, .int .i64 0, .string ⟨#[]⟩, .slice none 0 0, .slice none 0 0, .slice none 0 0] 36)).drewN nq = w3 at hbq e2 e1 hbA ⊢
  obtain ⟨⟨c0, f0⟩, ⟨c1, f1⟩, ⟨c2, f2⟩, ⟨c3, f3⟩, ⟨c4, f4⟩, ⟨c5, f5⟩, ⟨c6, f6⟩, ⟨c7, f7⟩, ⟨c8, f8⟩⟩ := zero9 e1
  obtain ⟨⟨c0', f0'⟩, ⟨c1', f1'⟩, ⟨c2', f2'⟩, ⟨c3', f3'⟩, ⟨c4', f4'⟩, ⟨c5', f5'⟩, ⟨c6', f6'⟩, ⟨c7', f7'⟩, ⟨c8', f8'⟩⟩ := zero9 e2
  clear e1 e2 hbq
  go_wp2_with fail
  rw [setCell_id c0, setCell_id c1, setCell_id c2, setCell_id c3, setCell_id c4, setCell_id c5, setCell_id c6, setCell_id c7, setCell_id c8]
  refine bodyPost_ret (v := .tuple #[nilC, .int .i64 8]) ?_ rfl ⟨rfl, hbA⟩
  simp [results, Tryz.results18, go_sem, c0, c1, c2, c3, c4, c5, c6, c7, c8, nilC]
set_option maxRecDepth 100000 in
set_option maxHeartbeats 800000 in
theorem andQ (R b o n c : Nat) (w : World) (h : Rd w R) (hs : Sg w b o n c) :
    Calls Tryz.prog 19 #[.pointer (some ⟨R, 0, none⟩)] w fun e w' => e = .returned (.tuple #[nilC, .int .i64 8]) ∧ Below w.heap.size w w' := by
  have HC := Lib.hid (fun wX hX hY => severalNotQ R b o n c wX hX hY)
  go_enter Tryz.func19, Tryz.ntmps19
  have hbZ : Below w.heap.size w (w.alloc (.cells zc 36)) := (Below.refl _ _).alloc (Nat.le_refl _) _
  have e0 : (w.alloc (.cells zc 36)).heap[w.heap.size]? = some (.cells zc 36 (0, 0)) := heap_alloc_new w _
  have hsz : w.heap.size < (w.alloc (.cells zc 36)).heap.size := by simp
  have hRd := h.keep hbZ
  have hSg := hs.below hbZ
  generalize hW : w.alloc (.cells zc 36) = w1 at e0 hbZ hsz hRd hSg
  unfold zc at hW
  clear h hs
  have HR := Lib.hid hRd
  have HS := Lib.hid hSg
  clear hRd hSg
  go_wp2_with fail
  refine (HC.out _ HR.out HS.out).mono ?_
  rintro e w2 ⟨rfl, hb2⟩
  have hbA := hbZ.trans (hb2.mono (Nat.le_of_lt hsz))
  have e1 := (hb2.block w.heap.size hsz).trans e0
  obtain ⟨⟨c0, f0⟩, ⟨c1, f1⟩, ⟨c2, f2⟩, ⟨c3, f3⟩, ⟨c4, f4⟩, ⟨c5, f5⟩, ⟨c6, f6⟩, ⟨c7, f7⟩, ⟨c8, f8⟩⟩ := zero9 e1
  clear hb2 e1 e0
  unfold nilC
  go_wp2_with fail
  rw [setCell_id c0, setCell_id c1, setCell_id c2, setCell_id c3, setCell_id c4, setCell_id c5, setCell_id c6, setCell_id c7, setCell_id c8]
  refine bodyPost_ret (v := .tuple #[nilC, .int .i64 8]) ?_ rfl ⟨rfl, hbA⟩
  simp [results, Tryz.results19, go_sem, c0, c1, c2, c3, c4, c5, c6, c7, c8, nilC]
set_option maxRecDepth 100000 in
set_option maxHeartbeats 800000 in
theorem severalAndQ (R b o n c : Nat) (w : World) (h : Rd w R) (hs : Sg w b o n c) :
    Calls Tryz.prog 18 #[.pointer (some ⟨R, 0, none⟩), .int .i64 2, .func (.func 19) #[.pointer (some ⟨R, 0, none⟩)] #[]] w fun e w' => e = .returned (.tuple #[nilC, .int .i64 8]) ∧ Below w.heap.size w w' := by
  have HC := Lib.hid (fun wX hX hY => andQ R b o n c wX hX hY)
  go_enter Tryz.func18, Tryz.ntmps18
  have hbZ : Below w.heap.size w (w.alloc (.cells zc 36)) := (Below.refl _ _).alloc (Nat.le_refl _) _
  have e0 : (w.alloc (.cells zc 36)).heap[w.heap.size]? = some (.cells zc 36 (0, 0)) := heap_alloc_new w _
  have hsz : w.heap.size < (w.alloc (.cells zc 36)).heap.size := by simp
  have hRd := h.keep hbZ
  have hSg := hs.below hbZ
  generalize hW : w.alloc (.cells zc 36) = w1 at e0 hbZ hsz hRd hSg
  unfold zc at hW
  clear h hs
  have HR := Lib.hid hRd
  have HS := Lib.hid hSg
  clear hRd hSg
  go_wp2_with fail
  refine (HC.out _ HR.out HS.out).mono ?_
  rintro e w2 ⟨rfl, hb2⟩
  have hbA := hbZ.trans (hb2.mono (Nat.le_of_lt hsz))
  have hs2 : w.heap.size < w2.heap.size := Nat.lt_of_lt_of_le hsz hb2.size
  have e1 := (hb2.block w.heap.size hsz).trans e0
  clear hb2 e0
  unfold nilC
  go_wp2_with fail
  go_quiet (fail)
  have hbq : Below w2.heap.size w2 ((w2.alloc (.cells #[.int .i64 0, .string ⟨#[]⟩, .int .i64 0, .bool false, .int .i64 0, .string ⟨#[]⟩, .slice none 0 0, .slice none 0 0, .slice none 0 0] 36)).drewN nq) := below_drewN ((Below.refl _ _).alloc (Nat.le_refl _) _) nq
  have e2 : ((w2.alloc (.cells #[.int .i64 0, .string ⟨#[]⟩, .int .i64 0, .bool false, .int .i64 0, .string ⟨#[]⟩, .slice none 0 0, .slice none 0 0, .slice none 0 0] 36)).drewN nq).heap[w2.heap.size]? = some (.cells #[.int .i64 0, .string ⟨#[]⟩, .int .i64 0, .bool false, .int .i64 0, .string ⟨#[]⟩, .slice none 0 0, .slice none 0 0, .slice none 0 0] 36 (0, 0)) := heap_alloc_new w2 _
  have e1 := (hbq.block w.heap.size hs2).trans e1
  have hbA := hbA.trans (hbq.mono hbA.size)
  generalize (w2.alloc (.cells #[.int .i64 0, .string ⟨#[]⟩, .int .i64 0, .bool false, .int .i64 0, .string ⟨#[]⟩, .slice none 0 0, .slice none 0 0, .slice none 0 0] 36)).drewN nq = w3 at hbq e2 e1 hbA ⊢
  obtain ⟨⟨c0, f0⟩, ⟨c1, f1⟩, ⟨c2, f2⟩, ⟨c3, f3⟩, ⟨c4, f4⟩, ⟨c5, f5⟩, ⟨c6, f6⟩, ⟨c7, f7⟩, ⟨c8, f8⟩⟩ := zero9 e1
  obtain ⟨⟨c0', f0'⟩, ⟨c1', f1'⟩, ⟨c2', f2'⟩, ⟨c3', f3'⟩, ⟨c4', f4'⟩, ⟨c5', f5'⟩, ⟨c6', f6'⟩, ⟨c7', f7'⟩, ⟨c8', f8'⟩⟩ := zero9 e2
  clear e1 e2 hbq
  go_wp2_with fail
  rw [setCell_id c0, setCell_id c1, setCell_id c2, setCell_id c3, setCell_id c4, setCell_id c5, setCell_id c6, setCell_id c7, setCell_id c8]
  refine bodyPost_ret (v := .tuple #[nilC, .int .i64 8]) ?_ rfl ⟨rfl, hbA⟩
  simp [results, Tryz.results18, go_sem, c0, c1, c2, c3, c4, c5, c6, c7, c8, nilC]
set_option maxRecDepth 100000 in
set_option maxHeartbeats 800000 in
theorem orQ (R b o n c : Nat) (w : World) (h : Rd w R) (hs : Sg w b o n c) :
    Calls Tryz.prog 10 #[.pointer (some ⟨R, 0, none⟩)] w fun e w' => e = .returned (.tuple #[nilC, .int .i64 8]) ∧ Below w.heap.size w w' := by
  have HC := Lib.hid (fun wX hX hY => severalAndQ R b o n c wX hX hY)
  go_enter Tryz.func10, Tryz.ntmps10
  have hbZ : Below w.heap.size w (w.alloc (.cells zc 36)) := (Below.refl _ _).alloc (Nat.le_refl _) _
  have e0 : (w.alloc (.cells zc 36)).heap[w.heap.size]? = some (.cells zc 36 (0, 0)) := heap_alloc_new w _
  have hsz : w.heap.size < (w.alloc (.cells zc 36)).heap.size := by simp
  have hRd := h.keep hbZ
  have hSg := hs.below hbZ
  generalize hW : w.alloc (.cells zc 36) = w1 at e0 hbZ hsz hRd hSg
  unfold zc at hW
  clear h hs
  have HR := Lib.hid hRd
  have HS := Lib.hid hSg
  clear hRd hSg
  go_wp2_with fail
  refine (HC.out _ HR.out HS.out).mono ?_
  rintro e w2 ⟨rfl, hb2⟩
  have hbA := hbZ.trans (hb2.mono (Nat.le_of_lt hsz))
  have e1 := (hb2.block w.heap.size hsz).trans e0
  obtain ⟨⟨c0, f0⟩, ⟨c1, f1⟩, ⟨c2, f2⟩, ⟨c3, f3⟩, ⟨c4, f4⟩, ⟨c5, f5⟩, ⟨c6, f6⟩, ⟨c7, f7⟩, ⟨c8, f8⟩⟩ := zero9 e1
  clear hb2 e1 e0
  unfold nilC
  go_wp2_with fail
  rw [setCell_id c0, setCell_id c1, setCell_id c2, setCell_id c3, setCell_id c4, setCell_id c5, setCell_id c6, setCell_id c7, setCell_id c8]
  refine bodyPost_ret (v := .tuple #[nilC, .int .i64 8]) ?_ rfl ⟨rfl, hbA⟩
  simp [results, Tryz.results10, go_sem, c0, c1, c2, c3, c4, c5, c6, c7, c8, nilC]
set_option maxRecDepth 100000 in
set_option maxHeartbeats 800000 in
theorem wholeQ (R b o n c : Nat) (w : World) (h : Rd w R) (hs : Sg w b o n c) :
    Calls Tryz.prog 7 #[.pointer (some ⟨R, 0, none⟩)] w fun e w' => e = .returned (.tuple #[nilC, .int .i64 8]) ∧ Below w.heap.size w w' := by
  have HC := Lib.hid (And.intro (fun wX (hX : Rd wX R) => readQ R wX hX) (fun wX hX hY => orQ R b o n c wX hX hY))
  go_enter Tryz.func7, Tryz.ntmps7
  have hbZ : Below w.heap.size w (w.alloc (.cells zc 36)) := (Below.refl _ _).alloc (Nat.le_refl _) _
  have e0 : (w.alloc (.cells zc 36)).heap[w.heap.size]? = some (.cells zc 36 (0, 0)) := heap_alloc_new w _
  have hsz : w.heap.size < (w.alloc (.cells zc 36)).heap.size := by simp
  have hRd := h.keep hbZ
  have hSg := hs.below hbZ
  generalize hW : w.alloc (.cells zc 36) = w1 at e0 hbZ hsz hRd hSg
  unfold zc at hW
  clear h hs
  have HR := Lib.hid hRd
  have HS := Lib.hid hSg
  clear hRd hSg
  go_wp2_with fail
  refine (HC.out.1 _ HR.out).mono ?_
  rintro e w0 ⟨rfl, hb0⟩
  have hbZ := hbZ.trans (hb0.mono (Nat.le_of_lt hsz))
  have e0 := (hb0.block w.heap.size hsz).trans e0
  have HR2 := Lib.hid (HR.out.keep hb0)
  have HS2 := Lib.hid (HS.out.below hb0)
  have hsz : w.heap.size < w0.heap.size := Nat.lt_of_lt_of_le hsz hb0.size
  clear hb0 HR HS
  go_wp2_with fail
  refine (HC.out.2 _ HR2.out HS2.out).mono ?_
  rintro e w2 ⟨rfl, hb2⟩
  have hbA := hbZ.trans (hb2.mono (Nat.le_of_lt hsz))
  have hs2 : w.heap.size < w2.heap.size := Nat.lt_of_lt_of_le hsz hb2.size
  have e1 := (hb2.block w.heap.size hsz).trans e0
  clear hb2 e0
  unfold nilC
  have hbq : Below w2.heap.size w2 (w2.alloc (.cells #[.int .i64 0, .string ⟨#[]⟩, .int .i64 0, .bool false, .int .i64 0, .string ⟨#[]⟩, .slice none 0 0, .slice none 0 0, .slice none 0 0] 36)) := (Below.refl _ _).alloc (Nat.le_refl _) _
  have e2 : (w2.alloc (.cells #[.int .i64 0, .string ⟨#[]⟩, .int .i64 0, .bool false, .int .i64 0, .string ⟨#[]⟩, .slice none 0 0, .slice none 0 0, .slice none 0 0] 36)).heap[w2.heap.size]? = some (.cells #[.int .i64 0, .string ⟨#[]⟩, .int .i64 0, .bool false, .int .i64 0, .string ⟨#[]⟩, .slice none 0 0, .slice none 0 0, .slice none 0 0] 36 (0, 0)) := heap_alloc_new w2 _
  have e1 := (hbq.block w.heap.size hs2).trans e1
  have hbA := hbA.trans (hbq.mono hbA.size)
  generalize hW3 : w2.alloc (.cells #[.int .i64 0, .string ⟨#[]⟩, .int .i64 0, .bool false, .int .i64 0, .string ⟨#[]⟩, .slice none 0 0, .slice none 0 0, .slice none 0 0] 36) = w3 at hbq e2 e1 hbA
  obtain ⟨⟨c0, f0⟩, ⟨c1, f1⟩, ⟨c2, f2⟩, ⟨c3, f3⟩, ⟨c4, f4⟩, ⟨c5, f5⟩, ⟨c6, f6⟩, ⟨c7, f7⟩, ⟨c8, f8⟩⟩ := zero9 e1
  obtain ⟨⟨c0', f0'⟩, ⟨c1', f1'⟩, ⟨c2', f2'⟩, ⟨c3', f3'⟩, ⟨c4', f4'⟩, ⟨c5', f5'⟩, ⟨c6', f6'⟩, ⟨c7', f7'⟩, ⟨c8', f8'⟩⟩ := zero9 e2
  clear e1 e2 hbq
  go_wp2_with fail
  rw [setCell_id c0', setCell_id c1', setCell_id c2', setCell_id c3', setCell_id c4', setCell_id c5', setCell_id c6', setCell_id c7', setCell_id c8']
  rw [setCell_id c0, setCell_id c1, setCell_id c2, setCell_id c3, setCell_id c4, setCell_id c5, setCell_id c6, setCell_id c7, setCell_id c8]
  refine bodyPost_ret (v := .tuple #[nilC, .int .i64 8]) ?_ rfl ⟨rfl, hbA⟩
  simp [results, Tryz.results7, go_sem, c0, c1, c2, c3, c4, c5, c6, c7, c8, nilC]
set_option maxRecDepth 100000 in
set_option maxHeartbeats 1000000 in
theorem readCondQ (b o n c : Nat) (w : World) (hs : Sg w b o n c) :
    Calls Tryz.prog 6 #[.string ⟨#[]⟩] w fun e w' => e = .returned (.tuple #[nilC, .int .i64 0, .int .i64 8]) ∧ Below w.heap.size w w' := by
  have HC := Lib.hid (fun R wX hX hY => wholeQ R b o n c wX hX hY)
  go_enter Tryz.func6, Tryz.ntmps6
  have hbZ : Below w.heap.size w ((w.alloc (.cells #[.int .i64 0, .string ⟨#[]⟩, .int .i64 0, .bool false, .int .i64 0, .string ⟨#[]⟩, .slice none 0 0, .slice none 0 0, .slice none 0 0] 36)).alloc (.cells #[.string ⟨#[]⟩, .int .i64 0, .int .i64 0, .string ⟨#[]⟩] 41)) := ((Below.refl _ _).alloc (Nat.le_refl _) _).alloc (by simp) _
  have e0 : ((w.alloc (.cells #[.int .i64 0, .string ⟨#[]⟩, .int .i64 0, .bool false, .int .i64 0, .string ⟨#[]⟩, .slice none 0 0, .slice none 0 0, .slice none 0 0] 36)).alloc (.cells #[.string ⟨#[]⟩, .int .i64 0, .int .i64 0, .string ⟨#[]⟩] 41)).heap[w.heap.size]? = some (.cells zc 36 (0, 0)) := (Below.heap_alloc _ _ _ (by simp)).trans (heap_alloc_new w _)
  have e9 : ((w.alloc (.cells #[.int .i64 0, .string ⟨#[]⟩, .int .i64 0, .bool false, .int .i64 0, .string ⟨#[]⟩, .slice none 0 0, .slice none 0 0, .slice none 0 0] 36)).alloc (.cells #[.string ⟨#[]⟩, .int .i64 0, .int .i64 0, .string ⟨#[]⟩] 41)).heap[w.heap.size + 1]? = some (.cells #[.string ⟨#[]⟩, .int .i64 0, .int .i64 0, .string ⟨#[]⟩] 41 (0, 0)) := by
    have h := heap_alloc_new (w.alloc (.cells #[.int .i64 0, .string ⟨#[]⟩, .int .i64 0, .bool false, .int .i64 0, .string ⟨#[]⟩, .slice none 0 0, .slice none 0 0, .slice none 0 0] 36)) (.cells #[.string ⟨#[]⟩, .int .i64 0, .int .i64 0, .string ⟨#[]⟩] 41)
    rwa [show (w.alloc (.cells #[.int .i64 0, .string ⟨#[]⟩, .int .i64 0, .bool false, .int .i64 0, .string ⟨#[]⟩, .slice none 0 0, .slice none 0 0, .slice none 0 0] 36)).heap.size = w.heap.size + 1 by simp] at h
  have hsz : w.heap.size + 1 < ((w.alloc (.cells #[.int .i64 0, .string ⟨#[]⟩, .int .i64 0, .bool false, .int .i64 0, .string ⟨#[]⟩, .slice none 0 0, .slice none 0 0, .slice none 0 0] 36)).alloc (.cells #[.string ⟨#[]⟩, .int .i64 0, .int .i64 0, .string ⟨#[]⟩] 41)).heap.size := by simp
  go_wp2_with fail
  generalize (w.alloc (.cells #[.int .i64 0, .string ⟨#[]⟩, .int .i64 0, .bool false, .int .i64 0, .string ⟨#[]⟩, .slice none 0 0, .slice none 0 0, .slice none 0 0] 36)).alloc (.cells #[.string ⟨#[]⟩, .int .i64 0, .int .i64 0, .string ⟨#[]⟩] 41) = w1 at hbZ e0 e9 hsz ⊢
  have hRd : Rd w1 (w.heap.size + 1) := ⟨hsz, by rw [cell_of_row _ _ _ _ _ _ e9]; rfl, by rw [cell_of_row _ _ _ _ _ _ e9]; rfl, by rw [cell_of_row _ _ _ _ _ _ e9]; rfl, by rw [cell_of_row _ _ _ _ _ _ e9]; rfl, frozen_of_row _ _ 1 _ _ e9, frozen_of_row _ _ 2 _ _ e9, frozen_of_row _ _ 3 _ _ e9⟩
  refine (HC.out _ _ hRd (hs.below hbZ)).mono ?_
  rintro e w2 ⟨rfl, hb2⟩
  have hs2 : w.heap.size + 1 < w2.heap.size := Nat.lt_of_lt_of_le hsz hb2.size
  have hRd2 := hRd.keep hb2
  have hbA := hbZ.trans (hb2.mono (by omega))
  have e1 := (hb2.block w.heap.size (by omega)).trans e0
  clear hb2 hRd e0 e9 hbZ hsz
  unfold nilC
  have hbq : Below w2.heap.size w2 (w2.alloc (.cells #[.int .i64 0, .string ⟨#[]⟩, .int .i64 0, .bool false, .int .i64 0, .string ⟨#[]⟩, .slice none 0 0, .slice none 0 0, .slice none 0 0] 36)) := (Below.refl _ _).alloc (Nat.le_refl _) _
  have hRd3 := hRd2.keep hbq
  have e1 := (hbq.block w.heap.size (by omega)).trans e1
  have hbA := hbA.trans (hbq.mono hbA.size)
  go_wp2_with fail
  generalize w2.alloc (.cells #[.int .i64 0, .string ⟨#[]⟩, .int .i64 0, .bool false, .int .i64 0, .string ⟨#[]⟩, .slice none 0 0, .slice none 0 0, .slice none 0 0] 36) = w3 at hbq e1 hbA hRd3 ⊢
  obtain ⟨hlt, k0, k1, k2, k3, -, -, -⟩ := hRd3
  obtain ⟨⟨c0, f0⟩, ⟨c1, f1⟩, ⟨c2, f2⟩, ⟨c3, f3⟩, ⟨c4, f4⟩, ⟨c5, f5⟩, ⟨c6, f6⟩, ⟨c7, f7⟩, ⟨c8, f8⟩⟩ := zero9 e1
  clear hbq hRd2
  go_region
  go_wp2_with fail
  rw [setCell_id c0, setCell_id c1, setCell_id c2, setCell_id c3, setCell_id c4, setCell_id c5, setCell_id c6, setCell_id c7, setCell_id c8]
  refine bodyPost_ret (v := .tuple #[nilC, .int .i64 0, .int .i64 8]) ?_ rfl ⟨rfl, hbA.drew⟩
  simp [results, Tryz.results6, go_sem, c0, c1, c2, c3, c4, c5, c6, c7, c8, nilC]
set_option maxRecDepth 100000 in
set_option maxHeartbeats 400000 in
theorem awakeList_any (b o n c : Nat) (w : World) (hs : Sg w b o n c) : Calls Tryz.prog 4 #[] w fun e w' => e = .returned (.bool true) ∧ Below w.heap.size w w' := by
  have HC := Lib.hid (readCondQ b o n c w hs)
  go_enter Tryz.func4, Tryz.ntmps4
  go_wp2_with fail
  refine HC.out.mono ?_
  rintro e w1 ⟨rfl, hb1⟩
  unfold nilC
  go_wp2_with fail
  go_ret
  exact ⟨rfl, hb1.alloc hb1.size _⟩
end Go.Proofs.YtkkimcefjelnbaaGreatDoor.LAw
