/- DERIVED. What conf's Routes and the reference's RoutesOf return: the routes, or the error. Condition: at most 2^34 values, 2^40 letters; the library's table of powers of ten is as laid. -/
import Derived.Test.YtohkdckllmmfhaaGreatDoorRoutesWalk
import Derived.Test.YtohkdckllmmfhaaGreatDoorRoutesR
import Derived.Test.YtohkdckllmmfhaaGreatDoorGet
namespace Go.Proofs.YtohkdckllmmfhaaGreatDoor
open Go.RowKit
set_option linter.unusedVariables false
/-- The routes and the error. -/
def rtsL (s : Sv) : List ByteArray := if confErr leS s.k s.bo s.i s.t s.items s.keys ≠ 0 then [] else routesV s.k s.items s.keys ⟨#[]⟩
def RtsPost (l : List ByteArray) (x : Int) (w : World) (e : Ending) (w' : World) : Prop :=
  ∃ A c, e = .returned (.tuple #[.slice A l.length c, .int .i64 x]) ∧ w'.ownsRow w.heap.size 9 1 (.slice A l.length c) l.length (strs l) ∧ Below w.heap.size w w'
theorem row_mono {w : World} {base base' : Nat} {e : TypeId} {size : Nat} {v : Value} {n : Nat} {xs : List Value} (h : w.ownsRow base e size v n xs) (hb : base' ≤ base) : w.ownsRow base' e size v n xs :=
  ⟨h.1, h.2.imp id fun ⟨g, cap, cur, h1, h2, h3⟩ => ⟨g, cap, cur, h1, Nat.le_trans hb h2, h3⟩⟩
set_option maxRecDepth 100000 in
set_option maxHeartbeats 1600000 in
theorem routesTop_any (s : Sv) (w : World) (hs : s.okB w w.heap.size) (hbig : s.items.nodes ≤ 1048576) (hl : s.items.letters ≤ 1099511627776) (hn2 : s.n2 ≤ 1099511627776) (hp : PowT w.heap.size w) :
    Calls Tryz.prog 10 #[s.val] w (RtsPost (rtsL s) (confErr leS s.k s.bo s.i s.t s.items s.keys) w) := by
  have HC := Lib.hid (fun wX (hX : Behind s w wX) => confCheck_any s.k s.bo s.i s.t s.A1 s.n1 s.c1 s.A2 s.n2 s.c2 s.items s.keys wX (hs.keep hX.old) (by omega) hl hn2)
  have HR := Lib.hid (fun (hf : Fine s.row 1099511627776) wX (hX : Behind s w wX) => routes_any s wX (hs.keep hX.old) hf (by omega) (fun w' h' => hp w' (hX.old.trans (h'.mono hX.old.size))))
  have HI := Lib.hid (Behind.start s w)
  obtain ⟨y0, y1, y2, y3, y4, y5⟩ := HI.out.cells
  obtain ⟨rl, hrl⟩ : ∃ rl, rtsL s = rl := ⟨_, rfl⟩
  rw [hrl]
  unfold rtsL at hrl
  have hconf := fun h => conf_one (s := s) h
  generalize confErr leS s.k s.bo s.i s.t s.items s.keys = ce at HC hrl hconf ⊢
  clear hs hbig hl hn2 hp
  unfold Sv.val
  by_cases hce : ce = 0
  · have k1 : (ce == 0) = true := by simpa using hce
    have k2 : (ce != 0) = false := by simpa using hce
    rw [if_neg (by simpa using hce)] at hrl
    have HFI := Lib.hid (hconf hce)
    have HRT := Lib.hid (HR.out HFI.out)
    rw [hrl] at HRT
    clear hconf HR hrl
    subst hce
    unfold Sv.box at y0 y1 y2 y3 y4 y5
    unfold Sv.val at HRT
    go_enter Tryz.func10, Tryz.ntmps10
    go_wp2_with fail
    refine (HC.out _ HI.out).mono ?_
    rintro e w1 ⟨rfl, hb1⟩
    have HI1 := Lib.hid (HI.out.call hb1)
    clear y0 y1 y2 y3 y4 y5 hb1
    obtain ⟨y0, y1, y2, y3, y4, y5⟩ := HI1.out.cells
    go_wp2_with fail
    refine (HRT.out _ HI1.out).mono ?_
    rintro e w2 ⟨v, rfl, hrow, hb2⟩
    obtain ⟨A, c, rfl⟩ := slice_of_own hrow
    have HROW := Lib.hid (show w2.ownsRow w.heap.size 9 1 (.slice A rl.length c) rl.length (strs rl) from row_mono hrow HI1.out.old.size)
    have HI2 := Lib.hid (HI1.out.call hb2)
    clear hrow hb2 y0 y1 y2 y3 y4 y5
    go_wp2_with fail
    go_ret2
    exact ⟨A, c, rfl, HROW.out, HI2.out.old⟩
  · have k1 : (ce == 0) = false := by simpa using hce
    have k2 : (ce != 0) = true := by simpa using hce
    rw [if_pos hce] at hrl
    subst hrl
    clear hconf HR hce
    unfold Sv.box at y0 y1 y2 y3 y4 y5
    go_enter Tryz.func10, Tryz.ntmps10
    go_wp2_with fail
    refine (HC.out _ HI.out).mono ?_
    rintro e w1 ⟨rfl, hb1⟩
    have HI1 := Lib.hid (HI.out.call hb1)
    clear y0 y1 y2 y3 y4 y5 hb1
    go_wp2_with fail
    go_ret2
    exact ⟨none, 0, rfl, World.ownsRow_nil _ _ _ _, HI1.out.old⟩
set_option maxRecDepth 100000 in
set_option maxHeartbeats 1600000 in
theorem routesOf_any (s : Sv) (w : World) (hs : s.okB w w.heap.size) (hbig : s.items.nodes ≤ 1048576) (hl : s.items.letters ≤ 1099511627776) (hn2 : s.n2 ≤ 1099511627776) (hp : PowT w.heap.size w) :
    Calls Tryz.prog 11 #[s.val] w (RtsPost (rtsL s) (confErr leS s.k s.bo s.i s.t s.items s.keys) w) := by
  have HC := Lib.hid (fun wX (hX : Behind s w wX) => confCheckR_any s.k s.bo s.i s.t s.A1 s.n1 s.c1 s.A2 s.n2 s.c2 s.items s.keys wX (hs.keep hX.old) (by omega) hl hn2)
  have HR := Lib.hid (fun (hf : Fine s.row 1099511627776) wX (hX : Behind s w wX) => routesR_any wX.heap.size (s.items.nodes + 1) s ⟨#[]⟩ wX (by omega) (by omega) (Nat.le_refl _) ⟨hs.keep hX.old, hf, by show 0 + _ ≤ _; omega⟩ (fun w' h' => hp w' (hX.old.trans (h'.mono hX.old.size))))
  have HI := Lib.hid (Behind.start s w)
  obtain ⟨y0, y1, y2, y3, y4, y5⟩ := HI.out.cells
  obtain ⟨rl, hrl⟩ : ∃ rl, rtsL s = rl := ⟨_, rfl⟩
  rw [hrl]
  unfold rtsL at hrl
  have hconf := fun h => conf_one (s := s) h
  generalize confErr leS s.k s.bo s.i s.t s.items s.keys = ce at HC hrl hconf ⊢
  clear hs hbig hl hn2 hp
  unfold Sv.val
  by_cases hce : ce = 0
  · have k1 : (ce == 0) = true := by simpa using hce
    have k2 : (ce != 0) = false := by simpa using hce
    rw [if_neg (by simpa using hce)] at hrl
    have HFI := Lib.hid (hconf hce)
    have HRT := Lib.hid (HR.out HFI.out)
    rw [hrl] at HRT
    clear hconf HR hrl
    subst hce
    unfold Sv.box at y0 y1 y2 y3 y4 y5
    unfold Sv.val at HRT
    go_enter Tryz.func11, Tryz.ntmps11
    go_wp2_with fail
    refine (HC.out _ HI.out).mono ?_
    rintro e w1 ⟨rfl, hb1⟩
    have HI1 := Lib.hid (HI.out.call hb1)
    clear y0 y1 y2 y3 y4 y5 hb1
    obtain ⟨y0, y1, y2, y3, y4, y5⟩ := HI1.out.cells
    go_wp2_with fail
    refine (HRT.out _ HI1.out).mono ?_
    rintro e w2 ⟨g, c, rfl, hrow, hb2⟩
    have HROW := Lib.hid (show w2.ownsRow w.heap.size 9 1 (.slice (some ⟨g, 0, none⟩) rl.length c) rl.length (strs rl) from row_mono hrow HI1.out.old.size)
    have HI2 := Lib.hid (HI1.out.call hb2)
    clear hrow hb2 y0 y1 y2 y3 y4 y5
    go_wp2_with fail
    go_ret2
    exact ⟨_, c, rfl, HROW.out, HI2.out.old⟩
  · have k1 : (ce == 0) = false := by simpa using hce
    have k2 : (ce != 0) = true := by simpa using hce
    rw [if_pos hce] at hrl
    subst hrl
    clear hconf HR hce
    unfold Sv.box at y0 y1 y2 y3 y4 y5
    go_enter Tryz.func11, Tryz.ntmps11
    go_wp2_with fail
    refine (HC.out _ HI.out).mono ?_
    rintro e w1 ⟨rfl, hb1⟩
    have HI1 := Lib.hid (HI.out.call hb1)
    clear y0 y1 y2 y3 y4 y5 hb1
    go_wp2_with fail
    go_ret2
    exact ⟨none, 0, rfl, World.ownsRow_nil _ _ _ _, HI1.out.old⟩
end Go.Proofs.YtohkdckllmmfhaaGreatDoor
