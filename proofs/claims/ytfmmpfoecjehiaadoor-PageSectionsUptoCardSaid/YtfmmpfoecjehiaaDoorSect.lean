/- DERIVED. What startTag of package page and Told of the reference return; entries of a table of contents in memory. Conditions: the library's variables MaxLen and of powers of ten are as the program's text lays them. -/
import Derived.Test.YtfmmpfoecjehiaaDoorShelf
import Derived.Test.YtfmmpfoecjehiaaDoorSectPlain
import Derived.WalkKit
import Derived.WalkSpells
import Derived.WalkSmall
import Derived.WalkLawsBesides
import Derived.Lib.Hide
import Derived.Below
import Derived.ProofKit
import Derived.BigRegion
import Derived.BigGuardPart
import Derived.Deep.RegionHeld3
import Derived.Lib.LaidTab
import Derived.Lib.AppendIntMem
namespace Go.Proofs.YtfmmpfoecjehiaaDoor
set_option linter.unusedVariables false
open Go.RowKit
/-- The library's variable MaxLen holds a number; its table of powers of ten is as laid. -/
def VarsP (w : World) : Prop := (0 < w.heap.size ∧ ∃ m : Int, w.cell? ⟨0, 0, none⟩ = some (.int .i64 m)) ∧ Lib.TabBelow Tryd.prog w.heap.size w "internal/strconv.uint64pow10" .u64 Lib.pow10Tab
theorem VarsP.below {w w' : World} (h : VarsP w) (hb : Below w.heap.size w w') : VarsP w' :=
  ⟨⟨Nat.lt_of_lt_of_le h.1.1 hb.size, let ⟨m, hm⟩ := h.1.2; ⟨m, (hb.cell (p := ⟨0, 0, none⟩) h.1.1).trans hm⟩⟩, Lib.tabBelow_of_tabIs (h.2 w' hb)⟩
theorem itoaT_any (x : Int) (w : World) (hv : VarsP w) (h0 : -9223372036854775808 ≤ x) (h1 : x ≤ 9223372036854775807) :
    Calls Tryd.prog 28 #[.int .i64 x] w fun e w' => e = .returned (.string (itoaT x)) ∧ Below w.heap.size w w' := by
  refine (Tryd.strconv_Itoa x h0 h1 w hv.2.here).mono ?_
  rintro e w' ⟨rfl, k, os, rfl⟩
  exact ⟨rfl, Lib.below_grow _ _ (Nat.le_refl _) _ _⟩
theorem told_any (x : Int) (w : World) (hv : VarsP w) (h0 : -9223372036854775808 ≤ x) (h1 : x ≤ 9223372036854775807) :
    Calls Tryd.prog 11 #[.int .i64 x] w fun e w' => e = .returned (.string (itoaT x)) ∧ Below w.heap.size w w' := by
  have H := Lib.hid (itoaT_any x w hv h0 h1)
  clear hv
  go_enter Tryd.func11, Tryd.ntmps11
  go_wp2_with fail
  refine H.out.mono ?_
  rintro e w1 ⟨rfl, hb1⟩
  go_wp2_with fail
  go_ret
  exact ⟨rfl, hb1⟩
/-- A box of an entry. -/
def ebox (lv : Int) (id t : ByteArray) : Obj := .cells #[.int .i64 lv, .string id, .string t] 40
structure EBox (w : World) (b : Nat) (lv : Int) (id t : ByteArray) : Prop where
  x0 : w.cell? ⟨b, 0, none⟩ = some (.int .i64 lv)
  x1 : w.cell? ⟨b, 1, none⟩ = some (.string id)
  x2 : w.cell? ⟨b, 2, none⟩ = some (.string t)
theorem EBox.new (w : World) (lv : Int) (id t : ByteArray) : EBox (w.alloc (ebox lv id t)) w.heap.size lv id t := by
  have h := heap_alloc_new w (ebox lv id t)
  have c : ∀ j, (w.alloc (ebox lv id t)).cell? ⟨w.heap.size, j, none⟩ = (#[.int .i64 lv, .string id, .string t] : Array Value)[j]? := fun j => cell_of_row _ _ _ _ _ _ h
  exact ⟨c 0, c 1, c 2⟩
theorem EBox.keep {w w' : World} {B b : Nat} {lv : Int} {id t : ByteArray} (h : EBox w b lv id t) (hb : Below B w w') (hB : b < B) : EBox w' b lv id t :=
  ⟨(hb.cell hB).trans h.x0, (hb.cell hB).trans h.x1, (hb.cell hB).trans h.x2⟩
set_option maxRecDepth 100000 in
set_option maxHeartbeats 1000000 in
theorem startTag_any (lv : Int) (id t : ByteArray) (w : World) (hv : VarsP w) (h0 : -9223372036854775808 ≤ lv) (h1 : lv ≤ 9223372036854775807) (hid : id.size ≤ 1048576) :
    Calls Tryd.prog 45 #[.agg #[.int .i64 lv, .string id, .string t]] w fun e w' => e = .returned (.string (tagB lv id)) ∧ Below w.heap.size w w' := by
  obtain ⟨W1, hW1⟩ : ∃ W1, w.alloc (ebox lv id t) = W1 := ⟨_, rfl⟩
  have hb01 : Below w.heap.size w W1 := by rw [← hW1]; exact (Below.refl _ _).alloc (Nat.le_refl _) _
  have hs1 : W1.heap.size = w.heap.size + 1 := by rw [← hW1]; simp
  have hbx : EBox W1 w.heap.size lv id t := by rw [← hW1]; exact EBox.new w lv id t
  have hcall : ∀ wX, Below (w.heap.size + 1) W1 wX → Calls Tryd.prog 28 #[.int .i64 lv] wX fun e w' => e = .returned (.string (itoaT lv)) ∧ Below (w.heap.size + 1) W1 w' ∧ w'.cell? ⟨w.heap.size, 0, none⟩ = some (.int .i64 lv) ∧ w'.cell? ⟨w.heap.size, 1, none⟩ = some (.string id) := fun wX hX =>
    (itoaT_any lv wX (hv.below (hb01.trans (hX.mono (by omega)))) h0 h1).mono fun e w' h => by
      have hb := hX.trans (h.2.mono (by have := hX.size; omega))
      have hk := hbx.keep hb (by omega)
      exact ⟨h.1, hb, hk.x0, hk.x1⟩
  have HI := Lib.hid hcall; clear hcall
  have hz := itoaT_size lv h0 h1
  obtain ⟨it, hit⟩ : ∃ it, itoaT lv = it := ⟨_, rfl⟩
  have HR := Lib.hid (show tagB lv id = (((ByteArray.mk #[60, 104] ++ it) ++ ByteArray.mk #[32, 105, 100, 61, 34]) ++ id) ++ ByteArray.mk #[34, 62] by rw [← hit]; rfl)
  rw [hit] at HI hz
  clear hit hv
  have p1 := fun wx => run_string_add_sum (P := Tryd.prog) (w := wx) (ByteArray.mk #[60, 104]) it (by show 2 + it.size ≤ _; omega)
  have s1 : (ByteArray.mk #[60, 104] ++ it).size = 2 + it.size := ByteArray.size_append
  generalize (ByteArray.mk #[60, 104] ++ it) = t1 at p1 s1 HR
  have p2 := fun wx => run_string_add_sum (P := Tryd.prog) (w := wx) t1 (ByteArray.mk #[32, 105, 100, 61, 34]) (by show t1.size + 5 ≤ _; omega)
  have s2 : (t1 ++ ByteArray.mk #[32, 105, 100, 61, 34]).size = t1.size + 5 := ByteArray.size_append
  generalize (t1 ++ ByteArray.mk #[32, 105, 100, 61, 34]) = t2 at p2 s2 HR
  have p3 := fun wx => run_string_add_sum (P := Tryd.prog) (w := wx) t2 id (by omega)
  have s3 : (t2 ++ id).size = t2.size + id.size := ByteArray.size_append
  generalize (t2 ++ id) = t3 at p3 s3 HR
  have p4 := fun wx => run_string_add_sum (P := Tryd.prog) (w := wx) t3 (ByteArray.mk #[34, 62]) (by show t3.size + 2 ≤ _; omega)
  have HB := Lib.hid hb01
  have HS := Lib.hid hs1
  obtain ⟨y0, y1, _⟩ := hbx
  unfold ebox at hW1
  clear s1 s2 s3 hz hs1 hb01
  go_enter Tryd.func45, Tryd.ntmps45
  go_wp2_with fail
  go_region_held3 (fun w' => Below (w.heap.size + 1) W1 w' ∧ w'.cell? ⟨w.heap.size, 0, none⟩ = some (.int .i64 lv) ∧ w'.cell? ⟨w.heap.size, 1, none⟩ = some (.string id))
    (first | exact ⟨(Below.refl _ _).drew, y0, y1⟩ | exact ⟨hb3, z0, z1⟩)
    (first | (go_at_call 28; with_reducible refine Calls.mono (HI.out _ (by first | exact (Below.refl _ _).drew | exact hb3)) ?_; rintro e w3 ⟨rfl, hb3, z0, z1⟩))
  all_goals
    go_wp2_with fail
    go_ret
    exact ⟨by rw [HR.out]; rfl, HB.out.trans (hb3.mono (by omega))⟩
end Go.Proofs.YtfmmpfoecjehiaaDoor
