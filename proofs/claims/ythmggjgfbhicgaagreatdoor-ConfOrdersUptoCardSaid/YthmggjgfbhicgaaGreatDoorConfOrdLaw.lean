/- DERIVED. What ConfOrders returns for three values in memory: true. Condition: at most 2^36 values and letters each. -/
import Derived.Test.YthmggjgfbhicgaaGreatDoorConfCmpP
import Derived.Test.YthmggjgfbhicgaaGreatDoorConfOrd
import Derived.Test.YthmggjgfbhicgaaGreatDoorAwake
import Derived.Deep.RegionHeld3
namespace Go.Proofs.YthmggjgfbhicgaaGreatDoor
set_option linter.unusedVariables false
open Go.RowKit
theorem retD {a b : Bool} (h : a = b) : Ending.returned (.bool b) = .returned (.bool a) := by rw [h]
theorem lexC_range {a b : Int} (h : -1 ≤ a ∧ a ≤ 1) (h' : -1 ≤ b ∧ b ≤ 1) : -1 ≤ lexC a b ∧ lexC a b ≤ 1 := by
  unfold lexC
  split <;> omega
theorem cT_range (a b : Bool) : -1 ≤ cT a b ∧ cT a b ≤ 1 := by cases a <;> cases b <;> decide
theorem cF_range (k : Int) (bo : Bool) (i : Int) (t : ByteArray) (ks : List ByteArray) (k' : Int) (bo' : Bool) (i' : Int) (t' : ByteArray) (ks' : List ByteArray) :
    -1 ≤ cF k bo i t ks k' bo' i' t' ks' ∧ cF k bo i t ks k' bo' i' t' ks' ≤ 1 := by
  rw [cF_lex]
  exact lexC_range (compareInt_range _ _) (lexC_range (cT_range _ _) (lexC_range (compareInt_range _ _) (lexC_range (compareBytes_range _ _) (cK_range _ _))))
theorem Vals.cmp_range : ∀ a b : Vals, -1 ≤ a.cmp b ∧ a.cmp b ≤ 1
  | .nil, .nil => by simp [Vals.cmp]
  | .nil, .cons .. => by simp [Vals.cmp]
  | .cons .., .nil => by simp [Vals.cmp]
  | .cons k bo i t it ks r, .cons k' bo' i' t' it' ks' r' => by
    rw [Vals.cmp_cons]
    exact lexC_range (cF_range ..) (lexC_range (Vals.cmp_range it it') (Vals.cmp_range r r'))
theorem cOne_range (k : Int) (bo : Bool) (i : Int) (t : ByteArray) (it : Vals) (ks : List ByteArray) (k' : Int) (bo' : Bool) (i' : Int) (t' : ByteArray) (it' : Vals) (ks' : List ByteArray) :
    -1 ≤ cOne k bo i t it ks k' bo' i' t' it' ks' ∧ cOne k bo i t it ks k' bo' i' t' it' ks' ≤ 1 := lexC_range (cF_range ..) (Vals.cmp_range it it')
/-- What a value in memory is. -/
structure One where
  k : Int
  bo : Bool
  i : Int
  t : ByteArray
  A1 : Option Addr
  n1 : Nat
  c1 : Nat
  A2 : Option Addr
  n2 : Nat
  c2 : Nat
  items : Vals
  keys : List ByteArray
def One.val (a : One) : Value := .agg #[.int .i64 a.k, .bool a.bo, .int .i64 a.i, .string a.t, .slice a.A1 a.n1 a.c1, .slice a.A2 a.n2 a.c2]
def One.box (a : One) : Obj := .cells #[.int .i64 a.k, .bool a.bo, .int .i64 a.i, .string a.t, .slice a.A1 a.n1 a.c1, .slice a.A2 a.n2 a.c2] 25
structure One.ok (a : One) (w : World) : Prop where
  v : VOk w w.heap.size a.k a.i a.t a.A1 a.n1 a.c1 a.A2 a.n2 a.c2 a.items a.keys
  m : a.items.nodes + 1 ≤ 68719476736
  l : a.t.size + kz a.keys + a.items.letters ≤ 68719476736
theorem One.ok.keep {a : One} {w w' : World} (h : a.ok w) (hb : Below w.heap.size w w') : a.ok w' := ⟨(h.v.below hb).more hb.size, h.m, h.l⟩
/-- The order of two values. -/
def One.c (a b : One) : Int := cOne a.k a.bo a.i a.t a.items a.keys b.k b.bo b.i b.t b.items b.keys
theorem One.compare (a b : One) (w : World) (ha : a.ok w) (hb : b.ok w) : Calls Tryz.prog 6 #[a.val, b.val] w fun e w' => e = .returned (.int .i64 (a.c b)) ∧ Below w.heap.size w w' :=
  compare_any a.k a.bo a.i a.t a.A1 a.n1 a.c1 a.A2 a.n2 a.c2 a.items a.keys b.k b.bo b.i b.t b.A1 b.n1 b.c1 b.A2 b.n2 b.c2 b.items b.keys w ha.v hb.v ha.m ha.l hb.m hb.l
theorem flat18 {p0 p1 p2 p3 p4 p5 p6 p7 p8 p9 p10 p11 p12 p13 p14 p15 p16 p17 : Prop} (h : (p0 ∧ p1 ∧ p2 ∧ p3 ∧ p4 ∧ p5) ∧ (p6 ∧ p7 ∧ p8 ∧ p9 ∧ p10 ∧ p11) ∧ p12 ∧ p13 ∧ p14 ∧ p15 ∧ p16 ∧ p17) : p0 ∧ p1 ∧ p2 ∧ p3 ∧ p4 ∧ p5 ∧ p6 ∧ p7 ∧ p8 ∧ p9 ∧ p10 ∧ p11 ∧ p12 ∧ p13 ∧ p14 ∧ p15 ∧ p16 ∧ p17 :=
  let ⟨⟨a0, a1, a2, a3, a4, a5⟩, ⟨a6, a7, a8, a9, a10, a11⟩, r⟩ := h
  ⟨a0, a1, a2, a3, a4, a5, a6, a7, a8, a9, a10, a11, r⟩
/-- The cells of a block. -/
theorem cells6 {w : World} {N : Nat} {a : One} (h : w.heap[N]? = some a.box) : w.cell? ⟨N, 0, none⟩ = some (.int .i64 a.k) ∧ w.cell? ⟨N, 1, none⟩ = some (.bool a.bo) ∧ w.cell? ⟨N, 2, none⟩ = some (.int .i64 a.i) ∧
    w.cell? ⟨N, 3, none⟩ = some (.string a.t) ∧ w.cell? ⟨N, 4, none⟩ = some (.slice a.A1 a.n1 a.c1) ∧ w.cell? ⟨N, 5, none⟩ = some (.slice a.A2 a.n2 a.c2) := by
  have c : ∀ j, w.cell? ⟨N, j, none⟩ = (#[.int .i64 a.k, .bool a.bo, .int .i64 a.i, .string a.t, .slice a.A1 a.n1 a.c1, .slice a.A2 a.n2 a.c2] : Array Value)[j]? := fun j => cell_of_row _ _ _ _ _ _ h
  exact ⟨c 0, c 1, c 2, c 3, c 4, c 5⟩
theorem box3 {w w1 : World} {a b c : One} (hb : Below (w.heap.size + 3) (((w.alloc a.box).alloc b.box).alloc c.box) w1) :
    w1.heap[w.heap.size]? = some a.box ∧ w1.heap[w.heap.size + 1]? = some b.box ∧ w1.heap[w.heap.size + 2]? = some c.box := by
  refine ⟨(hb.block _ (by omega)).trans ?_, (hb.block _ (by omega)).trans ?_, (hb.block _ (by omega)).trans ?_⟩
  · exact (Below.heap_alloc _ _ _ (by simp; omega)).trans ((Below.heap_alloc _ _ _ (by simp)).trans (heap_alloc_new w _))
  · refine (Below.heap_alloc _ _ _ (by simp)).trans ?_
    have h := heap_alloc_new (w.alloc a.box) b.box
    rwa [show (w.alloc a.box).heap.size = w.heap.size + 1 by simp] at h
  · have h := heap_alloc_new ((w.alloc a.box).alloc b.box) c.box
    rwa [show ((w.alloc a.box).alloc b.box).heap.size = w.heap.size + 2 by simp] at h
theorem below_box3 {w wr : World} {o o' o2 : Obj} (hb : Below (w.heap.size + 3) (((w.alloc o).alloc o').alloc o2) wr) : Below w.heap.size w wr ∧ w.heap.size + 3 ≤ wr.heap.size := by
  have hs := hb.size
  simp at hs
  exact ⟨((((Below.refl _ w).alloc (Nat.le_refl _) o).alloc (by simp) o').alloc (by simp; omega) o2).trans (hb.mono (by omega)), hs⟩
set_option maxRecDepth 100000 in
set_option maxHeartbeats 4000000 in
theorem confOrders_any (a b c : One) (w : World) (ha : a.ok w) (hb : b.ok w) (hc : c.ok w) :
    Calls Tryz.prog 3 #[a.val, b.val, c.val] w fun e w' => e = .returned (.bool true) ∧ Below w.heap.size w w' := by
  have HB := fun (w1 : World) (h : Below (w.heap.size + 3) (((w.alloc a.box).alloc b.box).alloc c.box) w1) => below_box3 h
  have HX := fun (w1 : World) (h : Below (w.heap.size + 3) (((w.alloc a.box).alloc b.box).alloc c.box) w1) => (fun g : _ ∧ _ ∧ _ => (⟨cells6 g.1, cells6 g.2.1, cells6 g.2.2⟩ : _ ∧ _ ∧ _)) (box3 h)
  have hcmp : ∀ (p q : One), p.ok w → q.ok w → ∀ wX, Below (w.heap.size + 3) (((w.alloc a.box).alloc b.box).alloc c.box) wX → Calls Tryz.prog 6 #[p.val, q.val] wX
      fun e w' => e = .returned (.int .i64 (p.c q)) ∧ Below (w.heap.size + 3) (((w.alloc a.box).alloc b.box).alloc c.box) w' := fun p q hp hq wX hX =>
    (One.compare p q wX (hp.keep (HB wX hX).1) (hq.keep (HB wX hX).1)).mono fun e w' h => ⟨h.1, hX.trans (h.2.mono (HB wX hX).2)⟩
  have hab := hcmp a b ha hb
  have hbc := hcmp b c hb hc
  have hac := hcmp a c ha hc
  have hba := hcmp b a hb ha
  have haa := hcmp a a ha ha
  have htr : Tr (a.c b) (b.c c) (a.c c) := cOne_Tr ..
  have hneg : b.c a = -(a.c b) := cOne_neg ..
  have hself : a.c a = 0 := cOne_self ..
  have hr : -1 ≤ a.c b ∧ a.c b ≤ 1 := cOne_range ..
  have hr2 : -1 ≤ b.c c ∧ b.c c ≤ 1 := cOne_range ..
  have hr3 : -1 ≤ a.c c ∧ a.c c ≤ 1 := cOne_range ..
  rw [hneg] at hba
  rw [hself] at haa
  generalize a.c b = x at hab hba htr hr
  generalize b.c c = y at hbc htr hr2
  generalize a.c c = z at hac htr hr3
  clear hneg hself hcmp ha hb hc
  obtain ⟨ka, boa, ia, ta, A1a, n1a, c1a, A2a, n2a, c2a, ita, ksa⟩ := a
  obtain ⟨kb, bob, ib, tb, A1b, n1b, c1b, A2b, n2b, c2b, itb, ksb⟩ := b
  obtain ⟨kc, boc, ic, tc, A1c, n1c, c1c, A2c, n2c, c2c, itc, ksc⟩ := c
  have hb0 := Below.refl (w.heap.size + 3) (((w.alloc (One.box ⟨ka, boa, ia, ta, A1a, n1a, c1a, A2a, n2a, c2a, ita, ksa⟩)).alloc (One.box ⟨kb, bob, ib, tb, A1b, n1b, c1b, A2b, n2b, c2b, itb, ksb⟩)).alloc (One.box ⟨kc, boc, ic, tc, A1c, n1c, c1c, A2c, n2c, c2c, itc, ksc⟩))
  generalize hW3 : ((w.alloc (One.box ⟨ka, boa, ia, ta, A1a, n1a, c1a, A2a, n2a, c2a, ita, ksa⟩)).alloc (One.box ⟨kb, bob, ib, tb, A1b, n1b, c1b, A2b, n2b, c2b, itb, ksb⟩)).alloc (One.box ⟨kc, boc, ic, tc, A1c, n1c, c1c, A2c, n2c, c2c, itc, ksc⟩) = W3 at HB HX hb0 hab hbc hac hba haa
  simp only [One.box] at hW3
  simp only [One.val] at hab hbc hac hba haa
  simp only at HX
  have HAB := Lib.hid (fun wX (hX : Below (w.heap.size + 3) W3 wX) => (hab wX hX).mono (fun e w' h => (⟨h.1, h.2, flat18 (HX _ h.2)⟩ : _ ∧ Below (w.heap.size + 3) W3 w' ∧ _)))
  have HBC := Lib.hid (fun wX (hX : Below (w.heap.size + 3) W3 wX) => (hbc wX hX).mono (fun e w' h => (⟨h.1, h.2, flat18 (HX _ h.2)⟩ : _ ∧ Below (w.heap.size + 3) W3 w' ∧ _)))
  have HAC := Lib.hid (fun wX (hX : Below (w.heap.size + 3) W3 wX) => (hac wX hX).mono (fun e w' h => (⟨h.1, h.2, flat18 (HX _ h.2)⟩ : _ ∧ Below (w.heap.size + 3) W3 w' ∧ _)))
  have HBA := Lib.hid (fun wX (hX : Below (w.heap.size + 3) W3 wX) => (hba wX hX).mono (fun e w' h => (⟨h.1, h.2, flat18 (HX _ h.2)⟩ : _ ∧ Below (w.heap.size + 3) W3 w' ∧ _)))
  have HAA := Lib.hid (fun wX (hX : Below (w.heap.size + 3) W3 wX) => (haa wX hX).mono (fun e w' h => (⟨h.1, h.2, flat18 (HX _ h.2)⟩ : _ ∧ Below (w.heap.size + 3) W3 w' ∧ _)))
  have HXX := Lib.hid (fun w1 h => flat18 (HX w1 h))
  have HBW := Lib.hid HB
  clear HB HX hab hbc hac hba haa
  have HTR := Lib.hid htr; clear htr
  have HR := Lib.hid (And.intro hr (And.intro hr2 hr3)); clear hr hr2 hr3
  have HAW := Lib.hid (fun wX => awakeConf_any wX)
  simp only [One.val]
  go_enter Tryz.func3, Tryz.ntmps3
  go_wp2_with fail
  refine (HAW.out _).mono ?_
  rintro e w1 ⟨rfl, hb1⟩
  have hb1' := hb0.trans (hb1.mono (HBW.out _ hb0).2)
  clear hb1
  obtain ⟨y0, y1, y2, y3, y4, y5, y6, y7, y8, y9, y10, y11, y12, y13, y14, y15, y16, y17⟩ := HXX.out _ hb1'
  go_wp2_with fail
  go_region_held3 (fun w' => Below (w.heap.size + 3) W3 w' ∧ w'.cell? ⟨w.heap.size, 0, none⟩ = some (.int .i64 ka) ∧ w'.cell? ⟨w.heap.size, 1, none⟩ = some (.bool boa) ∧ w'.cell? ⟨w.heap.size, 2, none⟩ = some (.int .i64 ia) ∧ w'.cell? ⟨w.heap.size, 3, none⟩ = some (.string ta) ∧ w'.cell? ⟨w.heap.size, 4, none⟩ = some (.slice A1a n1a c1a) ∧ w'.cell? ⟨w.heap.size, 5, none⟩ = some (.slice A2a n2a c2a) ∧ w'.cell? ⟨w.heap.size + 1, 0, none⟩ = some (.int .i64 kb) ∧ w'.cell? ⟨w.heap.size + 1, 1, none⟩ = some (.bool bob) ∧ w'.cell? ⟨w.heap.size + 1, 2, none⟩ = some (.int .i64 ib) ∧ w'.cell? ⟨w.heap.size + 1, 3, none⟩ = some (.string tb) ∧ w'.cell? ⟨w.heap.size + 1, 4, none⟩ = some (.slice A1b n1b c1b) ∧ w'.cell? ⟨w.heap.size + 1, 5, none⟩ = some (.slice A2b n2b c2b) ∧ w'.cell? ⟨w.heap.size + 2, 0, none⟩ = some (.int .i64 kc) ∧ w'.cell? ⟨w.heap.size + 2, 1, none⟩ = some (.bool boc) ∧ w'.cell? ⟨w.heap.size + 2, 2, none⟩ = some (.int .i64 ic) ∧ w'.cell? ⟨w.heap.size + 2, 3, none⟩ = some (.string tc) ∧ w'.cell? ⟨w.heap.size + 2, 4, none⟩ = some (.slice A1c n1c c1c) ∧ w'.cell? ⟨w.heap.size + 2, 5, none⟩ = some (.slice A2c n2c c2c))
    (first
      | exact ⟨hb1'.drew, y0, y1, y2, y3, y4, y5, y6, y7, y8, y9, y10, y11, y12, y13, y14, y15, y16, y17⟩
      | exact ⟨hb2, z0, z1, z2, z3, z4, z5, z6, z7, z8, z9, z10, z11, z12, z13, z14, z15, z16, z17⟩)
    (first
      | (go_at_call 6; with_reducible refine Calls.mono (HAB.out _ (by first | exact hb1'.drew | exact hb2)) ?_; rintro e w2 ⟨rfl, hb2, z0, z1, z2, z3, z4, z5, z6, z7, z8, z9, z10, z11, z12, z13, z14, z15, z16, z17⟩)
      | (go_at_call 6; with_reducible refine Calls.mono (HBC.out _ (by first | exact hb1'.drew | exact hb2)) ?_; rintro e w2 ⟨rfl, hb2, z0, z1, z2, z3, z4, z5, z6, z7, z8, z9, z10, z11, z12, z13, z14, z15, z16, z17⟩)
      | (go_at_call 6; with_reducible refine Calls.mono (HAC.out _ (by first | exact hb1'.drew | exact hb2)) ?_; rintro e w2 ⟨rfl, hb2, z0, z1, z2, z3, z4, z5, z6, z7, z8, z9, z10, z11, z12, z13, z14, z15, z16, z17⟩))
  obtain ⟨⟨r1, r2⟩, ⟨r3, r4⟩, r5, r6⟩ := HR.out
  have hx : x = -1 ∨ x = 0 ∨ x = 1 := by omega
  have hy : y = -1 ∨ y = 0 ∨ y = 1 := by omega
  have hz : z = -1 ∨ z = 0 ∨ z = 1 := by omega
  clear r1 r2 r3 r4 r5 r6 HR
  rcases hx with rfl | rfl | rfl <;> rcases hy with rfl | rfl | rfl <;> rcases hz with rfl | rfl | rfl <;>
    first
    | (exfalso; obtain ⟨t1, t2, t3, t4, t5, t6⟩ := HTR.out; omega)
    | (go_wp2_with fail
       refine Calls.mono (HBA.out _ hb2) ?_
       rintro e w3 ⟨rfl, hb3, u0, u1, u2, u3, u4, u5, u6, u7, u8, u9, u10, u11, u12, u13, u14, u15, u16, u17⟩
       go_wp2_with fail
       refine Calls.mono (HAA.out _ hb3) ?_
       rintro e w4 ⟨rfl, hb4, -⟩
       go_wp2_with fail
       go_ret
       exact ⟨rfl, (HBW.out _ hb4).1⟩)
end Go.Proofs.YthmggjgfbhicgaaGreatDoor
