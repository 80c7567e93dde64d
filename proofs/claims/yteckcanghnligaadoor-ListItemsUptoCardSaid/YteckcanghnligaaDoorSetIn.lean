/- DERIVED. What the reference's settled returns: the value in which markup and facts are strings, its items in new rows. Condition: at most 2^40 values. -/
import Derived.Test.YteckcanghnligaaDoorItemChk
import Derived.Test.YteckcanghnligaaDoorValP
import Derived.BigQuiet
import Derived.Deep.RegionHeld3
import Derived.Deep.AppendLies
import Derived.Deep.MidRow
import Derived.Deep.RegionLaw
import Derived.OneCell
namespace Go.Proofs.YteckcanghnligaaDoor
set_option linter.unusedVariables false
open Go.RowKit
/-- Blocks of the argument, and new ones. -/
def PB (B0 lo hi : Nat) (b : Nat) : Prop := b < B0 ∨ (lo ≤ b ∧ b < hi)
def SetPost (B0 : Nat) (k : Int) (bo : Bool) (i : Int) (t : ByteArray) (n1 : Nat) (A2 : Option Addr) (n2 c2 : Nat) (items : Vals) (w : World) (e : Ending) (w' : World) : Prop :=
  ∃ (A' : Option Addr) (c' : Nat), e = .returned (.agg #[.int .i64 (sk k), .bool bo, .int .i64 i, .string t, .slice A' n1 c', .slice A2 n2 c2]) ∧ n1 ≤ c' ∧ c' ≤ maxLen ∧
    items.settle.AtP w' (PB B0 w.heap.size w'.heap.size) A' n1 ∧ Below w.heap.size w w'
theorem valInfo6 : (Tryd.prog.info? 25).map (fun i => (i.zero, i.size, i.bytes)) = some (some (Value.agg #[.int .i64 0, .bool false, .int .i64 0, .string ⟨#[]⟩, .slice none 0 0, .slice none 0 0]), 6, 88) := by kernel_rfl
/-- What stands at the start of a round: j items have been turned; u is their row. -/
structure SetIn (w : World) (B0 : Nat) (q : Int) (bo : Bool) (i : Int) (t : ByteArray) (A2 : Option Addr) (n2 c2 : Nat) (items : Vals) (j : Nat) (u : Value) (xs : List Value) (wr : World) : Prop where
  old : Below w.heap.size w wr
  size : w.heap.size + 3 ≤ wr.heap.size
  out : wr.heap[w.heap.size + 2]? = some (.cells #[.int .i64 q, .bool bo, .int .i64 i, .string t, u, .slice A2 n2 c2] 25 (0, 0))
  res : wr.heap[w.heap.size + 1]? = some (.cells #[.int .i64 0, .bool false, .int .i64 0, .string ⟨#[]⟩, .slice none 0 0, .slice none 0 0] 25 (0, 0))
  row : wr.ownsRow (w.heap.size + 3) 25 6 u j xs
  els : ∀ m, m < j → ∃ g, u.ownBlock = some g ∧ ElV wr (fun b => b < B0 ∨ (w.heap.size + 3 ≤ b ∧ b < wr.heap.size ∧ b ≠ g)) g (m * 6) (items.settle.drop m)
theorem own_keep {w w' : World} {base sz n : Nat} {e : TypeId} {v : Value} {xs : List Value} (h : w.ownsRow base e sz v n xs) (hk : ∀ k, v.ownBlock = some k → w'.heap[k]? = w.heap[k]?) : w'.ownsRow base e sz v n xs :=
  ⟨h.1, h.2.imp id (fun ⟨g, cap, cur, hv, hb, hg, r⟩ => ⟨g, cap, cur, hv, hb, (hk g (by rw [hv]; rfl)).trans hg, r⟩)⟩
theorem setIn_start (w : World) (B0 : Nat) (v0 : Obj) (q : Int) (bo : Bool) (i : Int) (t : ByteArray) (A2 : Option Addr) (n2 c2 : Nat) (items : Vals) :
    SetIn w B0 q bo i t A2 n2 c2 items 0 (.slice none 0 0) [] (((w.alloc v0).alloc (.cells #[.int .i64 0, .bool false, .int .i64 0, .string ⟨#[]⟩, .slice none 0 0, .slice none 0 0] 25)).alloc (.cells #[.int .i64 q, .bool bo, .int .i64 i, .string t, .slice none 0 0, .slice A2 n2 c2] 25)) := by
  have h1 : ((w.alloc v0).alloc (.cells #[.int .i64 0, .bool false, .int .i64 0, .string ⟨#[]⟩, .slice none 0 0, .slice none 0 0] 25)).heap.size = w.heap.size + 2 := by simp
  have h2 : (w.alloc v0).heap.size = w.heap.size + 1 := by simp
  refine ⟨(((Below.refl _ _).alloc (Nat.le_refl _) _).alloc (by simp) _).alloc (by simp; omega) _, by simp, ?_, ?_, World.ownsRow_nil _ _ _ _, fun m hm => absurd hm (by omega)⟩
  · have := heap_alloc_new ((w.alloc v0).alloc (.cells #[.int .i64 0, .bool false, .int .i64 0, .string ⟨#[]⟩, .slice none 0 0, .slice none 0 0] 25)) (.cells #[.int .i64 q, .bool bo, .int .i64 i, .string t, .slice none 0 0, .slice A2 n2 c2] 25)
    rw [h1] at this
    exact this
  · rw [Below.heap_alloc _ _ _ (by rw [h1]; omega)]
    have := heap_alloc_new (w.alloc v0) (.cells #[.int .i64 0, .bool false, .int .i64 0, .string ⟨#[]⟩, .slice none 0 0, .slice none 0 0] 25)
    rw [h2] at this
    exact this
/-- One more element: what the call, the append and the store leave. -/
theorem SetIn.step {w wr wX w2 wA w3 : World} {B0 : Nat} {q : Int} {bo : Bool} {i : Int} {t : ByteArray} {A2 : Option Addr} {n2 c2 : Nat} {items : Vals} {j : Nat} {u : Value} {xs : List Value}
    (h : SetIn w B0 q bo i t A2 n2 c2 items j u xs wr) (hB : B0 ≤ w.heap.size)
    {k1 : Int} {bo1 : Bool} {i1 : Int} {t1 : ByteArray} {it : Vals} {ks : List ByteArray} {r : Vals} (e1 : items.drop j = .cons k1 bo1 i1 t1 it ks r)
    {A' : Option Addr} {m1 c' : Nat} {B2 : Option Addr} {m2 d2 : Nat} (hwX : Below wr.heap.size wr wX) (hw2 : Below wX.heap.size wX w2) (hwX1 : wr.heap.size + 1 ≤ wX.heap.size)
    (g1 : m1 ≤ c') (g2 : c' ≤ maxLen) (g3 : it.settle.AtP w2 (PB B0 wX.heap.size w2.heap.size) A' m1) (gn : m2 ≤ d2 ∧ d2 ≤ maxLen) (gk : (Lit.int .i64 (sk k1)).wf = true) (gi : (Lit.int .i64 i1).wf = true) (gt : t1.size ≤ maxLen) (gks : KeysAt w B0 ks B2 m2)
    (hwA : ∀ b, b < w2.heap.size → wA.heap[b]? = w2.heap[b]?) (hsA : w2.heap.size ≤ wA.heap.size) (hAB : Below w2.heap.size w2 wA)
    {gg cap : Nat} (hown : w3.ownsRow (w.heap.size + 3) 25 6 (.slice (some ⟨gg, 0, none⟩) (j + 1) cap) (j + 1) (xs ++ vCells (sk k1) bo1 i1 t1 A' m1 c' B2 m2 d2)) (hgrow : wA.grownBy w3 u.ownBlock) (hat : u.ownBlock = some gg ∨ gg = wA.heap.size) (hlt : gg < w3.heap.size) :
    SetIn w B0 q bo i t A2 n2 c2 items (j + 1) (.slice (some ⟨gg, 0, none⟩) (j + 1) cap) (xs ++ vCells (sk k1) bo1 i1 t1 A' m1 c' B2 m2 d2) (w3.setCell ⟨w.heap.size + 2, 4, none⟩ (.slice (some ⟨gg, 0, none⟩) (j + 1) cap)) := by
  have hsz := h.size
  have hX2 := hw2.size
  have hX1 := hwX.size
  have hG := hgrow.size
  -- the row's block
  have hub : ∀ g, u.ownBlock = some g → w.heap.size + 3 ≤ g ∧ g < wr.heap.size := fun g hg => h.row.lt g hg
  have hgg : w.heap.size + 3 ≤ gg := by
    rcases hat with e | e
    · exact (hub gg e).1
    · omega
  -- blocks that are as they were
  have keepA : ∀ b, b < wr.heap.size → wA.heap[b]? = wr.heap[b]? := fun b hb =>
    (hwA b (by omega)).trans ((hw2.block b (by omega)).trans (hwX.block b hb))
  have keep3 : ∀ b, b < wA.heap.size → u.ownBlock ≠ some b → w3.heap[b]? = wA.heap[b]? := fun b hb hne => hgrow.block b hb (fun e => hne e.symm)
  have keepS : ∀ b, b ≠ w.heap.size + 2 → (w3.setCell ⟨w.heap.size + 2, 4, none⟩ (.slice (some ⟨gg, 0, none⟩) (j + 1) cap)).heap[b]? = w3.heap[b]? := fun b hb => Below.heap_setCell _ _ _ _ hb
  have hne2 : u.ownBlock ≠ some (w.heap.size + 2) := fun e => by have := (hub _ e).1; omega
  have hne1 : u.ownBlock ≠ some (w.heap.size + 1) := fun e => by have := (hub _ e).1; omega
  have hout : w3.heap[w.heap.size + 2]? = some (.cells #[.int .i64 q, .bool bo, .int .i64 i, .string t, u, .slice A2 n2 c2] 25 (0, 0)) :=
    (keep3 _ (by omega) hne2).trans ((keepA _ (by omega)).trans h.out)
  have hrow' := ownsRow_setCell_other hown (a := ⟨w.heap.size + 2, 4, none⟩) (by simp [Value.ownBlock]; omega) (.slice (some ⟨gg, 0, none⟩) (j + 1) cap)
  have hxl : xs.length = j * 6 := h.row.1
  refine ⟨?_, ?_, block_set' hout, ?_, hrow', fun m hm => ?_⟩
  · have hb3 : Below w.heap.size w w3 := (h.old.trans ((hwX.mono (by omega)).trans ((hw2.mono (by omega)).trans (hAB.mono (by omega))))).grown hgrow (by omega) (fun g hg => by have := (hub g hg).1; omega)
    exact below_set hb3 (by omega) 4 _
  · simp; omega
  · exact (keepS _ (by omega)).trans ((keep3 _ (by omega) hne1).trans ((keepA _ (by omega)).trans h.res))
  · refine ⟨gg, rfl, ?_⟩
    have hcell : ∀ idx, idx < (j + 1) * 6 → (w3.setCell ⟨w.heap.size + 2, 4, none⟩ (.slice (some ⟨gg, 0, none⟩) (j + 1) cap)).cell? ⟨gg, idx, none⟩ = (xs ++ vCells (sk k1) bo1 i1 t1 A' m1 c' B2 m2 d2)[idx]? := fun idx hidx => hrow'.cellAt idx hidx
    have hsz' : (w3.setCell ⟨w.heap.size + 2, 4, none⟩ (.slice (some ⟨gg, 0, none⟩) (j + 1) cap)).heap.size = w3.heap.size := by simp
    by_cases hmj : m < j
    · obtain ⟨g, hg, hel⟩ := h.els m hmj
      obtain ⟨hub1, hub2⟩ := hub g hg
      have hu : ∃ cap0, u = .slice (some ⟨g, 0, none⟩) j cap0 := by
        rcases h.row.2 with ⟨e, _⟩ | ⟨g', cap0, cur, e, _⟩
        · rw [e] at hg; simp [Value.ownBlock] at hg
        · rw [e] at hg
          simp [Value.ownBlock] at hg
          subst hg
          exact ⟨cap0, e⟩
      obtain ⟨cap0, hu⟩ := hu
      have hrow0 := h.row
      rw [hu] at hrow0
      have hkeep : ∀ b, (b < B0 ∨ (w.heap.size + 3 ≤ b ∧ b < wr.heap.size ∧ b ≠ g)) → (w3.setCell ⟨w.heap.size + 2, 4, none⟩ (.slice (some ⟨gg, 0, none⟩) (j + 1) cap)).heap[b]? = wr.heap[b]? := fun b hb => by
        have hbl : b < wr.heap.size := by omega
        have hbg : u.ownBlock ≠ some b := fun e => by rw [hg] at e; have := Option.some.inj e; rcases hb with hb | hb <;> omega
        exact (keepS b (by omega)).trans ((keep3 b (by omega) hbg).trans (keepA b hbl))
      cases hd : items.settle.drop m with
      | nil => rw [hd] at hel; exact hel.elim
      | cons k0 b0 i0 t0 it0 ks0 r0 =>
        rw [hd] at hel
        obtain ⟨A1', n1', c1', A2', n2', c2', hr, hvp⟩ := hel
        refine ⟨A1', n1', c1', A2', n2', c2', fun jj v hv => ?_, hvp.keep (fun x hx => World.cell?_of_block (hkeep x.block hx)) (fun b hb => ?_)⟩
        · have hj6 : jj < 6 := by simpa [vCells] using (List.getElem?_eq_some_iff.1 hv).1
          rw [hcell _ (by omega), List.getElem?_append_left (by omega), ← hrow0.cellAt (m * 6 + jj) (by omega)]
          exact hr jj v hv
        · rcases hb with hb | ⟨b1, b2, b3⟩
          · exact .inl hb
          · refine .inr ⟨b1, by omega, ?_⟩
            rcases hat with e | e
            · rw [hg] at e; have := Option.some.inj e; omega
            · omega
    · obtain rfl : m = j := by omega
      have hd : items.settle.drop m = .cons (sk k1) bo1 i1 t1 it.settle ks r.settle := by rw [← Vals.settle_drop, e1]; rfl
      rw [hd]
      have hkeep : ∀ b, PB B0 wX.heap.size w2.heap.size b → (w3.setCell ⟨w.heap.size + 2, 4, none⟩ (.slice (some ⟨gg, 0, none⟩) (m + 1) cap)).heap[b]? = w2.heap[b]? := fun b hb => by
        unfold PB at hb
        have hbl : b < w2.heap.size := by omega
        have hbg : u.ownBlock ≠ some b := fun e => by have := hub b e; omega
        exact (keepS b (by omega)).trans ((keep3 b (by omega) hbg).trans (hwA b hbl))
      have hpq : ∀ b, PB B0 wX.heap.size w2.heap.size b → b < B0 ∨ (w.heap.size + 3 ≤ b ∧ b < (w3.setCell ⟨w.heap.size + 2, 4, none⟩ (.slice (some ⟨gg, 0, none⟩) (m + 1) cap)).heap.size ∧ b ≠ gg) := fun b hb => by
        unfold PB at hb
        rw [hsz']
        rcases hb with hb | hb
        · exact .inl hb
        · refine .inr ⟨by omega, by omega, ?_⟩
          rcases hat with e | e
          · have := hub gg e; omega
          · omega
      have hks0 : KeysP w (· < B0) ks B2 m2 := gks
      refine ⟨A', m1, c', B2, m2, d2, fun jj v hv => ?_, ⟨g1, g2, gn.1, gn.2, gk, gi, gt, g3.keep (fun x hx => World.cell?_of_block (hkeep x.block hx)) hpq, hks0.keep (fun x hx => ?_) (fun b hb => .inl hb)⟩⟩
      · have hj6 : jj < 6 := by simpa [vCells] using (List.getElem?_eq_some_iff.1 hv).1
        rw [hcell _ (by omega), List.getElem?_append_right (by omega), show m * 6 + jj - xs.length = jj by omega]
        exact hv
      · have hxb : x.block < w.heap.size := by show x.block < _; have h0 : x.block < B0 := hx; omega
        refine World.cell?_of_block ((hkeep x.block (.inl hx)).trans ((hw2.block _ (by omega)).trans ((hwX.block _ (by omega)).trans (h.old.block _ hxb))))
end Go.Proofs.YteckcanghnligaaDoor
