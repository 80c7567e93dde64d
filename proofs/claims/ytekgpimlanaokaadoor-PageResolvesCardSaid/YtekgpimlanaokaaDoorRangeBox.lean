/- DERIVED. A range over a function whose iterator keeps a state of its own in memory (a captured variable, memory that it makes between two rounds): what the iterator does by itself is a relation T, told by its contract; the caller's relation must stand it. No program. -/
import Derived.RangeFuncNested
import Derived.RangeFuncBound
import Derived.RangeFuncCalls
import Derived.RangeFuncLeaves
namespace Go.Proofs.YtekgpimlanaokaaDoor
set_option linter.unusedVariables false
open Go.RowKit
/-- An iterator's contract: what it does by itself is T; what it asks of a round that goes on is Kp; what may come behind what has come is Ok. -/
def SeqT {α : Type} (F : Fence) (n : Nat) (P : Program) (g : Nat) (lb : Array Value) (encs : α → Array Value) (T Kp : World → World → Prop) (S Sp : List α → Prop) (Ok : List α → α → Prop) (w : World) : Prop :=
  ∀ (l : Nat) (J Jx : List α → World → Prop) (W : World), Below w.heap.size w W → (∀ s A B, J s A → T A B → J s B) → (∀ s A B, Jx s A → T A B → Jx s B) →
    (∀ pre x W1, J pre W1 → Ok pre x → YieldAt F (n - 1) P l (encs x) W1 fun e W' =>
      (e = .returned (.bool true) ∧ J (pre ++ [x]) W' ∧ Kp W1 W') ∨ (e = .returned (.bool false) ∧ Jx (pre ++ [x]) W')) →
    J [] W → CallsIn F n P g (#[.func (.yield l) #[] #[]] ++ lb) W fun e W' => (∃ v, e = .returned v) ∧ ((∃ xs, S xs ∧ J xs W') ∨ (∃ pre, Sp pre ∧ Jx pre W'))
/-- The loop's record. -/
def recB (fn : FuncId) (tmps : Array Value) (ps : Array Tmp) (assign body : Code) (D : Nat) (st : LoopState) (pe : Option Code) : Loop :=
  { state := st, pending := pe, fn := fn, tmps := tmps, params := ps, assign := assign, body := body, defers := D }
/-- What the loop keeps of its own: the record and the block for the calls that were deferred. -/
def Book (W : World) (D : Nat) (r : Loop) : Prop := W.heap[D + 1]? = some (.loop r) ∧ W.heap[D]? = some (.deferred (some []))
theorem Book.lt {W : World} {D : Nat} {r : Loop} (h : Book W D r) : D + 1 < W.heap.size := (Array.getElem?_eq_some_iff.1 h.1).1
theorem Book.turn {W : World} {D : Nat} {r : Loop} (r' : Loop) (h : Book W D r) : Book (W.putObj (D + 1) (.loop r')) D r' := ⟨World.putObj_heap_same h.lt, (World.putObj_heap_other (by omega)).trans h.2⟩
theorem Book.others {W W' : World} {D : Nat} {r : Loop} (h : Book W D r) (hk : KeepsOthers W W') : Book W' D r := ⟨hk.same _ _ h.1 rfl, hk.same _ _ h.2 rfl⟩
theorem Book.aside {A B : World} {D : Nat} {r : Loop} (h : Book A D r) (h0 : ∀ k, k = D ∨ k = D + 1 → k < A.heap.size → B.heap[k]? = A.heap[k]?) : Book B D r :=
  ⟨(h0 _ (.inr rfl) h.lt).trans h.1, (h0 _ (.inl rfl) (by have := h.lt; omega)).trans h.2⟩
variable {F : Fence} {n : Nat} {P : Program}
theorem range_box {α : Type} {g : Operand} {ps : Array Tmp} {assign body : Code} {Q : Exit → Act → World → Prop} {a : Act} {w : World}
    (hro : F.round = none) (h1 : 1 ≤ n) {gf : Nat} {lb : Array Value} (hg : a.eval g = .func (.func gf) #[] lb) (hFg : F.fn gf) (eg : ∀ args w, (callFunc gf args).run P w = .ok (.enter gf args) w)
    {encs : α → Array Value} {T Kp : World → World → Prop} {S Sp : List α → Prop} {Ok : List α → α → Prop} (hseq : SeqT F (n - 1) P gf lb encs T Kp S Sp Ok w)
    (hT : ∀ A B k, T A B → k = w.heap.size ∨ k = w.heap.size + 1 → k < A.heap.size → B.heap[k]? = A.heap[k]?)
    (hKt : ∀ {A B C : World}, Kp A B → Kp B C → Kp A C) (hKb : ∀ (W : World) (l : Nat) (o o' : Obj), w.heap.size ≤ l → W.heap[l]? = some o → o.isCells = false → o.isWalk = false → Kp W (W.putObj l o'))
    (hps : ∀ x, (encs x).size = ps.size) (I : List α → World → Prop) (Ix : Code → List α → World → Prop) (hI : OwnFrom w.heap.size I) (hIx : ∀ c, OwnFrom w.heap.size (Ix c))
    (hIT : ∀ s A B, I s A → T A B → I s B) (hIxT : ∀ c s A B, Ix c s A → T A B → Ix c s B) (h0 : I [] w) (a₁ : α → Act)
    (hassign : ∀ (l : Nat) (x : α) (W : World) (K : Act → World → Prop), K (a₁ x) W →
      assign.wpIn (F.inRound l) (n - 1 - 1) P (Exit.then K (fun _ _ _ => False)) { tmps := (ps.zip (encs x)).foldl (fun t (p, v) => t.setIfInBounds p v) a.tmps, defers := [] } W)
    (hbody : ∀ (l : Nat) (pre : List α) (x : α) (W : World), I pre W → Ok pre x → body.wpIn (F.inRound l) (n - 1 - 1) P (ownPostK Kp I Ix (pre ++ [x]) W) (a₁ x) W)
    (hdone : ∀ (D : Nat) (xs : List α) (W : World), w.heap.size ≤ D → S xs → I xs W → W.heap[D]? = some (.deferred (some [])) → Q .normal { a with defers := { target := .collected D, args := #[] } :: a.defers } W)
    (hstop : ∀ (D : Nat) (c : Code) (pre : List α) (W : World), w.heap.size ≤ D → Sp pre → Ix c pre W → W.heap[D]? = some (.deferred (some [])) → c.wpIn F n P Q { a with defers := { target := .collected D, args := #[] } :: a.defers } W) :
    (Code.rangeFunc g ps assign body).wpIn F n P Q a w := by
  refine wpIn_rangeFunc ?_
  intro fn hfn
  rw [hro]
  obtain ⟨D, hD⟩ : ∃ D, w.heap.size = D := ⟨_, rfl⟩
  rw [hD] at hT hKb hI hIx hdone hstop
  obtain ⟨W1, hW1⟩ : ∃ W1, (w.alloc (.deferred (some []))).alloc (.loop (recB fn a.tmps ps assign body D .ready none)) = W1 := ⟨_, rfl⟩
  have hB1 : Book W1 D (recB fn a.tmps ps assign body D .ready none) := by
    rw [← hW1]
    constructor
    · have := World.alloc_heap_new (w.alloc (.deferred (some []))) (.loop (recB fn a.tmps ps assign body D .ready none))
      rwa [World.size_alloc, hD] at this
    · rw [← hD]
      exact (Below.heap_alloc _ _ _ (by simp)).trans (World.alloc_heap_new w _)
  have hb1 : Below w.heap.size w W1 := by rw [← hW1]; exact ((Below.refl _ w).alloc (Nat.le_refl _) _).alloc (by simp) _
  refine ⟨D + 1, [{ target := .collected D, args := #[] }], W1, { target := .fn (.func gf) lb, args := #[.func (.yield (D + 1)) #[] #[]] }, W1, gf, #[.func (.yield (D + 1)) #[] #[]] ++ lb, W1, ?_, ?_, ?_, ?_, fun _ => h1, ?_⟩
  · rw [← hW1, ← hD]; exact run_enterLoop_outer _ _ _ _ _
  · simp only [resolve, hg]
    simp [go_sem]
  · intro f' hf'
    simp [Target.leads] at hf'
    subst hf'
    exact hFg
  · simp [invoke, go_sem, eg]
  · refine (hseq (D + 1) (fun pre W => I pre W ∧ Book W D (recB fn a.tmps ps assign body D .ready none)) (fun pre W => ∃ c, Ix c pre W ∧ Book W D (recB fn a.tmps ps assign body D .done (some c))) W1 hb1
      (fun s A B h hAB => ⟨hIT s A B h.1 hAB, h.2.aside (fun k hk => hT A B k hAB hk)⟩)
      (fun s A B ⟨c, h, hb⟩ hAB => ⟨c, hIxT c s A B h hAB, hb.aside (fun k hk => hT A B k hAB hk)⟩) ?_ ⟨?_, hB1⟩).mono ?_
    · rintro pre x W ⟨hi, hbk⟩ hlen
      have hy := run_yield (P := P) (args := encs x) hbk.1 (hps x)
      refine ⟨fn, _, assign, body, hy, roundIn_of_wpIn hfn (hassign _ x W _ ⟨_, run_beginRound hbk.1 rfl, ?_⟩)⟩
      have hbk2 := hbk.turn { recB fn a.tmps ps assign body D .ready none with state := .busy }
      have hk2 : Kp W (W.putObj (D + 1) (.loop { recB fn a.tmps ps assign body D .ready none with state := .busy })) := hKb _ _ _ _ (by omega) hbk.1 rfl rfl
      refine wpIn_mono (hbody _ pre x _ (hI.putObj _ hi (by omega) hbk.1 rfl) hlen) ?_
      have out : ∀ (c : Code) (W3 : World), KeepsOthers (W.putObj (D + 1) (.loop { recB fn a.tmps ps assign body D .ready none with state := .busy })) W3 → Ix c (pre ++ [x]) W3 →
          ∃ v W4, (Instr.endRound (D + 1) (some c)).run P W3 = .ok v W4 ∧ v = .bool false ∧ ∃ c, Ix c (pre ++ [x]) W4 ∧ Book W4 D (recB fn a.tmps ps assign body D .done (some c)) := fun c W3 hk3 hi3 => by
        have hbk3 := hbk2.others hk3
        exact ⟨_, _, run_endRound (some c) hbk3.1, rfl, c, (hIx c).putObj _ hi3 (by omega) hbk3.1 rfl, hbk3.turn _⟩
      rintro e a3 W3 hp
      cases e with
      | normal =>
        obtain ⟨hk3, hkp3, hi3⟩ := hp
        have hbk3 := hbk2.others hk3
        exact ⟨_, _, run_endRound none hbk3.1, .inl ⟨rfl, ⟨hI.putObj _ hi3 (by omega) hbk3.1 rfl, hbk3.turn _⟩, hKt (hKt hk2 hkp3) (hKb _ _ _ _ (by omega) hbk3.1 rfl rfl)⟩⟩
      | ret =>
        obtain ⟨v, W4, h1, rfl, h2⟩ := out .ret W3 hp.1 hp.2
        exact ⟨_, _, h1, .inr ⟨rfl, h2⟩⟩
      | exit id =>
        obtain ⟨v, W4, h1, rfl, h2⟩ := out (.exit id) W3 hp.1 hp.2
        exact ⟨_, _, h1, .inr ⟨rfl, h2⟩⟩
      | goto t =>
        obtain ⟨v, W4, h1, rfl, h2⟩ := out (.goto t) W3 hp.1 hp.2
        exact ⟨_, _, h1, .inr ⟨rfl, h2⟩⟩
      | panic ch => exact hp.elim
      | outgrown => exact hp.elim
    · rw [← hW1]
      exact hI.alloc _ (hI.alloc _ h0)
    · rintro e W2 ⟨⟨v, rfl⟩, ⟨xs, hS, hi, hb⟩ | ⟨pre, hSp, c, hi, hb⟩⟩
      · exact ⟨none, _, run_endLoop hb.1 (by simp [recB]), hdone D xs _ (Nat.le_refl _) hS (hI.putObj _ hi (by omega) hb.1 rfl) ((World.putObj_heap_other (by omega)).trans hb.2)⟩
      · exact ⟨some c, _, run_endLoop hb.1 (by simp [recB]), hstop D c pre _ (Nat.le_refl _) hSp ((hIx c).putObj _ hi (by omega) hb.1 rfl) ((World.putObj_heap_other (by omega)).trans hb.2)⟩
end Go.Proofs.YtekgpimlanaokaaDoor
