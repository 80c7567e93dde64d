/- DERIVED. What CodeOf of the reference returns: what Line returns. Condition: strings of at most 20000 bytes. -/
import Derived.Test.YtfmmpfoecjehiaaLineP
import Derived.Test.YtfmmpfoecjehiaaWords
namespace Go.Proofs.Ytfmmpfoecjehiaa
set_option linter.unusedVariables false
set_option linter.unusedSimpArgs false
open Go.RowKit
theorem idxE_of {l : L8} {k : Nat} (h : l[k]? = some 61) (h0 : ∀ j, j < k → l[j]? ≠ some 61) : idxE l = k := by
  obtain ⟨hk, he⟩ := List.getElem?_eq_some_iff.1 h
  have hl : l = l.take k ++ 61 :: l.drop (k + 1) := by
    have := List.drop_eq_getElem_cons hk
    rw [he] at this
    rw [← this]
    exact (List.take_append_drop _ _).symm
  have hall : ∀ x ∈ l.take k, x.toNat ≠ 61 := fun x hx => by
    obtain ⟨j, hj⟩ := List.mem_iff_getElem?.1 hx
    rw [List.getElem?_take] at hj
    split at hj
    · rename_i hjk
      intro e
      have : x = 61 := UInt8.toNat_inj.1 e
      rw [this] at hj
      exact h0 j hjk hj
    · cases hj
  conv => lhs; rw [hl]
  rw [idxE_app hall, List.length_take]
  omega
theorem idxE_no {l : L8} (h : ∀ k : Nat, l[k]? ≠ some 61) : idxE l = l.length := by
  unfold idxE
  have := lead_app (fun c => !decide (c.toNat = 61)) l [] (fun x hx => by
    obtain ⟨j, hj⟩ := List.mem_iff_getElem?.1 hx
    simp only [Bool.not_eq_true', decide_eq_false_iff_not]
    intro e
    have : x = 61 := UInt8.toNat_inj.1 e
    rw [this] at hj
    exact h j hj)
  simpa [lead] using this
theorem ixE (l : L8) : (Lib.indexByte l 61 = -1 ∧ idxE l = l.length) ∨ (∃ k : Nat, Lib.indexByte l 61 = k ∧ idxE l = k ∧ k < l.length) := by
  by_cases h : Lib.indexByte l 61 = -1
  · exact .inl ⟨h, idxE_no (Lib.indexByte_none h)⟩
  · have hge := Lib.indexByte_ge l 61
    obtain ⟨k, hk⟩ : ∃ k : Nat, Lib.indexByte l 61 = k := ⟨(Lib.indexByte l 61).toNat, by omega⟩
    obtain ⟨h1, h2⟩ := Lib.indexByte_some hk
    exact .inr ⟨k, hk, idxE_of h1 h2, (List.getElem?_eq_some_iff.1 h1).1⟩
theorem argW_name {p : L8} (h : idxE p < p.length) (h' : argNm (p.take (idxE p)) = true) : argW p = (vOf (p.drop (idxE p + 1))).map fun v => (p.take (idxE p), v) := by unfold argW; rw [if_pos ⟨h, h'⟩]
theorem argW_no {p : L8} (h : ¬ (idxE p < p.length ∧ argNm (p.take (idxE p)) = true)) : argW p = (vOf p).map fun v => ([], v) := by unfold argW; rw [if_neg h]
theorem bs_ext' (l : L8) (R : ByteArray) (h : bs l = R) (k : Nat) : R.extract k R.size = bs (l.drop k) := by subst h; exact bs_ext l k
theorem bs_ext0' (l : L8) (R : ByteArray) (h : bs l = R) (k : Nat) : R.extract 0 k = bs (l.take k) := by subst h; exact bs_ext0 l k
theorem hsuf (s p : ByteArray) (w : World) (hs : s.size ≤ 20000) : Calls Try.prog 16 #[.string s, .string p] w fun e w' => e = .returned (.bool (Lib.hasSuffix (bl s) (bl p))) ∧ w = w' :=
  (Try.strings_HasSuffix s p w (by omega)).mono fun e w' h => ⟨h.1, h.2.symm⟩
/-- What is before the end. -/
theorem suffix_cut {s : ByteArray} {p : L8} (h : Lib.hasSuffix (bl s) p = true) : ∃ X, bl s = X ++ p ∧ s.size = X.length + p.length ∧ s.extract 0 X.length = bs X := by
  unfold Lib.hasSuffix at h
  obtain ⟨X, hX⟩ := List.isSuffixOf_iff_suffix.1 h
  refine ⟨X, hX.symm, ?_, ?_⟩
  · rw [← bl_len, ← hX, List.length_append]
  · rw [ext0_bs, ← hX, List.take_left]
theorem suffix_of {s : ByteArray} {X p : L8} (h : bl s = X ++ p) : Lib.hasSuffix (bl s) p = true := by
  unfold Lib.hasSuffix
  exact List.isSuffixOf_iff_suffix.2 ⟨X, h.symm⟩
/-- A line that is one ends as one. -/
theorem GL.ends {s : ByteArray} {nm : L8} {gs : List (L8 × L8)} {o : Bool} (h : GL ((bl s).drop 3) nm gs o) (h3 : 3 ≤ s.size) : ∃ W ps, bl s = ((bl s).take 3 ++ W) ++ suf o ∧ wds false [] W = nm :: ps ∧ codeNm nm = true ∧ ps.map argW = gs.map some := by
  obtain ⟨W, ps, h1, h2, h3', h4⟩ := h.words
  refine ⟨W, ps, ?_, h2, h3', h4⟩
  rw [List.append_assoc, ← h1, List.take_append_drop]
theorem map_snoc {ps : List L8} {k : Nat} {p : L8} {done : List (L8 × L8)} {x : L8 × L8} (hp : ps[k]? = some p) (hd : (ps.take k).map argW = done.map some) (hx : argW p = some x) : (ps.take (k + 1)).map argW = (done ++ [x]).map some := by
  rw [List.take_add_one, hp]
  simp [hd, hx]
theorem map_none {ps : List L8} {k : Nat} {p : L8} (hp : ps[k]? = some p) (hx : argW p = none) : ∀ gs : List (L8 × L8), ps.map argW ≠ gs.map some := fun gs e => by
  have h1 : (ps.map argW)[k]? = some none := by rw [List.getElem?_map, hp]; simp [hx]
  rw [e, List.getElem?_map] at h1
  cases h : gs[k]? with
  | none => rw [h] at h1; cases h1
  | some y => rw [h] at h1; cases h1
theorem wds_length : ∀ (l : L8) (q : Bool) (cur : L8), (wds q cur l).length ≤ l.length + 1
  | [], q, cur => by rw [wds_nil]; simp
  | [c], q, cur => by
    by_cases h0 : q = true ∧ c.toNat = 92
    · obtain ⟨rfl, h⟩ := h0; rw [wds_esc1 h]; simp
    · by_cases h1 : c.toNat = 34
      · rw [wds_quote h1]; have := wds_length [] (!q) (c :: cur); simp at this ⊢; omega
      · by_cases h2 : c.toNat = 32 ∧ q = false
        · obtain ⟨h, rfl⟩ := h2; rw [wds_cut h, wds_nil]; simp
        · rw [wds_else h0 h1 h2]; have := wds_length [] q (c :: cur); simp at this ⊢; omega
  | c :: d :: r, q, cur => by
    by_cases h0 : q = true ∧ c.toNat = 92
    · obtain ⟨rfl, h⟩ := h0; rw [wds_esc h]; have := wds_length r true (d :: c :: cur); simp only [List.length_cons]; omega
    · by_cases h1 : c.toNat = 34
      · rw [wds_quote h1]; have := wds_length (d :: r) (!q) (c :: cur); simp only [List.length_cons] at this ⊢; omega
      · by_cases h2 : c.toNat = 32 ∧ q = false
        · obtain ⟨h, rfl⟩ := h2; rw [wds_cut h]; have := wds_length (d :: r) false []; simp only [List.length_cons] at this ⊢; omega
        · rw [wds_else h0 h1 h2]; have := wds_length (d :: r) q (c :: cur); simp only [List.length_cons] at this ⊢; omega
theorem joinS_mem : ∀ (ps : List L8) (p : L8), p ∈ ps → p.length ≤ (joinS ps).length
  | a :: r, p, h => by
    rw [joinS_cons, List.length_cons, List.length_append]
    rcases List.mem_cons.1 h with rfl | h
    · omega
    · have := joinS_mem r p h; omega
theorem words_short {W p0 : L8} {ps : List L8} (h : wds false [] W = p0 :: ps) : p0.length ≤ W.length ∧ ∀ p ∈ ps, p.length ≤ W.length := by
  have hj := congrArg List.length (join_wds W false [] p0 ps h)
  rw [List.length_append, List.length_append] at hj
  simp only [List.reverse_nil, List.length_nil] at hj
  exact ⟨by omega, fun p hp => by have := joinS_mem ps p hp; omega⟩
theorem PBox.name {w : World} {b : Nat} {nm nm' : L8} {v : Value} {e : Bool} (h : PBox w b nm v e) : PBox (w.setCell ⟨b, 1, none⟩ (.string (bs nm'))) b nm' v e := Go.Joins.block_setCell h _
theorem PBox.far {w : World} {b b' j : Nat} {nm : L8} {v u : Value} {e : Bool} (h : PBox w b nm v e) (hb : b ≠ b') : PBox (w.setCell ⟨b', j, none⟩ u) b nm v e := (Below.heap_setCell _ _ _ _ hb).trans h
theorem blk_grow {w6 w7 : World} {base b : Nat} {v' : Value} {o : Obj} (hs : b < w6.heap.size) (hg : (w6.alloc o).grownBy w7 v'.ownBlock) (hlt : ∀ k, v'.ownBlock = some k → base ≤ k) (hb : b < base) : w7.heap[b]? = w6.heap[b]? := by
  refine (hg.block b (by simp; omega) (fun hk => ?_)).trans (Below.heap_alloc _ _ _ hs)
  have := hlt b hk.symm
  omega
theorem blk_far {w w2 : World} {g b j : Nat} {u : Value} (h : w.heap[g]? = w2.heap[g]?) (hg : g ≠ b) : (w.setCell ⟨b, j, none⟩ u).heap[g]? = w2.heap[g]? := (Below.heap_setCell _ _ _ _ hg).trans h

end Go.Proofs.Ytfmmpfoecjehiaa
