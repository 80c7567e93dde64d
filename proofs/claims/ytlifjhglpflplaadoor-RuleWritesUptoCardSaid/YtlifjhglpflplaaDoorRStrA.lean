/- DERIVED. The strings of tests: what they are, how long they are, an own row of strings joined. No condition. -/
import Derived.Test.YtlifjhglpflplaaDoorTstRule
import Derived.Test.YtlifjhglpflplaaDoorSrcBox
namespace Go.Proofs.YtlifjhglpflplaaDoor
open Go.RowKit
set_option linter.unusedVariables false
set_option linter.unusedSimpArgs false
def joinS (L : List ByteArray) (sep : ByteArray) : ByteArray := ⟨(Lib.join (L.map (·.data.toList)) sep.data.toList).toArray⟩
def wS1 (md : Int) : ByteArray := if md = 0 then ⟨#[110]⟩ else ⟨#[110]⟩ ++ (⟨#[37]⟩ ++ itoaS md)
def wS2 (md lo : Int) : ByteArray := wS1 md ++ (⟨#[61]⟩ ++ itoaS lo)
def wS (md lo hi : Int) : ByteArray := if hi = lo then wS2 md lo else wS2 md lo ++ (⟨#[46, 46]⟩ ++ itoaS hi)
def brS (br : Bool) (k : Int) (s : ByteArray) : ByteArray := if br = true ∧ k = 3 then ⟨#[40]⟩ ++ s ++ ⟨#[41]⟩ else s
/-- The strings of tests, in brackets where they should be. -/
def Tst.kL : Tst → Bool → List ByteArray
  | .nil, _ => []
  | .cons k md lo hi c r, br => brS br k (if k = 2 then joinS (c.kL true) ⟨#[32, 38, 32]⟩ else if k = 3 then joinS (c.kL false) ⟨#[32, 124, 32]⟩ else if k = 4 then ⟨#[33, 40]⟩ ++ joinS (c.kL true) ⟨#[32, 124, 32]⟩ ++ ⟨#[41]⟩ else wS md lo hi) :: r.kL br
/-- The string of a test. -/
def tS (k md lo hi : Int) (c : Tst) : ByteArray := if k = 2 then joinS (c.kL true) ⟨#[32, 38, 32]⟩ else if k = 3 then joinS (c.kL false) ⟨#[32, 124, 32]⟩ else if k = 4 then ⟨#[33, 40]⟩ ++ joinS (c.kL true) ⟨#[32, 124, 32]⟩ ++ ⟨#[41]⟩ else wS md lo hi
theorem kL_cons (k md lo hi : Int) (c r : Tst) (br : Bool) : (Tst.cons k md lo hi c r).kL br = brS br k (tS k md lo hi c) :: r.kL br := rfl
def I64 (n : Int) : Prop := -9223372036854775808 ≤ n ∧ n ≤ 9223372036854775807
theorem i64_of {n : Int} (h : (Lit.int .i64 n).wf = true) : I64 n := by
  simp only [Lit.wf, IntKind.min, IntKind.max, IntKind.signed, IntKind.bits, Bool.and_eq_true, decide_eq_true_eq, if_true] at h
  unfold I64
  omega
/-- All numbers of the tests are numbers of 64 bits. -/
def Tst.fits : Tst → Prop
  | .nil => True
  | .cons _ md lo hi c r => (I64 md ∧ I64 lo ∧ I64 hi) ∧ c.fits ∧ r.fits
theorem Tst.At.fits {w : World} {B : Nat} : ∀ {d : Tst} {A : Option Addr} {n : Nat}, d.At w B A n → d.fits
  | .nil, _, _, _ => True.intro
  | .cons .., _, _, ⟨_, _, _, _, _, _, _, _, _, _, _, _, _, _, _, _, _, g1, g2, g3, hk, hr⟩ => ⟨⟨i64_of g1, i64_of g2, i64_of g3⟩, Tst.At.fits hk, Tst.At.fits hr⟩
theorem wS1_size {md : Int} (h : I64 md) : (wS1 md).size ≤ 23 := by
  have := itoaS_size md h.1 h.2
  unfold wS1
  have e1 : (ByteArray.mk #[110]).size = 1 := rfl
  have e2 : (ByteArray.mk #[37]).size = 1 := rfl
  split
  · omega
  · rw [ByteArray.size_append, ByteArray.size_append]; omega
theorem wS2_size {md lo : Int} (h : I64 md) (h2 : I64 lo) : (wS2 md lo).size ≤ 45 := by
  have := itoaS_size lo h2.1 h2.2
  have := wS1_size h
  unfold wS2
  have e2 : (ByteArray.mk #[61]).size = 1 := rfl
  rw [ByteArray.size_append, ByteArray.size_append]; omega
theorem wS_size {md lo hi : Int} (h : I64 md) (h2 : I64 lo) (h3 : I64 hi) : (wS md lo hi).size ≤ 68 := by
  have := itoaS_size hi h3.1 h3.2
  have := wS2_size h h2
  unfold wS
  have e2 : (ByteArray.mk #[46, 46]).size = 2 := rfl
  split
  · omega
  · rw [ByteArray.size_append, ByteArray.size_append]; omega
def sizes (L : List ByteArray) : Nat := (L.map (·.size)).sum
theorem sizes_cons (s : ByteArray) (L : List ByteArray) : sizes (s :: L) = s.size + sizes L := by simp [sizes]
theorem lens_sizes : ∀ L : List ByteArray, Lib.lens (L.map (·.data.toList)) = sizes L
  | [] => rfl
  | s :: r => by
    have h := lens_sizes r
    rw [sizes_cons, ← h]
    have hl : s.data.toList.length = s.size := Array.length_toList
    simp [Lib.lens, hl]
theorem join_le (L : List ByteArray) (sep : ByteArray) (h : sep.size ≤ 3) : (Lib.join (L.map (·.data.toList)) sep.data.toList).length ≤ sizes L + 3 * L.length := by
  cases L with
  | nil => simp [Lib.join_nil]
  | cons x r =>
    rw [List.map_cons, Lib.join_length, ← List.map_cons (f := fun (b : ByteArray) => b.data.toList), lens_sizes]
    have hl : sep.data.toList.length = sep.size := Array.length_toList
    rw [hl, List.length_map, List.length_cons]
    have := Nat.mul_le_mul_right r.length h
    omega
theorem joinS_size (L : List ByteArray) (sep : ByteArray) (h : sep.size ≤ 3) : (joinS L sep).size ≤ sizes L + 3 * L.length := by
  have h1 := join_le L sep h
  show (Lib.join (L.map (·.data.toList)) sep.data.toList).toArray.size ≤ _
  rw [List.size_toArray]
  exact h1
theorem brS_size (br : Bool) (k : Int) (s : ByteArray) : (brS br k s).size ≤ s.size + 2 := by
  unfold brS
  have e1 : (ByteArray.mk #[40]).size = 1 := rfl
  have e2 : (ByteArray.mk #[41]).size = 1 := rfl
  split
  · rw [ByteArray.size_append, ByteArray.size_append]; omega
  · omega
theorem kL_len : ∀ (d : Tst) (br : Bool), (d.kL br).length = d.len
  | .nil, _ => rfl
  | .cons k md lo hi c r, br => by
    rw [kL_cons, List.length_cons, kL_len r br]; rfl
theorem sep1 : (ByteArray.mk #[32, 38, 32]).size ≤ 3 := by decide
theorem sep2 : (ByteArray.mk #[32, 124, 32]).size ≤ 3 := by decide
theorem sep3 : (ByteArray.mk #[59, 32]).size ≤ 3 := by decide
theorem kL_size : ∀ (d : Tst) (br : Bool), d.fits → sizes (d.kL br) + 4 * d.len ≤ 100 * d.nodes
  | .nil, _, _ => by simp [Tst.kL, sizes, Tst.len, Tst.nodes]
  | .cons k md lo hi c r, br, ⟨⟨f1, f2, f3⟩, fc, fr⟩ => by
    have hr := kL_size r br fr
    have hc1 := kL_size c true fc
    have hc2 := kL_size c false fc
    rw [kL_cons, sizes_cons]
    have hb := brS_size br k (tS k md lo hi c)
    have j1 := joinS_size (c.kL true) ⟨#[32, 38, 32]⟩ sep1
    have j2 := joinS_size (c.kL false) ⟨#[32, 124, 32]⟩ sep2
    have j3 := joinS_size (c.kL true) ⟨#[32, 124, 32]⟩ sep2
    rw [kL_len] at j1 j2 j3
    have hw := wS_size f1 f2 f3
    have e1 : (ByteArray.mk #[33, 40]).size = 2 := rfl
    have e2 : (ByteArray.mk #[41]).size = 1 := rfl
    have ht : (tS k md lo hi c).size ≤ 100 * c.nodes + 80 := by
      unfold tS
      split
      · omega
      · split
        · omega
        · split
          · rw [ByteArray.size_append, ByteArray.size_append]; omega
          · omega
    show _ + 4 * (r.len + 1) ≤ 100 * (c.nodes + r.nodes + 1)
    omega
theorem kids_size (c : Tst) (br : Bool) (sep : ByteArray) (h : sep.size ≤ 3) (hf : c.fits) : (joinS (c.kL br) sep).size ≤ 100 * c.nodes := by
  have h1 := joinS_size (c.kL br) sep h
  have h2 := kL_size c br hf
  rw [kL_len] at h1
  omega
theorem kids_join (c : Tst) (br : Bool) (sep : ByteArray) (h : sep.size ≤ 3) (hf : c.fits) : (Lib.join ((c.kL br).map (·.data.toList)) sep.data.toList).length ≤ 100 * c.nodes := by
  have h1 := join_le (c.kL br) sep h
  have h2 := kL_size c br hf
  rw [kL_len] at h1
  omega
theorem tS_size (k md lo hi : Int) (c : Tst) (f1 : I64 md) (f2 : I64 lo) (f3 : I64 hi) (hf : c.fits) : (tS k md lo hi c).size ≤ 100 * c.nodes + 80 := by
  have j1 := kids_size c true ⟨#[32, 38, 32]⟩ sep1 hf
  have j2 := kids_size c false ⟨#[32, 124, 32]⟩ sep2 hf
  have j3 := kids_size c true ⟨#[32, 124, 32]⟩ sep2 hf
  have hw := wS_size f1 f2 f3
  have e1 : (ByteArray.mk #[33, 40]).size = 2 := rfl
  have e2 : (ByteArray.mk #[41]).size = 1 := rfl
  unfold tS
  split
  · omega
  · split
    · omega
    · split
      · rw [ByteArray.size_append, ByteArray.size_append]; omega
      · omega
/-- strings.Join of an own row. -/
theorem joinOwn_any {B : Nat} {v : Value} {L : List ByteArray} {wX : World} (sep : ByteArray) (hrow : wX.ownsRow B 9 1 v L.length (strs L)) (hn : L.length ≤ 140737488355328) (hj : (Lib.join (L.map (·.data.toList)) sep.data.toList).length ≤ 140737488355328) :
    Calls Tryd.prog 27 #[v, .string sep] wX fun e w' => e = .returned (.string (joinS L sep)) ∧ Below wX.heap.size wX w' := by
  by_cases h0 : L.length = 0
  · obtain rfl : L = [] := List.eq_nil_of_length_eq_zero h0
    obtain ⟨A, c, rfl⟩ := slice_of_own hrow
    exact (Tryd.strings_Join_none A c sep wX).mono fun e w' ⟨he, hw⟩ => ⟨he.trans rfl, hw ▸ Below.refl _ _⟩
  · obtain ⟨g, cap, rfl, hg1, hg2⟩ := hrow.form (by omega)
    have hcap : L.length ≤ cap := by
      rcases hrow.2 with ⟨hv, _⟩ | ⟨g', cap', cur, hv, _, _, _, hh, _⟩
      · cases hv
      · cases hv; first | exact hh | omega
    exact Tryd.strings_Join g 0 cap L sep wX (fun j y hj => by
      rw [Nat.zero_add, hrow.cellAt j (by have := (List.getElem?_eq_some_iff.1 hj).1; omega)]; unfold strs; rw [List.getElem?_map, hj]; rfl) hg2 hn hcap hj
end Go.Proofs.YtlifjhglpflplaaDoor
