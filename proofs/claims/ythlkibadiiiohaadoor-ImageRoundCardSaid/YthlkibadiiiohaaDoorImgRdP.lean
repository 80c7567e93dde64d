/- DERIVED. Reading an image that was written: plain mathematics. No condition. -/
import Derived.Test.YthlkibadiiiohaaDoorImgStrP
import Derived.Lib.Atoi
import Derived.Lib.ItoaNum
import Derived.Lib.IndexLaws
import Derived.Lib.IndexMore
import Derived.Lib.IndexBytes
import Derived.Lib.Strings
import Derived.Shelf.Strings.SlTrimAscii
namespace Go.Proofs.YthlkibadiiiohaaDoor
set_option linter.unusedVariables false
def dig10L : List UInt8 := [48, 49, 50, 51, 52, 53, 54, 55, 56, 57]
def dd (n : Nat) : List UInt8 := if n < 10 then [UInt8.ofNat (48 + n)] else [UInt8.ofNat (48 + n / 10), UInt8.ofNat (48 + n % 10)]
theorem dec_dd (n : Nat) (h : n < 100) : Lib.decDigits n = dd n := by
  unfold Lib.decDigits dd
  by_cases h1 : n < 10
  · rw [dif_pos h1, if_pos h1]
  · rw [dif_neg h1, if_neg h1]
    unfold Lib.decDigits
    rw [dif_pos (by omega)]
    rfl
def okNum (l : List UInt8) : Bool := decide (0 < l.length) && decide (l.length ≤ 2) && decide (l.head? ≠ some 48) && decide (Lib.trimS l dig10L = []) && decide ((32 : UInt8) ∉ l) && decide ((10 : UInt8) ∉ l)
theorem dd_ok : ∀ n, n < 65 → 0 < n → okNum (dd n) = true := by decide +kernel
theorem dd_atoi : ∀ n, n < 65 → Lib.atoi (dd n) = some (n : Int) := by decide +kernel
theorem hexU_ix : ∀ q, q < 16 → Lib.indexByte [48, 49, 50, 51, 52, 53, 54, 55, 56, 57, 97, 98, 99, 100, 101, 102] (hexU q) = (q : Int) := by decide +kernel
theorem ix_app (a b : List UInt8) (c : UInt8) (h : c ∉ a) : Lib.indexByte (a ++ c :: b) c = (a.length : Int) := by
  have hat : (a ++ c :: b)[a.length]? = some c := by rw [List.getElem?_append_right (Nat.le_refl _), Nat.sub_self]; rfl
  by_cases hi : Lib.indexByte (a ++ c :: b) c = -1
  · exact absurd hat (Lib.indexByte_none hi _)
  · have hge := Lib.indexByte_ge (a ++ c :: b) c
    obtain ⟨k, hk⟩ : ∃ k : Nat, Lib.indexByte (a ++ c :: b) c = k := ⟨(Lib.indexByte (a ++ c :: b) c).toNat, by omega⟩
    obtain ⟨h1, h2⟩ := Lib.indexByte_some hk
    rw [hk]
    rcases Nat.lt_trichotomy k a.length with h3 | h3 | h3
    · rw [List.getElem?_append_left h3] at h1
      exact absurd (List.mem_of_getElem? h1) h
    · rw [h3]
    · exact absurd hat (h2 _ h3)
theorem cut_app (a b : List UInt8) (c : UInt8) (h : c ∉ a) : Lib.cut (a ++ c :: b) [c] = (a, b, true) := by
  have hi : Lib.index (a ++ c :: b) [c] = (a.length : Int) := by rw [Lib.index_one, ix_app a b c h]
  unfold Lib.cut
  rw [hi, if_pos (by omega)]
  simp
def imgL : List UInt8 := [105, 109, 97, 103, 101, 32]
theorem pre_app (l : List UInt8) : Lib.hasPrefix (imgL ++ l) imgL = true ∧ Lib.trimPrefix (imgL ++ l) imgL = l := by
  have h : Lib.hasPrefix (imgL ++ l) imgL = true := by
    unfold Lib.hasPrefix
    rw [List.isPrefixOf_iff_prefix]
    exact List.prefix_append _ _
  refine ⟨h, ?_⟩
  unfold Lib.trimPrefix
  rw [if_pos h, List.drop_left]
theorem bl_step (W : Nat) (zs : List Int) (k : Nat) : bl W zs (k + 1) = bl W zs k ++ hexU (zs.getD k 0).toNat :: (if (k + 1) % W = 0 then [10] else []) := rfl
theorem bl_length (W : Nat) (hW : 1 ≤ W) (zs : List Int) : ∀ k, (bl W zs k).length = k + k / W
  | 0 => by simp [bl]
  | k + 1 => by
    have h1 := bl_length W hW zs k
    have h2 : (k + 1) / W = k / W + if W ∣ k + 1 then 1 else 0 := Nat.succ_div
    rw [bl_step, List.length_append, List.length_cons, h1, h2]
    by_cases h : (k + 1) % W = 0
    · rw [if_pos h, if_pos (Nat.dvd_of_mod_eq_zero h)]; simp; omega
    · rw [if_neg h, if_neg (fun e => h (Nat.mod_eq_zero_of_dvd e))]; simp; omega
theorem bl_pre (W : Nat) (zs : List Int) (k : Nat) : ∀ n, k ≤ n → bl W zs k <+: bl W zs n
  | 0, h => by rw [show k = 0 by omega]; exact List.prefix_refl _
  | n + 1, h => by
    by_cases e : k = n + 1
    · rw [e]; exact List.prefix_refl _
    · exact (bl_pre W zs k n (by omega)).trans (by rw [bl_step W zs n]; exact List.prefix_append _ _)
theorem bl_char (W : Nat) (hW : 1 ≤ W) (zs : List Int) (k n : Nat) (h : k < n) : (bl W zs n)[k + k / W]? = some (hexU (zs.getD k 0).toNat) := by
  obtain ⟨t, ht⟩ := bl_pre W zs (k + 1) n h
  rw [← ht, ← bl_length W hW zs k, bl_step, List.append_assoc, List.getElem?_append_right (Nat.le_refl _), Nat.sub_self]
  rfl
theorem bl_nl (W : Nat) (hW : 1 ≤ W) (zs : List Int) (k n i : Nat) (h : k + 1 ≤ n) (hm : (k + 1) % W = 0) (hi : i + 1 = k + 1 + (k + 1) / W) : (bl W zs n)[i]? = some 10 := by
  obtain ⟨t, ht⟩ := bl_pre W zs (k + 1) n h
  have h1 := bl_length W hW zs k
  have h2 : (k + 1) / W = k / W + if W ∣ k + 1 then 1 else 0 := Nat.succ_div
  rw [if_pos (Nat.dvd_of_mod_eq_zero hm)] at h2
  rw [← ht, bl_step, if_pos hm, List.append_assoc, List.getElem?_append_right (by omega), h1, show i - (k + k / W) = 1 by omega]
  rfl
/-- Where the reader stands: k levels are read, and all that is before i. -/
def Stand (W i k : Nat) : Prop := i = k + k / W ∨ (0 < k ∧ k % W = 0 ∧ i + 1 = k + k / W)
theorem div_mono (W : Nat) {a b : Nat} (h : a ≤ b) : a / W ≤ b / W := Nat.div_le_div_right h
theorem stand_next {W i k n : Nat} (hW : 1 ≤ W) (h : Stand W i k) (hk : k ≤ n) (hn : n % W = 0) (hi : i < n + n / W) :
    (k < n ∧ ¬ (i + 1) % (W + 1) = 0 ∧ i = k + k / W ∧ Stand W (i + 1) (k + 1)) ∨
    ((i + 1) % (W + 1) = 0 ∧ (∀ zs, (bl W zs n)[i]? = some 10) ∧ Stand W (i + 1) k) := by
  rcases h with h | ⟨h0, hm, h1⟩
  · left
    have hkn : k < n := by
      rcases Nat.lt_or_ge k n with h2 | h2
      · exact h2
      · have : k = n := by omega
        subst this
        omega
    have hd := Nat.div_add_mod k W
    have hlt := Nat.mod_lt k hW
    refine ⟨hkn, ?_, h, ?_⟩
    · have e : i + 1 = (W + 1) * (k / W) + (k % W + 1) := by
        rw [h, Nat.add_mul, Nat.one_mul]; omega
      rw [e, Nat.mul_add_mod, Nat.mod_eq_of_lt (by omega)]
      omega
    · have h2 : (k + 1) / W = k / W + if W ∣ k + 1 then 1 else 0 := Nat.succ_div
      by_cases hm : (k + 1) % W = 0
      · rw [if_pos (Nat.dvd_of_mod_eq_zero hm)] at h2
        exact .inr ⟨by omega, hm, by omega⟩
      · rw [if_neg (fun e => hm (Nat.mod_eq_zero_of_dvd e))] at h2
        exact .inl (by omega)
  · right
    have hd := Nat.div_add_mod k W
    refine ⟨?_, ?_, .inl h1⟩
    · have e : i + 1 = (W + 1) * (k / W) := by rw [h1, Nat.add_mul, Nat.one_mul]; omega
      rw [e, Nat.mul_mod_right]
    · intro zs
      obtain ⟨m, rfl⟩ : ∃ m, k = m + 1 := ⟨k - 1, by omega⟩
      exact bl_nl W hW zs m n i hk hm h1
theorem stand_end {W i k n : Nat} (h : Stand W i k) (hk : k ≤ n) (hi : i = n + n / W) : k = n := by
  have hd := div_mono W hk
  rcases h with h | ⟨_, _, h1⟩
  · rcases Nat.lt_or_ge k n with h2 | h2
    · omega
    · omega
  · omega
theorem rest_len {W H n : Nat} (hW : 1 ≤ W) (hn : n = W * H) : n + n / W = H * (W + 1) ∧ n % W = 0 ∧ n / W = H := by
  subst hn
  have h1 : W * H / W = H := Nat.mul_div_cancel_left H hW
  refine ⟨by rw [h1, Nat.mul_add, Nat.mul_comm H W, Nat.mul_one], Nat.mul_mod_right W H, h1⟩
end Go.Proofs.YthlkibadiiiohaaDoor
