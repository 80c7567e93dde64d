/- DERIVED. What the reference's digitsAlone, dayForm and DayOfString return. No condition but that strings are no longer than strings can be. -/
import Derived.Test.YtgkogoojfnkpoaaDoorDayReadW
import Derived.Shelf.Strings.SlTrimAscii
namespace Go.Proofs.YtgkogoojfnkpoaaDoor
open Go.RowKit
def tens : List UInt8 := [48, 49, 50, 51, 52, 53, 54, 55, 56, 57]
theorem tens_all : ∀ n, n < 256 → tens.contains (UInt8.ofNat n) = !nd (UInt8.ofNat n) := by decide +kernel
theorem tens_nd (b : UInt8) : tens.contains b = !nd b := by
  have h := tens_all b.toNat b.toNat_lt
  rwa [UInt8.ofNat_toNat] at h
theorem mem_dropWhile {p : UInt8 → Bool} : ∀ {l : List UInt8} {x : UInt8}, x ∈ l → p x = false → x ∈ l.dropWhile p
  | a :: r, x, h, hp => by
    unfold List.dropWhile
    rcases List.mem_cons.1 h with rfl | h'
    · rw [hp]; exact h
    · cases p a
      · exact h
      · exact mem_dropWhile h' hp
theorem dropWhile_all {p : UInt8 → Bool} : ∀ {l : List UInt8}, (∀ x, x ∈ l → p x = true) → l.dropWhile p = []
  | [], _ => rfl
  | a :: r, h => by
    unfold List.dropWhile
    rw [h a (List.mem_cons_self ..)]
    exact dropWhile_all fun x hx => h x (List.mem_cons_of_mem _ hx)
theorem trim_all {l : List UInt8} (h : l.any nd = false) : Lib.trimS l tens = [] := by
  have hm : ∀ x, x ∈ l → tens.contains x = true := fun x hx => by
    rw [tens_nd]
    have := List.any_eq_false.1 h x hx
    simpa using this
  have e : Lib.trimRightS l tens = [] := by
    unfold Lib.trimRightS
    rw [dropWhile_all fun x hx => hm x (List.mem_reverse.1 hx)]
    rfl
  unfold Lib.trimS
  rw [e]
  rfl
theorem trim_some {l : List UInt8} (h : l.any nd = true) : Lib.trimS l tens ≠ [] := by
  obtain ⟨x, hx, hn⟩ := List.any_eq_true.1 h
  have hc : tens.contains x = false := by rw [tens_nd, hn]; rfl
  have h1 : x ∈ Lib.trimRightS l tens := by
    unfold Lib.trimRightS
    exact List.mem_reverse.2 (mem_dropWhile (List.mem_reverse.2 hx) hc)
  have h2 : x ∈ Lib.trimS l tens := mem_dropWhile h1 hc
  intro e
  rw [e] at h2
  cases h2
theorem trim_any (s : ByteArray) (w : World) (hs : s.size ≤ maxLen) :
    Calls Tryd.prog 54 #[.string s, .string ⟨#[48, 49, 50, 51, 52, 53, 54, 55, 56, 57]⟩] w fun e w' => e = .returned (.string ⟨(Lib.trimS s.data.toList tens).toArray⟩) ∧ Below w.heap.size w w' :=
  Any.strings_Trim_ascii Tryd.lays160 (fun w => by kernel_rfl) (by kernel_rfl) s _ w (by unfold maxLen at hs; omega) (by decide) (fun j b h => by
    have hm : b ∈ tens := List.mem_of_getElem? h
    have : ∀ b, b ∈ tens → b.toNat < 128 := by decide
    exact this b hm)
theorem toList_ne {s : ByteArray} (h : 0 < s.size) : ¬ s.toList = [] := by
  intro e
  rw [ByteArray.toList_eq] at e
  have h1 : s.data.toList.length = 0 := by rw [e]; rfl
  rw [Array.length_toList] at h1
  have h2 : s.size = s.data.size := rfl
  omega
set_option maxRecDepth 100000 in
theorem digitsAlone_any (s : ByteArray) (w : World) (hs : s.size ≤ maxLen) (h0 : 0 < s.size) :
    Calls Tryd.prog 39 #[.string s] w fun e w' => e = .returned (.bool (allD s.data.toList)) ∧ Below w.heap.size w w' := by
  have HT := Lib.hid (fun wx => trim_any s wx hs)
  cases hd : s.data.toList.any nd with
  | false =>
    have he := trim_all hd
    rw [he] at HT
    go_enter Tryd.func39, Tryd.ntmps39
    go_wp2_with fail
    · exfalso; exact toList_ne h0 (by assumption)
    refine (HT.out _).mono ?_
    rintro e w1 ⟨rfl, hb1⟩
    go_wp2_with fail
    go_ret
    exact ⟨retB (by unfold allD; rw [hd]; cases hz : s.toList with | nil => exact absurd hz (toList_ne h0) | cons => rfl), hb1⟩
  | true =>
    have he := trim_some hd
    generalize Lib.trimS s.data.toList tens = t at he HT
    go_enter Tryd.func39, Tryd.ntmps39
    go_wp2_with fail
    · exfalso; exact toList_ne h0 (by assumption)
    refine (HT.out _).mono ?_
    rintro e w1 ⟨rfl, hb1⟩
    go_wp2_with fail
    go_ret
    exact ⟨retB (by unfold allD; rw [hd]; cases t with | nil => exact absurd rfl he | cons => simp), hb1⟩
set_option maxRecDepth 100000 in
set_option maxHeartbeats 1000000 in
theorem dayForm_n1 (s : ByteArray) (w : World) (h10 : ¬ s.size = 10) :
    Calls Tryd.prog 20 #[.string s] w fun e w' => e = .returned (.bool false) ∧ Below w.heap.size w w' := by
  have hne : ((s.size : Int) == 10) = false := by simp; omega
  have hne4 : ¬ (s.size : Int) = 10 := by omega
  go_enter Tryd.func20, Tryd.ntmps20
  go_wp2_with fail
  go_quiet (fail)
  go_wp2_with fail
  go_ret
  exact ⟨rfl, below_drewN (Below.refl _ _) nq⟩
set_option maxRecDepth 100000 in
set_option maxHeartbeats 1000000 in
theorem dayForm_n2 (s : ByteArray) (w : World) (h10 : s.size = 10) (n4 : 4 < s.size) (e4 : ¬ s[4] = 45) :
    Calls Tryd.prog 20 #[.string s] w fun e w' => e = .returned (.bool false) ∧ Below w.heap.size w w' := by
  have i4 : (4 : Int) < (s.size : Int) := by omega
  obtain ⟨c, hc⟩ : ∃ c, s[4] = c := ⟨_, rfl⟩
  rw [hc] at e4
  have z4 : ((c.toNat : Int) == 45) = false := by
    simp only [beq_eq_false_iff_ne, ne_eq]
    intro h
    exact e4 (UInt8.toNat.inj (by simpa using Int.ofNat.inj h))
  clear e4
  go_enter Tryd.func20, Tryd.ntmps20
  go_wp2_with fail
  go_quiet (fail)
  go_wp2_with fail
  go_ret
  exact ⟨rfl, below_drewN (Below.refl _ _) nq⟩
set_option maxRecDepth 100000 in
set_option maxHeartbeats 1000000 in
theorem dayForm_n3 (s : ByteArray) (w : World) (h10 : s.size = 10) (n4 : 4 < s.size) (n7 : 7 < s.size) (e4 : s[4] = 45) (e7 : ¬ s[7] = 45) :
    Calls Tryd.prog 20 #[.string s] w fun e w' => e = .returned (.bool false) ∧ Below w.heap.size w w' := by
  have i4 : (4 : Int) < (s.size : Int) := by omega
  have i7 : (7 : Int) < (s.size : Int) := by omega
  obtain ⟨c, hc⟩ : ∃ c, s[7] = c := ⟨_, rfl⟩
  rw [hc] at e7
  have z7 : ((c.toNat : Int) == 45) = false := by
    simp only [beq_eq_false_iff_ne, ne_eq]
    intro h
    exact e7 (UInt8.toNat.inj (by simpa using Int.ofNat.inj h))
  clear e7
  go_enter Tryd.func20, Tryd.ntmps20
  go_wp2_with fail
  go_quiet (fail)
  go_wp2_with fail
  go_ret
  exact ⟨rfl, below_drewN (Below.refl _ _) nq⟩
set_option maxRecDepth 100000 in
set_option maxHeartbeats 1000000 in
theorem dayForm_y (s : ByteArray) (w : World) (h10 : s.size = 10) (n4 : 4 < s.size) (n7 : 7 < s.size) (e4 : s[4] = 45) (e7 : s[7] = 45) :
    Calls Tryd.prog 20 #[.string s] w fun e w' => e = .returned (.bool (allD (p1 s ++ p2 s ++ p3 s).data.toList)) ∧ Below w.heap.size w w' := by
  have i4 : (4 : Int) < (s.size : Int) := by omega
  have i7 : (7 : Int) < (s.size : Int) := by omega
  have hall := fun wx => digitsAlone_any (p1 s ++ p2 s ++ p3 s) wx (by simp [p1, p2, p3, maxLen]; omega) (by simp [p1, p2, p3]; omega)
  generalize allD (p1 s ++ p2 s ++ p3 s).data.toList = r at hall
  unfold p1 p2 p3 at hall
  have HA := Lib.hid hall; clear hall
  go_enter Tryd.func20, Tryd.ntmps20
  go_wp2_with fail
  go_still_tail 22, (by kernel_rfl)
  change wpList _ _ _ _ _ w.drew
  have hbd : Below w.heap.size w w.drew := (Below.refl _ _).drew
  generalize w.drew = w2 at hbd ⊢
  go_wp2_with fail
  refine (HA.out _).mono ?_
  rintro e w3 ⟨rfl, hb3⟩
  go_wp2_with fail
  go_ret
  exact ⟨rfl, hbd.trans (hb3.mono hbd.size)⟩
theorem dayForm_any (s : ByteArray) (w : World) :
    Calls Tryd.prog 20 #[.string s] w fun e w' => e = .returned (.bool (formB s)) ∧ Below w.heap.size w w' := by
  by_cases h10 : s.size = 10
  · have n4 : 4 < s.size := by omega
    have n7 : 7 < s.size := by omega
    by_cases e4 : s[4] = 45
    · by_cases e7 : s[7] = 45
      · have he : formB s = allD (p1 s ++ p2 s ++ p3 s).data.toList := by
          unfold formB
          rw [at_idx n4, at_idx n7, e4, e7]
          simp [h10]
        rw [he]
        exact dayForm_y s w h10 n4 n7 e4 e7
      · have he : formB s = false := by
          unfold formB
          rw [at_idx n7]
          simp [e7]
        rw [he]
        exact dayForm_n3 s w h10 n4 n7 e4 e7
    · have he : formB s = false := by
        unfold formB
        rw [at_idx n4]
        simp [e4]
      rw [he]
      exact dayForm_n2 s w h10 n4 e4
  · have he : formB s = false := by unfold formB; simp [h10]
    rw [he]
    exact dayForm_n1 s w h10
theorem dayOfR_any (y m k : Int) (w : World) : Calls Tryd.prog 21 #[.int .i64 y, .int .i64 m, .int .i64 k] w fun e w' => (∃ a b, e = .returned (.tuple #[.int .i64 a, .int .i64 b]) ∧ DayP y m k a b) ∧ Below w.heap.size w w' := by
  by_cases h : okDay y m k
  · exact (dayOfR_yes y m k w h).mono fun e w' ⟨he, hw⟩ => ⟨⟨_, _, he, .inl ⟨h, rfl, rfl⟩⟩, hw⟩
  · exact (dayOfR_no y m k w h).mono fun e w' ⟨he, hw⟩ => ⟨⟨_, _, he, .inr ⟨h, rfl, rfl⟩⟩, hw⟩
set_option maxRecDepth 100000 in
set_option maxHeartbeats 1000000 in
theorem dayOfString_any (s : ByteArray) (w : World) :
    Calls Tryd.prog 7 #[.string s] w fun e w' => ReadE s e ∧ Below w.heap.size w w' := by
  have HD := Lib.hid (dayForm_any s w)
  cases hf : formB s with
  | false =>
    rw [hf] at HD
    have HF := Lib.hid hf; clear hf
    go_enter Tryd.func7, Tryd.ntmps7
    go_wp2_with fail
    refine HD.out.mono ?_
    rintro e w1 ⟨rfl, hb1⟩
    go_wp2_with fail
    go_ret2
    exact ⟨⟨0, 8, rfl, .inl ⟨HF.out, rfl, rfl⟩⟩, hb1⟩
  | true =>
    rw [hf] at HD
    have HF := Lib.hid hf
    obtain ⟨y, m, k, e1, e2, e3, b1, b2, b3⟩ := form_nums hf
    unfold formB at hf
    simp only [Bool.and_eq_true, decide_eq_true_eq] at hf
    have h10 := hf.1.1.1
    clear hf
    have a1 := fun wx => atoi_any (p1 s) y (by simp [p1]; omega) e1 wx
    have a2 := fun wx => atoi_any (p2 s) m (by simp [p2]; omega) e2 wx
    have a3 := fun wx => atoi_any (p3 s) k (by simp [p3]; omega) e3 wx
    have E1 := Lib.hid e1; clear e1
    have E2 := Lib.hid e2; clear e2
    have E3 := Lib.hid e3; clear e3
    unfold p1 at a1
    unfold p2 at a2
    unfold p3 at a3
    have A1 := Lib.hid a1; clear a1
    have A2 := Lib.hid a2; clear a2
    have A3 := Lib.hid a3; clear a3
    go_enter Tryd.func7, Tryd.ntmps7
    go_wp2_with fail
    refine HD.out.mono ?_
    rintro e w0 ⟨rfl, hb0⟩
    go_wp2_with fail
    refine (A1.out _).mono ?_
    rintro e w1 ⟨rfl, hb1⟩
    go_wp2_with fail
    refine (A2.out _).mono ?_
    rintro e w2 ⟨rfl, hb2⟩
    go_wp2_with fail
    refine (A3.out _).mono ?_
    rintro e w3 ⟨rfl, hb3⟩
    go_wp2_with fail
    refine (dayOfR_any y m k _).mono ?_
    rintro e w4 ⟨⟨a, b, rfl, hp⟩, hb4⟩
    have HP := Lib.hid hp; clear hp
    go_wp2_with fail
    go_ret2
    have hb1' := hb0.trans (hb1.mono hb0.size)
    have hb2' := hb1'.trans (hb2.mono hb1'.size)
    have hb3' := hb2'.trans (hb3.mono hb2'.size)
    exact ⟨⟨a, b, rfl, .inr ⟨HF.out, y, m, k, E1.out, E2.out, E3.out, HP.out⟩⟩, hb3'.trans (hb4.mono hb3'.size)⟩
end Go.Proofs.YtgkogoojfnkpoaaDoor
