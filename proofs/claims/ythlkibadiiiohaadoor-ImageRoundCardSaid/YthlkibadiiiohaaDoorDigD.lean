/- DERIVED. asset.Digest, awakeAsset. No condition. -/
import Derived.Test.YthlkibadiiiohaaDoorDigC
namespace Go.Proofs.YthlkibadiiiohaaDoor
open Go.RowKit
set_option linter.unusedVariables false
set_option linter.unusedSimpArgs false
def st0 : St := ⟨1732584193, 4023233417, 2562383102, 271733878⟩
def bytesI (s : ByteArray) (k : Nat) : List Int := (s.data.toList.take k).map fun c => (c.toNat : Int)
theorem bytesI_succ {s : ByteArray} {k : Nat} (hk : k < s.size) : bytesI s (k + 1) = bytesI s k ++ [(s[k].toNat : Int)] := by unfold bytesI; rw [take_snocB hk, List.map_append]; rfl
/-- The state at the end of a body. -/
def digSt (s : ByteArray) : St := endS (tks st0 (bytesI s s.size)) s.size
theorem st0_ok : st0.ok := ⟨⟨by decide, by decide⟩, ⟨by decide, by decide⟩, ⟨by decide, by decide⟩, ⟨by decide, by decide⟩⟩
theorem digSt_ok (s : ByteArray) : (digSt s).ok := tks_ok _ _ (tks_ok _ _ (tks_ok _ _ st0_ok))
def digS (s : ByteArray) : ByteArray := ⟨(hexA [(digSt s).a.toNat, (digSt s).b.toNat, (digSt s).c.toNat, (digSt s).d.toNat]).toArray⟩
theorem hexA_len : ∀ l : List Nat, (hexA l).length = 8 * l.length
  | [] => rfl
  | n :: r => by rw [hexA, List.length_append, hexP_len, hexA_len r, List.length_cons]; omega
theorem digS_size (s : ByteArray) : (digS s).size = 32 := by
  show (hexA _).toArray.size = 32
  rw [List.size_toArray, hexA_len]; rfl
theorem strS_any (s : St) (h : s.ok) (w : World) : Calls Tryd.prog 21 #[stA s] w fun e w' => e = .returned (.string ⟨(hexA [s.a.toNat, s.b.toNat, s.c.toNat, s.d.toNat]).toArray⟩) ∧ Below w.heap.size w w' := by
  obtain ⟨a, b, c, d⟩ := s
  obtain ⟨⟨a0, a1⟩, ⟨b0, b1⟩, ⟨c0, c1⟩, ⟨d0, d1⟩⟩ := h
  dsimp only at a0 a1 b0 b1 c0 c1 d0 d1
  obtain ⟨x, rfl⟩ : ∃ x : Nat, a = x := ⟨a.toNat, by omega⟩
  obtain ⟨y, rfl⟩ : ∃ x : Nat, b = x := ⟨b.toNat, by omega⟩
  obtain ⟨z, rfl⟩ : ∃ x : Nat, c = x := ⟨c.toNat, by omega⟩
  obtain ⟨v, rfl⟩ : ∃ x : Nat, d = x := ⟨d.toNat, by omega⟩
  exact str_any x y z v (by omega) (by omega) (by omega) (by omega) w
set_option maxRecDepth 100000 in
set_option maxHeartbeats 4000000 in
theorem digest_any (s : ByteArray) (hs : s.size ≤ 9223372036854775807) (w : World) : Calls Tryd.prog 9 #[.string s] w fun e w' => e = .returned (.string (digS s)) ∧ Below w.heap.size w w' := by
  have hqA : (w.alloc (.cells #[.int .u32 1732584193, .int .u32 4023233417, .int .u32 2562383102, .int .u32 271733878] 45)).heap[w.heap.size]? = some (stO st0) := heap_alloc_new _ _
  have hbA : Below w.heap.size w (w.alloc (.cells #[.int .u32 1732584193, .int .u32 4023233417, .int .u32 2562383102, .int .u32 271733878] 45)) := (Below.refl _ _).alloc (Nat.le_refl _) _
  have HQ := Lib.hid hqA
  have HB := Lib.hid hbA
  have HT := Lib.hid (fun q s x w hx h => tk_any q s x w hx h)
  have HE := Lib.hid (fun st wX => end_any st s.size hs wX)
  have HS := Lib.hid (fun st wX (h : St.ok st) => strS_any st h wX)
  clear hqA hbA
  go_enter Tryd.func9, Tryd.ntmps9
  go_wp2_with fail
  go_loopw [8] (fun i wr => ∃ (k : Nat), k ≤ s.size ∧ i = .int .i64 k ∧ Oth w.heap.size (w.alloc (.cells #[.int .u32 1732584193, .int .u32 4023233417, .int .u32 2562383102, .int .u32 271733878] 45)) wr ∧ wr.heap[w.heap.size]? = some (stO (tks st0 (bytesI s k)))) (fun i _ => s.size - (intOf i).toNat)
  case atStart => exact ⟨0, Nat.zero_le _, rfl, Oth.refl _ _, HQ.out⟩
  case round =>
    obtain ⟨k, hk, rfl, ho, hq⟩ := hrel
    have HO := Lib.hid ho
    have HQ2 := Lib.hid hq
    clear ho hq
    by_cases hlt : k < s.size
    · obtain ⟨ch, hck⟩ : ∃ ch, s[k] = ch := ⟨_, rfl⟩
      have hch := ch.toNat_lt
      have HN := Lib.hid (bytesI_succ (s := s) hlt)
      rw [hck] at HN
      have HC := Lib.hid (HT.out w.heap.size _ (ch.toNat : Int) wr (by omega) HQ2.out)
      go_wp2_with fail
      refine HC.out.mono ?_
      rintro e w2 ⟨rfl, ho2, hq2⟩
      have HO2 := Lib.hid (HO.out.trans ho2)
      have HQ3 := Lib.hid hq2
      clear ho2 hq2
      go_wp2_with fail
      go_roundw
      case rel => exact ⟨k + 1, by omega, by go_num, HO2.out, by rw [HN.out, tks_snoc]; exact HQ3.out⟩
      case measure => simp [intOf]; omega
    · obtain rfl : k = s.size := by omega
      obtain ⟨s1, hs1⟩ : ∃ s1, tks st0 (bytesI s s.size) = s1 := ⟨_, rfl⟩
      have HD := Lib.hid (show digSt s = endS s1 s.size by unfold digSt; rw [hs1])
      rw [hs1] at HQ2
      have HOK := Lib.hid (show (endS s1 s.size).ok by rw [← HD.out]; exact digSt_ok s)
      obtain ⟨⟨x0, x1, x2, x3⟩, -⟩ := st_cells HQ2.out
      have HB3 := Lib.hid (HB.out.trans (HO.out.below (Nat.le_refl _)))
      have HE1 := Lib.hid (HE.out s1 wr)
      have HS1 := Lib.hid (fun wX => HS.out (endS s1 s.size) wX HOK.out)
      unfold stA at HE1 HS1
      clear hs1
      go_wp2_with fail
      refine HE1.out.mono ?_
      rintro e w3 ⟨rfl, hb3⟩
      have HB4 := Lib.hid (HB3.out.trans (hb3.mono HB3.out.size))
      clear hb3
      go_wp2_with fail
      refine (HS1.out _).mono ?_
      rintro e w4 ⟨rfl, hb4⟩
      have HB5 := Lib.hid (HB4.out.trans (hb4.mono HB4.out.size))
      clear hb4
      go_wp2_with fail
      go_ret
      exact ⟨by unfold digS; rw [HD.out]; rfl, HB5.out⟩
set_option maxRecDepth 100000 in
set_option maxHeartbeats 800000 in
theorem awake_any (w : World) : Calls Tryd.prog 5 #[] w fun e w' => e = .returned (.bool true) ∧ Below w.heap.size w w' := by
  have h := digest_any ⟨#[]⟩ (by decide) w
  have hz := digS_size ⟨#[]⟩
  generalize digS ⟨#[]⟩ = d at h hz
  have hne : ¬ d.toList = [] := fun he => by
    rw [ByteArray.toList_eq] at he
    have h1 : d.data.toList.length = d.size := Array.length_toList
    rw [he, hz] at h1
    cases h1
  have HC := Lib.hid h
  clear h hz
  go_enter Tryd.func5, Tryd.ntmps5
  go_wp2_with fail
  refine HC.out.mono ?_
  rintro e w1 ⟨rfl, hb1⟩
  go_wp2_with fail
  go_ret
  exact ⟨by first | rfl | simpa using hne, hb1⟩
end Go.Proofs.YthlkibadiiiohaaDoor
