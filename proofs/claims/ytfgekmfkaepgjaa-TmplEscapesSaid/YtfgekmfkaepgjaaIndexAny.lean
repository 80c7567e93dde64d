/- DERIVED. strings.IndexRune at a rune beyond ASCII in a string of ASCII bytes, and strings.IndexAny of whatever string at ASCII characters. Conditions: two characters or more, fewer than 2^31; the string has fewer than 4294967281 bytes. -/
import Derived.Test.YtfgekmfkaepgjaaShelf
import Derived.Lib.IndexAny
import Derived.Lib.DecodeN
import Derived.Lib.OthersKept
import Derived.Laws.Runes
import Derived.Laws.RangeAny
import Derived.Lib.Hide
import Derived.WalkKit
import Derived.WalkMore
import Derived.WalkSmall
import Derived.WalkSpells
import Derived.BigQuiet
import Derived.Deep.QuietTactic
import Derived.Below
import Derived.ProofKit
namespace Go.Proofs.Ytfgekmfkaepgjaa
set_option linter.unusedVariables false
open Go.RowKit
theorem inBlock_retX (i : Nat) (Q : Exit → Act → World → Prop) (a : Act) (w : World) : Exit.inBlock i Q .ret a w = Q .ret a w := rfl
theorem then_retX (K : Act → World → Prop) (Q : Exit → Act → World → Prop) (a : Act) (w : World) : Exit.then K Q .ret a w = Q .ret a w := rfl
/-- All bytes are ASCII. -/
def AsciiB (s : ByteArray) : Prop := ∀ (j : Nat) b, s.data.toList[j]? = some b → b.toNat < 128
theorem AsciiB.at {s : ByteArray} (h : AsciiB s) {i : Nat} (hi : i < s.size) : (s[i]).toNat < 128 := h i _ (Lib.data_getElem? s i hi)
theorem AsciiB.mem {s : ByteArray} (h : AsciiB s) : ∀ b ∈ s.data.toList, b.toNat < 128 := fun b hb => by
  obtain ⟨i, hi, rfl⟩ := List.getElem_of_mem hb
  exact h i _ (List.getElem?_eq_getElem hi)
theorem indexByte_none {l : List UInt8} {c : UInt8} (h : ∀ b ∈ l, b ≠ c) : Lib.indexByte l c = -1 := by
  induction l with
  | nil => rfl
  | cons b r ih =>
    have h1 := h b List.mem_cons_self
    have h2 := ih (fun x hx => h x (List.mem_cons_of_mem _ hx))
    unfold Lib.indexByte
    rw [h2]
    simp [h1]
set_option maxRecDepth 100000 in
set_option maxHeartbeats 2000000 in
theorem indexRune_high (s : ByteArray) (r : Int) (w : World) (hs : AsciiB s) (hsz : s.size < 2147483648) (h128 : 128 ≤ r) (hr : r ≤ 2147483647) :
    Calls Try.prog 48 #[.string s, .int .i32 r] w fun e w' => e = .returned (.int .i64 (-1)) ∧ Below w.heap.size w w' := by
  have HS := Lib.hid hs; clear hs
  have h0 : ¬ r < 128 := by omega
  have h1 : 0 ≤ r := by omega
  by_cases h3 : r = 65533
  · subst h3
    go_enter Try.func48, Try.ntmps48
    go_wp2_with fail
    go_loopg [5, 6] s.size (fun g _ _ wx => ∃ i : Nat, i + g = s.size ∧ wx = w.iter s i)
    case atStart => exact ⟨0, by omega, rfl⟩
    case round =>
      obtain ⟨i, hig, rfl⟩ := hrel
      cases gk with
      | zero =>
        obtain rfl : i = s.size := by omega
        have hnx := run_next_end (P := Try.prog) w s s.size
        go_wp2_with fail
        go_ret
        exact ⟨rfl, (Below.refl _ _).alloc (Nat.le_refl _) _⟩
      | succ g =>
        have hi : i < s.size := by omega
        have hx128 := HS.out.at hi
        have hnx := fun ty => run_next_ascii (P := Try.prog) w s i ty hi hx128
        have hz : (((s[i]'hi).toNat : Int) == 65533) = false := beq_eq_false_iff_ne.2 (by omega)
        generalize (s[i]'hi).toNat = x at hnx hz hx128
        go_wp2_with fail
        go_roundg g
        case measure => omega
        case rel => exact ⟨i + 1, by omega, rfl⟩
  have z3 : (r == 65533) = false := by simpa using h3
  cases hv : Lib.validRune r with
  | false =>
    have HV := Lib.hid (fun wX => Try.utf8_ValidRune r wX)
    rw [hv] at HV
    go_enter Try.func48, Try.ntmps48
    go_wp2_with fail
    refine (HV.out _).mono ?_
    rintro e w1 ⟨rfl, hw⟩
    rw [hw]
    clear hw w1
    dsimp only
    go_wp2_with fail
    go_ret
    exact ⟨rfl, Below.refl _ _⟩
  | true =>
    have HV := Lib.hid (fun wX => Try.utf8_ValidRune r wX)
    rw [hv] at HV
    have hv2 : Utf8.valid r = true := by rw [validRune_eq]; exact hv
    obtain ⟨e1, e2, e3⟩ := encode_facts r hv2 h128
    have hcv := fun wX => run_convert_int_string (P := Try.prog) wX 21 9 .i32 r (by rw [Try.underlying21]; rfl) Try.underlying9
    generalize Utf8.encode r = enc at e1 e2 e3 hcv
    obtain ⟨en, hen⟩ : ∃ en : Nat, enc.size = en + 1 := ⟨enc.size - 1, by omega⟩
    have hei : (enc.size : Int) - 1 = (en : Int) := by omega
    have hlt2 : en < enc.size := by omega
    have hc128 : 128 ≤ (enc[en]'hlt2).toNat := by
      have := e3 (by omega)
      have e : enc.size - 1 = en := by omega
      simp only [e] at this
      exact this
    obtain ⟨c, hc⟩ : ∃ c : UInt8, enc[en]'hlt2 = c := ⟨_, rfl⟩
    rw [hc] at hc128
    have hen3 : en ≤ 3 := by omega
    have HC := Lib.hid hc
    have HEN := Lib.hid hen
    clear e1 e2 e3 hen hv hv2
    have hno : Lib.indexByte (s.extract (en + 1) s.size).data.toList c = -1 := indexByte_none (fun b hb hbc => by
      have := HS.out.mem b (mem_extract hb)
      rw [hbc] at this
      omega)
    have HI := Lib.hid (fun wX => Try.strings_IndexByte (s.extract (en + 1) s.size) c.toNat wX)
    have hback : ((c.toNat : Int)).toNat.toUInt8 = c := by simp
    rw [hback, hno] at HI
    clear hback hno
    by_cases hlt : en < s.size
    · have hx128 := HS.out.at hlt
      obtain ⟨x, hx⟩ : ∃ x : UInt8, s[en]'hlt = x := ⟨_, rfl⟩
      rw [hx] at hx128
      have hne : ((x.toNat : Int) != (c.toNat : Int)) = true := by simp; omega
      have hsum : IntKind.i64.wrap ((en : Int) + 1) = (en : Int) + 1 := wrap_small _ (by omega) (by omega)
      go_enter Try.func48, Try.ntmps48
      go_wp2_with fail
      refine (HV.out _).mono ?_
      rintro e w1 ⟨rfl, hw⟩
      rw [hw]
      clear hw w1
      dsimp only
      go_wp2_with fail
      go_step3
      go_wp2_with fail
      go_loopg [9, 10] 1 (fun g i f wx => g = 1 ∧ i = .int .i64 en ∧ f = .int .i64 0 ∧ wx = w)
      case atStart => exact ⟨rfl, rfl, rfl, rfl⟩
      case round =>
        obtain ⟨rfl, rfl, rfl, rfl⟩ := hrel
        go_wp2_with fail
        go_step3
        go_wp2_with fail
        go_quiet (fail)
        have hbq : Below wr.heap.size wr (wr.drewN nq) := below_drewN (Below.refl _ _) _
        generalize wr.drewN nq = wq at *
        go_wp2_with fail
        have q1 : 0 ≤ (en : Int) + 1 := by omega
        have q2 : (en : Int) + 1 ≤ (s.size : Int) := by omega
        have q3 : ((en : Int) + 1).toNat = en + 1 := by omega
        go_quiet ((go_at_call 17; exact Calls.quiet_of_same (HI.out _)))
        go_wp2_with fail
        simp only [Exit.noGoto_ret, inBlock_retX, then_retX]
        go_ret
        exact ⟨rfl, below_drewN hbq _⟩
    · go_enter Try.func48, Try.ntmps48
      go_wp2_with fail
      refine (HV.out _).mono ?_
      rintro e w1 ⟨rfl, hw⟩
      rw [hw]
      clear hw w1
      dsimp only
      go_wp2_with fail
      go_step3
      go_wp2_with fail
      go_loopg [9, 10] 1 (fun g i f wx => g = 1 ∧ i = .int .i64 en ∧ f = .int .i64 0 ∧ wx = w)
      case atStart => exact ⟨rfl, rfl, rfl, rfl⟩
      case round =>
        obtain ⟨rfl, rfl, rfl, rfl⟩ := hrel
        go_wp2_with fail
        rw [Exit.noGoto_ret]
        go_ret
        exact ⟨rfl, Below.refl _ _⟩
theorem decodeN_wide (n b0 b1 b2 b3 : Nat) : (Lib.decodeN n b0 b1 b2 b3).2 = 1 ∨ ((Lib.decodeN n b0 b1 b2 b3).2 = 2 ∧ 1 < n ∧ b1 / 64 = 2) ∨ ((Lib.decodeN n b0 b1 b2 b3).2 = 3 ∧ 1 < n ∧ b1 / 64 = 2 ∧ 2 < n ∧ b2 / 64 = 2) ∨
    ((Lib.decodeN n b0 b1 b2 b3).2 = 4 ∧ 1 < n ∧ b1 / 64 = 2 ∧ 2 < n ∧ b2 / 64 = 2 ∧ 3 < n ∧ b3 / 64 = 2) := by
  unfold Lib.decodeN
  repeat' split
  all_goals first | (left; rfl) | (right; left; exact ⟨rfl, by omega, by omega⟩) | (right; right; left; exact ⟨rfl, by omega, by omega, by omega, by omega⟩) | (right; right; right; exact ⟨rfl, by omega, by omega, by omega, by omega, by omega, by omega⟩)
/-- What a rune beyond ASCII takes up holds no ASCII byte. -/
theorem decode_span (s : ByteArray) (i : Nat) (hi : i < s.size) (h128 : 128 ≤ (s[i]'hi).toNat) : i + (Utf8.decode s i).2 ≤ s.size ∧ ∀ (j : Nat) b, i ≤ j → j < i + (Utf8.decode s i).2 → s.data.toList[j]? = some b → 128 ≤ b.toNat := by
  have hd := Lib.decode_at s i
  have hw := decodeN_wide (s.size - i) (s.get! i).toNat (s.get! (i + 1)).toNat (s.get! (i + 2)).toNat (s.get! (i + 3)).toNat
  rw [← hd] at hw
  have key : ∀ (j : Nat) b, s.data.toList[j]? = some b → s.get! j = b := fun j b hj => by
    have hjs : j < s.size := by
      have := (List.getElem?_eq_some_iff.1 hj).1
      simpa using this
    have h2 := Lib.data_getElem? s j hjs
    rw [hj] at h2
    have h3 : b = s[j] := Option.some.inj h2
    rw [h3]
    have := get_at s j hjs
    simpa using this
  have h0 : 128 ≤ (s.get! i).toNat := by
    have := get_at s i hi
    rw [Nat.add_zero] at this
    rw [this]; exact h128
  refine ⟨by rcases hw with h | ⟨h, h1, _⟩ | ⟨h, _, _, h1, _⟩ | ⟨h, _, _, _, _, h1, _⟩ <;> omega, fun j b h1 h2 hj => ?_⟩
  have hk := key j b hj
  rw [← hk]
  have hj4 : j = i ∨ j = i + 1 ∨ j = i + 2 ∨ j = i + 3 := by rcases hw with h | ⟨h, _⟩ | ⟨h, _⟩ | ⟨h, _⟩ <;> omega
  rcases hj4 with rfl | rfl | rfl | rfl
  · exact h0
  · rcases hw with h | ⟨h, g⟩ | ⟨h, g⟩ | ⟨h, g⟩ <;> omega
  · rcases hw with h | ⟨h, g⟩ | ⟨h, g⟩ | ⟨h, g⟩ <;> omega
  · rcases hw with h | ⟨h, g⟩ | ⟨h, g⟩ | ⟨h, g⟩ <;> omega
theorem contains_high {l : List UInt8} {c : UInt8} (h : ∀ b ∈ l, b.toNat < 128) (hc : 128 ≤ c.toNat) : l.contains c = false := by
  rw [List.contains_eq_any_beq, List.any_eq_false]
  intro b hb
  have := h b hb
  simp only [beq_iff_eq]
  rintro rfl
  omega
theorem noAny_wide {s chars : ByteArray} {i : Nat} (hA : AsciiB chars) (h : Lib.NoAny s.data.toList chars.data.toList i) (hi : i < s.size) (h128 : 128 ≤ (s[i]'hi).toNat) : Lib.NoAny s.data.toList chars.data.toList (i + (Utf8.decode s i).2) := fun j b hj hb => by
  by_cases hji : j < i
  · exact h j b hji hb
  · exact contains_high hA.mem ((decode_span s i hi h128).2 j b (by omega) hj hb)
set_option maxRecDepth 100000 in
set_option maxHeartbeats 2000000 in
theorem indexAny_any (s chars : ByteArray) (w : World) (h2 : 2 ≤ chars.size) (hcs : chars.size < 1000) (hs : s.size < 4294967281) (hA : AsciiB chars) :
    Calls Try.prog 38 #[.string s, .string chars] w fun e w' => e = .returned (.int .i64 (Lib.indexAny s.data.toList chars.data.toList)) ∧ Below w.heap.size w w' := by
  by_cases h8 : 8 < s.size
  · refine (Try.strings_IndexAny_long (fun w => by kernel_rfl) s chars w h2 h8 hs (by omega) hA).mono ?_
    rintro e w1 ⟨rfl, rfl⟩
    exact ⟨rfl, ((Below.refl _ _).alloc (Nat.le_refl _) _).alloc (by simp) _⟩
  have hemp : chars.toList.isEmpty = false := by
    rw [Lib.toList_data]
    cases h : chars.data.toList with
    | nil => have := Lib.size_eq chars; rw [h, List.length_nil] at this; omega
    | cons _ _ => rfl
  have hn1 : ((chars.size : Int) == 1) = false := beq_eq_false_iff_ne.2 (by omega)
  have h8z : decide ((8 : Int) < (s.size : Int)) = false := decide_eq_false (by omega)
  have HA := Lib.hid hA; clear hA
  have HU := Lib.hid (fun wX => Try.strings_shouldUseASCIISet (s.size : Int) wX)
  rw [h8z] at HU
  clear h8z
  have hb0 : Below w.heap.size w (w.iter s 0) := (Below.refl _ _).alloc (Nat.le_refl _) _
  have hi0 := World.iter_heap w s 0
  have HB0 := Lib.hid hb0
  have HI0 := Lib.hid hi0
  clear hb0 hi0
  go_enter Try.func38, Try.ntmps38
  go_wp2_with fail
  refine (HU.out _).mono ?_
  rintro e w1 ⟨rfl, hw⟩
  rw [hw]
  clear hw w1
  dsimp only
  go_wp2_with fail
  go_loopg [9, 10] s.size (fun g _ _ wx => ∃ i : Nat, i + g = s.size ∧ wx.heap[w.heap.size]? = some (.stringIter s i) ∧ Below w.heap.size w wx ∧ Lib.NoAny s.data.toList chars.data.toList i)
  case atStart => exact ⟨0, by omega, HI0.out, HB0.out, Lib.NoAny.zero _ _⟩
  case round =>
    obtain ⟨i, hig, hit, hbw, hno⟩ := hrel
    have HN := Lib.hid hno; clear hno
    have HBW := Lib.hid hbw; clear hbw
    have hsz : w.heap.size < wr.heap.size := (Array.getElem?_eq_some_iff.1 hit).1
    by_cases hend : gk = 0
    · subst hend
      obtain rfl : i = s.size := by omega
      have HIT := Lib.hid hit; clear hit
      have hnx := fun ty => Lib.run_next_end_at (P := Try.prog) wr w.heap.size s s.size ty HIT.out (by omega)
      go_wp2_with fail
      go_ret
      exact ⟨by rw [Lib.indexAny_none (by rw [← Lib.size_eq]; exact HN.out)]; rfl, HBW.out⟩
    · have hi : i < s.size := by omega
      obtain ⟨x, hx⟩ : ∃ x : UInt8, s[i]'hi = x := ⟨_, rfl⟩
      have hxl : s.data.toList[i]? = some x := by rw [← hx]; exact Lib.data_getElem? s i hi
      by_cases hx128 : x.toNat < 128
      · have hnx := fun ty => Lib.run_next_ascii_at (P := Try.prog) wr w.heap.size s i ty hit hi (by rw [hx]; exact hx128)
        rw [hx] at hnx
        have hh := Lib.iterAt_heap wr w.heap.size s i (i + 1) hit
        have hb := Lib.below_iterAt HBW.out (Nat.le_refl _) s (i + 1)
        generalize wr.iterAt w.heap.size s (i + 1) = wn at hnx hh hb
        have HH := Lib.hid hh
        have HB := Lib.hid hb
        have HXL := Lib.hid hxl
        have HIT := Lib.hid hit
        have hcon := Lib.contains_iff_indexByte chars.data.toList x
        have hback : ((x.toNat : Int)).toNat.toUInt8 = x := by simp
        have HR := Lib.hid (fun wX => Try.strings_IndexRune_ascii chars (x.toNat : Int) wX (by omega) (by omega))
        rw [hback] at HR
        clear hback hh hb hxl hit hx
        cases hin : chars.data.toList.contains x
        · rw [hin] at hcon
          have hlt : ¬ ((0 : Int) ≤ Lib.indexByte chars.data.toList x) := of_decide_eq_false hcon.symm
          clear hcon
          go_wp2_with fail
          refine (HR.out _).mono ?_
          rintro e w2 ⟨rfl, hw⟩
          rw [hw]
          clear hw w2
          dsimp only
          go_wp2_with fail
          go_roundg (s.size - (i + 1))
          case measure => omega
          case rel => exact ⟨i + 1, by omega, HH.out, HB.out, HN.out.succ HXL.out hin⟩
        · rw [hin] at hcon
          have hge : (0 : Int) ≤ Lib.indexByte chars.data.toList x := of_decide_eq_true hcon.symm
          clear hcon
          go_wp2_with fail
          refine (HR.out _).mono ?_
          rintro e w2 ⟨rfl, hw⟩
          rw [hw]
          clear hw w2
          dsimp only
          go_wp2_with fail
          go_ret
          exact ⟨by rw [Lib.indexAny_hit HN.out HXL.out hin]; rfl, HB.out⟩
      · have hx2 : 128 ≤ (s[i]'hi).toNat := by rw [hx]; omega
        have hnx := fun ty => Lib.run_next_any_at (P := Try.prog) wr w.heap.size s i ty hit hi
        obtain ⟨d1, d2⟩ := decode_high s i hi hx2
        have d3 := decode_le s i
        have d4 := (decode_span s i hi hx2).1
        have d5 := noAny_wide HA.out HN.out hi hx2
        have hh := Lib.iterAt_heap wr w.heap.size s i (i + (Utf8.decode s i).2) hit
        have hb := Lib.below_iterAt HBW.out (Nat.le_refl _) s (i + (Utf8.decode s i).2)
        have hsn := Lib.iterAt_size wr w.heap.size s (i + (Utf8.decode s i).2)
        generalize wr.iterAt w.heap.size s (i + (Utf8.decode s i).2) = wn at hnx hh hb hsn
        generalize (Utf8.decode s i).2 = wd at d2 d4 d5 hh
        obtain ⟨r, hr⟩ : ∃ r : Int, ((Utf8.decode s i).1 : Int) = r := ⟨_, rfl⟩
        rw [hr] at hnx
        have r1 : 128 ≤ r := by omega
        have r2 : r ≤ 2147483647 := by omega
        clear hr d1 d3
        have HH := Lib.hid hh
        have HB := Lib.hid hb
        have HD5 := Lib.hid d5
        have HIT := Lib.hid hit
        have hsz2 : w.heap.size < wn.heap.size := (Array.getElem?_eq_some_iff.1 hh).1
        have HR := Lib.hid (fun wX => indexRune_high chars r wX HA.out (by omega) r1 r2)
        clear hh hb d5 hxl hit hx hsn hx2
        go_wp2_with fail
        refine (HR.out _).mono ?_
        rintro e w2 ⟨rfl, hb2⟩
        have HH2 := Lib.hid ((hb2.block _ hsz2).trans HH.out)
        have HB2 := Lib.hid (HB.out.trans (hb2.mono (by omega)))
        clear hb2
        go_wp2_with fail
        go_roundg (s.size - (i + wd))
        case measure => omega
        case rel => exact ⟨i + wd, by omega, HH2.out, HB2.out, HD5.out⟩
end Go.Proofs.Ytfgekmfkaepgjaa
