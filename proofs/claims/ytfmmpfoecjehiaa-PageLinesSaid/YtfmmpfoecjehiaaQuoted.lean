/- DERIVED. What readQuoted of package page returns. Condition: strings of at most 20000 bytes. -/
import Derived.Test.YtfmmpfoecjehiaaNames
import Derived.Test.YtfmmpfoecjehiaaBuilder
import Derived.Deep.RegionHeld3
namespace Go.Proofs.Ytfmmpfoecjehiaa
set_option linter.unusedVariables false
open Go.RowKit
abbrev bs (l : L8) : ByteArray := ⟨l.toArray⟩
theorem bs_bl (s : ByteArray) : bs (bl s) = s := rfl
theorem bl_bs (l : L8) : bl (bs l) = l := by simp
theorem bs_size (l : L8) : (bs l).size = l.length := by show l.toArray.size = _; simp
theorem ext_bs (s : ByteArray) (k : Nat) : s.extract k s.size = bs ((bl s).drop k) := by
  apply ByteArray.ext
  apply Array.toList_inj.1
  rw [Lib.extract_to_end]
theorem ext0_bs (s : ByteArray) (k : Nat) : s.extract 0 k = bs ((bl s).take k) := by
  apply ByteArray.ext
  apply Array.toList_inj.1
  rw [Lib.extract_data]
  simp
theorem qd_low {c : UInt8} {r : L8} (h : c.toNat < 32) : qd (c :: r) = none := by
  cases r with
  | nil => unfold qd; rw [if_neg (by omega)]
  | cons d t => unfold qd; rw [if_pos h]
theorem qd_end {c : UInt8} {r : L8} (h : c.toNat = 34) : qd (c :: r) = some ([], r) := by
  cases r with
  | nil => unfold qd; rw [if_pos h]
  | cons d t => unfold qd; rw [if_neg (by omega), if_pos h]
theorem qd_esc0 {c : UInt8} (h : c.toNat = 92) : qd [c] = none := by unfold qd; rw [if_neg (by omega)]
theorem qd_esc {c d : UInt8} {r : L8} (h : c.toNat = 92) (hd : d.toNat = 34 ∨ d.toNat = 92) : qd (c :: d :: r) = (qd r).map fun x => (d :: x.1, x.2) := by
  conv => lhs; unfold qd
  rw [if_neg (by omega), if_neg (by omega), if_pos h, if_pos hd]
theorem qd_bad {c d : UInt8} {r : L8} (h : c.toNat = 92) (hd : ¬ (d.toNat = 34 ∨ d.toNat = 92)) : qd (c :: d :: r) = none := by
  conv => lhs; unfold qd
  rw [if_neg (by omega), if_neg (by omega), if_pos h, if_neg hd]
theorem qd_else {c : UInt8} {r : L8} (h1 : ¬ c.toNat < 32) (h2 : c.toNat ≠ 34) (h3 : c.toNat ≠ 92) : qd (c :: r) = (qd r).map fun x => (c :: x.1, x.2) := by
  cases r with
  | nil => unfold qd; rw [if_neg h2]; rfl
  | cons d t =>
    conv => lhs; unfold qd
    rw [if_neg h1, if_neg h2, if_neg h3]
def qdV : Option (L8 × L8) → Value
  | some x => .tuple #[.string (bs x.1), .string (bs x.2), .bool true]
  | none => .tuple #[.string ⟨#[]⟩, .string ⟨#[]⟩, .bool false]
/-- What has been read so far, and what is to be read. -/
def QInv (s : ByteArray) (k : Nat) (acc : L8) : Prop := qd (bl s) = (qd ((bl s).drop k)).map fun x => (acc ++ x.1, x.2)
theorem QInv.none {s : ByteArray} {k : Nat} {acc : L8} (h : QInv s k acc) (hn : qd ((bl s).drop k) = none) : qdV (qd (bl s)) = qdV none := by rw [h, hn]; rfl
theorem QInv.some {s : ByteArray} {k : Nat} {acc r : L8} (h : QInv s k acc) (hn : qd ((bl s).drop k) = some ([], r)) : qdV (qd (bl s)) = .tuple #[.string (bs acc), .string (bs r), .bool true] := by rw [h, hn]; simp [qdV]
theorem QInv.step {s : ByteArray} {k k' : Nat} {acc : L8} {c : UInt8} (h : QInv s k acc) (hn : qd ((bl s).drop k) = (qd ((bl s).drop k')).map fun x => (c :: x.1, x.2)) : QInv s k' (acc ++ [c]) := by
  unfold QInv
  rw [h, hn, Option.map_map]
  congr 1
  funext x
  simp
theorem ret_tup {a b : Value} (h : a = b) : Ending.returned b = .returned a := by rw [h]
theorem bc_snoc (l : L8) (c : UInt8) : Lib.byteCells l ++ [.int .u8 (c.toNat : Int)] = Lib.byteCells (l ++ [c]) := by
  rw [Lib.byteCells_append]; rfl
theorem bd_snoc {B b : Nat} {acc : L8} {c : UInt8} {w : World} (h : Lib.IsBuilderF 92 5 B b (Lib.byteCells acc ++ [.int .u8 (c.toNat : Int)]) w) : Bd B b (acc ++ [c]) w := by
  show Lib.IsBuilderF _ _ _ _ (Lib.byteCells (acc ++ [c])) w
  rw [← bc_snoc]
  exact h
set_option linter.unusedSimpArgs false
set_option maxRecDepth 100000 in
set_option maxHeartbeats 2000000 in
theorem readQuoted_any (s : ByteArray) (w : World) (hs : s.size ≤ 20000) :
    Calls Try.prog 64 #[.string s] w fun e w' => e = .returned (qdV (qd (bl s))) ∧ Below w.heap.size w w' := by
  go_enter Try.func64, Try.ntmps64
  go_wp2_with fail
  go_loopw [6] (fun i wr => ∃ (k : Nat) (acc : L8), k ≤ s.size ∧ i = .int .i64 k ∧ QInv s k acc ∧ acc.length ≤ k ∧ Bd w.heap.size w.heap.size acc wr ∧ Below w.heap.size w wr) (fun i _ => s.size - (intOf i).toNat)
  case atStart => exact ⟨0, [], Nat.zero_le _, rfl, by unfold QInv; simp, Nat.le_refl _, Lib.IsBuilderF.of (Lib.fresh_isBuilder 92 5 w), (Below.refl _ _).alloc (Nat.le_refl _) _⟩
  case round =>
    obtain ⟨k, acc, hk, rfl, hq, hal, hbd, hbw⟩ := hrel
    have hw := hbw.size
    have HQ := Lib.hid hq; clear hq
    have HBD := Lib.hid hbd; clear hbd
    by_cases hlt : k < s.size
    · obtain ⟨c, hck⟩ : ∃ c, s[k] = c := ⟨_, rfl⟩
      have hdr := bl_drop hlt
      rw [hck] at hdr
      have HD := Lib.hid hdr; clear hdr
      have room : (Lib.byteCells acc).length + 1 ≤ 140737488355328 := by rw [Lib.byteCells_length]; omega
      have HR := Lib.hid room; clear room
      by_cases h32 : (32 : Int) ≤ (c.toNat : Int)
      · by_cases h34 : (c.toNat : Int) = 34
        · have e34 : ((c.toNat : Int) == 34) = true := by simpa using h34
          have HV := Lib.hid (HQ.out.some (r := (bl s).drop (k + 1)) (by rw [HD.out]; exact qd_end (by omega)))
          have hx := ext_bs s (k + 1)
          have w1 : IntKind.i64.wrap ((k : Int) + 1) = (k : Int) + 1 := IntWalk.i64_in _ (by omega)
          have w2 : (0 : Int) ≤ (k : Int) + 1 := by omega
          have w3 : ((k : Int) + 1).toNat = k + 1 := by omega
          have w4 : (k : Int) + 1 ≤ (s.size : Int) := by omega
          have HS := Lib.hid (fun wX (hX : Bd w.heap.size w.heap.size acc wX ∧ Below w.heap.size w wX) => (Try.Builder_String_any_k w.heap.size w.heap.size acc wX hX.1 hX.2.size).mono (fun e w' h => (⟨h.1, h.2.1, hX.2.trans h.2.2.1⟩ : _ ∧ Bd w.heap.size w.heap.size acc w' ∧ Below w.heap.size w w')))
          have hbdd : Bd w.heap.size w.heap.size acc wr.drew := HBD.out
          have hbwd := hbw.drew
          clear h34
          go_wp2_with fail
          go_region_held3 (fun w' => Bd w.heap.size w.heap.size acc w' ∧ Below w.heap.size w w')
            (first | exact ⟨hbdd, hbwd⟩ | exact ⟨z0, z1⟩)
            (first | (go_at_call 73; with_reducible refine Calls.mono (HS.out _ (by first | exact ⟨hbdd, hbwd⟩ | exact ⟨z0, z1⟩)) ?_; rintro e w3 ⟨rfl, z0, z1⟩))
          all_goals
            go_wp2_with fail
            refine bodyPost_ret (v := .tuple #[.string (bs acc), .string (bs ((bl s).drop (k + 1))), .bool true]) (by simp [results, Try.results64, go_sem, hx]) rfl ⟨ret_tup HV.out, z1⟩
        · have e34 : ((c.toNat : Int) == 34) = false := by simpa using h34
          by_cases h92 : (c.toNat : Int) = 92
          · have e92 : ((c.toNat : Int) == 92) = true := by simpa using h92
            by_cases hend : k + 1 < s.size
            · obtain ⟨d, hdk⟩ : ∃ d, s[k + 1] = d := ⟨_, rfl⟩
              have hdr2 := bl_drop hend
              rw [hdk] at hdr2
              have hne : ((k : Int) + 1 == (s.size : Int)) = false := by simp; omega
              by_cases hd : (d.toNat : Int) = 34 ∨ (d.toNat : Int) = 92
              · have HS := Lib.hid (HQ.out.step (k' := k + 1 + 1) (c := d) (by rw [HD.out, hdr2]; exact qd_esc (by omega) (by omega)))
                clear h34 h92 hdr2
                rcases hd with hd | hd
                · have f1 : ((d.toNat : Int) == 34) = true := by simpa using hd
                  have f2 : ((d.toNat : Int) != 34) = false := by simpa using hd
                  have HDD := Lib.hid hd; clear hd
                  go_wp2_with (go_at_call 74; refine (writeByte_any w.heap.size w.heap.size (Lib.byteCells acc) _ _ HBD.out HR.out hw).mono ?_; rintro e w3 ⟨rfl, hb3, hbel3⟩)
                  go_roundw
                  case rel => exact ⟨k + 1 + 1, acc ++ [d], by omega, by go_num, HS.out, by simp; omega, bd_snoc hb3, hbw.trans hbel3⟩
                  case measure => simp [intOf]; omega
                · have f1 : ((d.toNat : Int) == 92) = true := by simpa using hd
                  have f2 : ((d.toNat : Int) != 92) = false := by simpa using hd
                  have f3 : ((d.toNat : Int) == 34) = false := by simp; omega
                  have f4 : ((d.toNat : Int) != 34) = true := by simp; omega
                  have HDD := Lib.hid hd; clear hd
                  go_wp2_with (go_at_call 74; refine (writeByte_any w.heap.size w.heap.size (Lib.byteCells acc) _ _ HBD.out HR.out hw).mono ?_; rintro e w3 ⟨rfl, hb3, hbel3⟩)
                  go_roundw
                  case rel => exact ⟨k + 1 + 1, acc ++ [d], by omega, by go_num, HS.out, by simp; omega, bd_snoc hb3, hbw.trans hbel3⟩
                  case measure => simp [intOf]; omega
              · have HV := Lib.hid (HQ.out.none (by rw [HD.out, hdr2]; exact qd_bad (by omega) (by omega)))
                have f1 : ((d.toNat : Int) == 92) = false := by simp; omega
                have f2 : ((d.toNat : Int) != 92) = true := by simp; omega
                have f3 : ((d.toNat : Int) == 34) = false := by simp; omega
                have f4 : ((d.toNat : Int) != 34) = true := by simp; omega
                clear h34 h92 hdr2 hd
                go_wp2_with fail
                refine bodyPost_ret (v := qdV none) (by simp [results, Try.results64, go_sem, qdV]) rfl ⟨ret_tup HV.out, hbw⟩
            · have hke : k + 1 = s.size := by omega
              have HV := Lib.hid (HQ.out.none (by rw [HD.out, List.drop_eq_nil_of_le (by rw [bl_len]; omega)]; exact qd_esc0 (by omega)))
              have heq : ((k : Int) + 1 == (s.size : Int)) = true := by simp; omega
              clear h34 h92 hke
              go_wp2_with fail
              refine bodyPost_ret (v := qdV none) (by simp [results, Try.results64, go_sem, qdV]) rfl ⟨ret_tup HV.out, hbw⟩
          · have e92 : ((c.toNat : Int) == 92) = false := by simpa using h92
            have HS := Lib.hid (HQ.out.step (k' := k + 1) (c := c) (by rw [HD.out]; exact qd_else (by omega) (by omega) (by omega)))
            clear h34 h92
            go_wp2_with (go_at_call 74; refine (writeByte_any w.heap.size w.heap.size (Lib.byteCells acc) _ _ HBD.out HR.out hw).mono ?_; rintro e w3 ⟨rfl, hb3, hbel3⟩)
            go_roundw
            case rel => exact ⟨k + 1, acc ++ [c], by omega, by go_num, HS.out, by simp; omega, bd_snoc hb3, hbw.trans hbel3⟩
            case measure => simp [intOf]; omega
      · have HV := Lib.hid (HQ.out.none (by rw [HD.out]; exact qd_low (by omega)))
        go_wp2_with fail
        refine bodyPost_ret (v := qdV none) (by simp [results, Try.results64, go_sem, qdV]) rfl ⟨ret_tup HV.out, hbw⟩
    · have HV := Lib.hid (HQ.out.none (by rw [List.drop_eq_nil_of_le (by rw [bl_len]; omega)]; rfl))
      go_wp2_with fail
      refine bodyPost_ret (v := qdV none) (by simp [results, Try.results64, go_sem, qdV]) rfl ⟨ret_tup HV.out, hbw⟩
end Go.Proofs.Ytfmmpfoecjehiaa
