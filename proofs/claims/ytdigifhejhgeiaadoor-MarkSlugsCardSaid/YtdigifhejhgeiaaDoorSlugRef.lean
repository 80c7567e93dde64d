/- DERIVED. What the reference's SlugOf returns, and its lower at one byte. Condition: at most 200000 bytes. -/
import Derived.Test.YtdigifhejhgeiaaDoorSlugPlain
import Derived.Test.YtdigifhejhgeiaaDoorProg
import Derived.Test.YtdigifhejhgeiaaDoorShelf
import Derived.Lib.Hide
import Derived.ProofKit
import Derived.Below
import Derived.Laws.IdiomStrings
import Derived.BigQuiet
import Derived.Deep.QuietTactic
import Derived.WalkSmall
import Derived.WalkSpells
import Derived.WalkLawsBesides
import Derived.Deep.Cut
import Derived.Deep.CutRange
namespace Go.Proofs.YtdigifhejhgeiaaDoor
set_option linter.unusedVariables false
open Go.RowKit
theorem upc_int {c : UInt8} (h1 : 65 ≤ (c.toNat : Int)) (h2 : (c.toNat : Int) ≤ 90) : ((upc c).toNat : Int) = c.toNat + 32 := by
  unfold upc
  rw [if_pos (by omega), UInt8.toNat_ofNat_of_lt' (by unfold UInt8.size; omega)]
  omega
theorem upc_same {c : UInt8} (h : ¬ (65 ≤ (c.toNat : Int) ∧ (c.toNat : Int) ≤ 90)) : upc c = c := by
  unfold upc
  rw [if_neg (by omega)]
set_option maxRecDepth 100000 in
set_option maxHeartbeats 800000 in
theorem lower_one (c : UInt8) (w : World) :
    Calls Tryd.prog 8 #[.string ⟨#[c]⟩] w fun e w' => e = .returned (.string ⟨#[upc c]⟩) ∧ Below w.heap.size w w' := by
  have hcv := run_bytes_of_string (P := Tryd.prog) w 9 24 5 ⟨#[c]⟩ Tryd.underlying9 Tryd.underlying24 Tryd.underlying5
  have hsz : (ByteArray.mk #[c]).size = 1 := rfl
  obtain ⟨row, hrow⟩ : ∃ row, bytesRow ⟨#[c]⟩ (grownCap w (ByteArray.mk #[c]).size 0 5) = row := ⟨_, rfl⟩
  have hr0 : row[0]? = some (.int .u8 c.toNat) := by rw [← hrow]; unfold bytesRow; rw [Array.getElem?_append_left (by simp)]; simp
  have hr1 : 0 < row.size := by rw [← hrow]; simp [bytesRow]; omega
  rw [hrow, hsz] at hcv
  generalize grownCap w 1 0 5 = cap at hcv
  clear hrow hsz
  have hb1 : Below w.heap.size w (w.drew.alloc (.cells row 5 (row.size, row.size + 1))) := (Below.refl _ _).drew.alloc (Nat.le_refl _) _
  have e1 : (w.drew.alloc (.cells row 5 (row.size, row.size + 1))).heap[w.heap.size]? = some (.cells row 5 (row.size, row.size + 1)) := heap_alloc_new w.drew _
  generalize w.drew.alloc (.cells row 5 (row.size, row.size + 1)) = w1 at hcv hb1 e1
  have c0 : w1.cell? ⟨w.heap.size, 0, none⟩ = some (.int .u8 c.toNat) := by rw [cell_of_row _ _ _ _ _ _ e1]; exact hr0
  have f0 : w1.frozen? ⟨w.heap.size, 0, none⟩ = false := by
    unfold World.frozen?
    simp only [e1]
    show (decide (row.size ≤ 0) && decide (0 < row.size + 1)) = false
    rw [decide_eq_false (by omega)]
    rfl
  clear e1 hr0 hr1
  have HB := Lib.hid hb1; clear hb1
  go_enter Tryd.func8, Tryd.ntmps8
  go_wp2_with fail
  go_loopw [10] (fun i wr => ∃ j : Nat, j ≤ 1 ∧ i = .int .i64 j ∧ wr.cell? ⟨w.heap.size, 0, none⟩ = some (.int .u8 (if j = 0 then c else upc c).toNat) ∧ wr.frozen? ⟨w.heap.size, 0, none⟩ = false ∧ Below w.heap.size w wr) (fun i _ => 1 - (intOf i).toNat)
  case atStart => exact ⟨0, by omega, rfl, c0, f0, HB.out⟩
  case round =>
    clear c0 f0 hcv HB
    obtain ⟨j, hj, rfl, c0, f0, hb⟩ := hrel
    have HBW := Lib.hid hb; clear hb
    by_cases h0 : j = 0
    · subst h0
      rw [if_pos rfl] at c0
      by_cases h1 : 65 ≤ (c.toNat : Int)
      · by_cases h2 : (c.toNat : Int) ≤ 90
        · have hu := Lib.hid (upc_int h1 h2)
          go_wp2_with fail
          go_roundw
          case rel =>
            refine ⟨1, by omega, by go_num, ?_, by simpa using f0, HBW.out.setCell (p := ⟨w.heap.size, 0, none⟩) (Nat.le_refl _) _⟩
            rw [if_neg (by omega), hu.out]
            exact World.cell?_setCell_same _ _ _ c0
          case measure => simp [intOf]
        · have hu := Lib.hid (upc_same (c := c) (fun h => h2 h.2))
          go_wp2_with fail
          go_roundw
          case rel => exact ⟨1, by omega, by go_num, by rw [if_neg (by omega), hu.out]; exact c0, f0, HBW.out⟩
          case measure => simp [intOf]
      · have hu := Lib.hid (upc_same (c := c) (fun h => h1 h.1))
        go_wp2_with fail
        go_roundw
        case rel => exact ⟨1, by omega, by go_num, by rw [if_neg (by omega), hu.out]; exact c0, f0, HBW.out⟩
        case measure => simp [intOf]
    · obtain rfl : j = 1 := by omega
      rw [if_neg (by omega)] at c0
      have hback := run_convert_bytes_back (P := Tryd.prog) wr 24 9 5 ⟨w.heap.size, 0, none⟩ cap [upc c] Tryd.underlying24 Tryd.underlying5 Tryd.underlying9 (fun j hj => by
        obtain rfl : j = 0 := by simpa using hj
        simpa [Addr.add] using c0)
      simp only [List.length_cons, List.length_nil, Nat.zero_add] at hback
      go_wp2_with fail
      go_ret
      exact ⟨rfl, HBW.out⟩
/-- A byte and its slug's byte, in numbers. -/
theorem okc_int (c : UInt8) : okc c = ((decide (97 ≤ (c.toNat : Int)) && decide ((c.toNat : Int) ≤ 122)) || (decide (48 ≤ (c.toNat : Int)) && decide ((c.toNat : Int) ≤ 57)) || decide (128 ≤ (c.toNat : Int))) := by
  unfold okc
  have e : ∀ a b : Nat, decide (a ≤ b) = decide ((a : Int) ≤ (b : Int)) := fun a b => by by_cases h : a ≤ b <;> simp [h]
  rw [e 97, e _ 122, e 48, e _ 57, e 128]
  rfl
set_option maxRecDepth 100000 in
theorem isDigitR_any (c : UInt8) (w : World) :
    Calls Tryd.prog 9 #[.int .u8 c.toNat] w fun e w' => e = .returned (.bool (decide (48 ≤ (c.toNat : Int)) && decide ((c.toNat : Int) ≤ 57))) ∧ w' = w := by
  obtain ⟨b, hb⟩ : ∃ b, (decide (48 ≤ (c.toNat : Int)) && decide ((c.toNat : Int) ≤ 57)) = b := ⟨_, rfl⟩
  rw [hb]
  by_cases h1 : 48 ≤ (c.toNat : Int)
  · by_cases h2 : (c.toNat : Int) ≤ 57
    · rw [decide_eq_true h1, decide_eq_true h2] at hb
      subst hb
      go_enter Tryd.func9, Tryd.ntmps9
      go_wp2_with fail
      go_ret
      exact ⟨rfl, rfl⟩
    · rw [decide_eq_true h1, decide_eq_false h2] at hb
      subst hb
      go_enter Tryd.func9, Tryd.ntmps9
      go_wp2_with fail
      go_ret
      exact ⟨rfl, rfl⟩
  · rw [decide_eq_false h1] at hb
    subst hb
    go_enter Tryd.func9, Tryd.ntmps9
    go_wp2_with fail
    go_ret
    exact ⟨rfl, rfl⟩
theorem take_snoc {s : ByteArray} {j : Nat} (h : j < s.size) : s.data.toList.take (j + 1) = s.data.toList.take j ++ [s[j]] := by
  have h' : j < s.data.toList.length := by simpa using h
  rw [List.take_succ_eq_append_getElem h']
  rfl
theorem trimB_S (l : List UInt8) : Ending.returned (.string ⟨(Lib.trimB l 45).toArray⟩) = .returned (.string ⟨(Lib.trimS l [45]).toArray⟩) := by
  have e : (fun x : UInt8 => ([45] : List UInt8).contains x) = (fun x => x == 45) := by funext x; by_cases h : x = 45 <;> simp [h]
  unfold Lib.trimB Lib.trimLeftB Lib.trimRightB Lib.trimS Lib.trimLeftS Lib.trimRightS
  rw [e]
theorem hasSuffix_end (l : List UInt8) : Lib.hasSuffix l [45] = endsD l := by
  unfold Lib.hasSuffix endsD
  by_cases h : l = []
  · subst h; rfl
  · obtain ⟨r, x, rfl⟩ := snocU h
    rw [List.getLast?_concat]
    by_cases hx : x = 45
    · subst hx
      rw [List.isSuffixOf_iff_suffix.2 ⟨_, rfl⟩]
      rfl
    · have e : (some x == some (45 : UInt8)) = false := by simpa using hx
      rw [e]
      cases hs : ([45] : List UInt8).isSuffixOf (r ++ [x]) with
      | false => rfl
      | true =>
        obtain ⟨t, ht⟩ := List.isSuffixOf_iff_suffix.1 hs
        have := (List.append_inj' ht rfl).2
        simp at this
        exact absurd this.symm hx
theorem conv_new (x : UInt8) (w : World) : (convert 24 9 (.slice (some ⟨w.heap.size, 0, none⟩) 1 1)).run Tryd.prog (w.alloc (.cells #[.int .u8 x.toNat] 5)) = .ok (.string ⟨#[x]⟩) (w.alloc (.cells #[.int .u8 x.toNat] 5)) :=
  run_convert_bytes_back (P := Tryd.prog) (w.alloc (.cells #[.int .u8 x.toNat] 5)) 24 9 5 ⟨w.heap.size, 0, none⟩ 1 [x] Tryd.underlying24 Tryd.underlying5 Tryd.underlying9 (fun j hj => by
    obtain rfl : j = 0 := by simpa using hj
    simp [Addr.add])
set_option maxRecDepth 100000 in
set_option maxHeartbeats 1000000 in
theorem slugOf_any (s : ByteArray) (w : World) (hs : s.size ≤ 200000) :
    Calls Tryd.prog 5 #[.string s] w fun e w' => e = .returned (.string ⟨(Lib.trimS (s.data.toList.foldl rstepS []) [45]).toArray⟩) ∧ Below w.heap.size w w' := by
  go_enter Tryd.func5, Tryd.ntmps5
  go_wp2_with fail
  go_loopw [3, 4] (fun o i wr => ∃ (j : Nat) (ob : ByteArray), j ≤ s.size ∧ i = .int .i64 j ∧ o = .string ob ∧ ob.data.toList = (s.data.toList.take j).foldl rstepS [] ∧ ob.size ≤ j ∧ Below w.heap.size w wr) (fun _ i _ => s.size - (intOf i).toNat)
  case atStart => exact ⟨0, ⟨#[]⟩, Nat.zero_le _, rfl, rfl, rfl, Nat.zero_le _, Below.refl _ _⟩
  case round =>
    obtain ⟨j, ob, hj, rfl, rfl, hob, hol, hbw⟩ := hrel
    have HO := Lib.hid hob; clear hob
    by_cases hlt : j < s.size
    · have hst : (s.data.toList.take (j + 1)).foldl rstepS [] = rstepS ((s.data.toList.take j).foldl rstepS []) s[j] := by rw [take_snoc hlt, List.foldl_append]; rfl
      have hone : s.extract j (j + 1) = ⟨#[s[j]]⟩ := by
        apply ByteArray.ext
        apply Array.ext'
        rw [ByteArray.data_extract, Array.toList_extract, List.extract_eq_take_drop, List.drop_eq_getElem_cons (by simpa using hlt), show j + 1 - j = 1 by omega]
        rfl
      obtain ⟨c, hc⟩ : ∃ c, s[j] = c := ⟨_, rfl⟩
      rw [hc] at hst hone
      have HST := Lib.hid hst; clear hst hc
      have HL := Lib.hid (fun wX => lower_one c wX)
      go_wp2_with fail
      refine (HL.out _).mono ?_
      rintro e w2 ⟨rfl, hb2⟩
      have hb3 := hbw.trans (hb2.mono hbw.size)
      clear hb2 hbw
      obtain ⟨x, hx⟩ : ∃ x, upc c = x := ⟨_, rfl⟩
      have hst2 : (s.data.toList.take (j + 1)).foldl rstepS [] = if okc x = true then ob.data.toList ++ [x] else if endsD ob.data.toList = true then ob.data.toList else ob.data.toList ++ [45] := by
        rw [HST.out, HO.out]; unfold rstepS; rw [hx]
      rw [hx]
      clear HST HO hx hone HL
      have HS2 := Lib.hid hst2; clear hst2
      have hix : ∀ h, (ByteArray.mk #[x])[0]'h = x := fun _ => rfl
      obtain ⟨o, ho⟩ : ∃ o, okc x = o := ⟨_, rfl⟩
      have hoi := okc_int x
      rw [ho] at hoi
      have HD := Lib.hid (fun wX => isDigitR_any x wX)
      obtain ⟨dv, hdv⟩ : ∃ dv, (decide (48 ≤ (x.toNat : Int)) && decide ((x.toNat : Int) ≤ 57)) = dv := ⟨_, rfl⟩
      rw [hdv] at hoi HD
      have HOI := Lib.hid hoi; clear hoi hdv
      rw [ho] at HS2
      clear ho
      go_upto_region 6 with fail
      go_cut [19] from 20 to 33 (fun v wx => v = .bool o ∧ wx = w2)
      case first =>
        by_cases a1 : 97 ≤ (x.toNat : Int)
        · by_cases a2 : (x.toNat : Int) ≤ 122
          · go_wp2_with fail
            go_meet
            case rel => exact ⟨by rw [HOI.out, decide_eq_true a1, decide_eq_true a2]; rfl, rfl⟩
          · cases dv
            · by_cases a3 : 128 ≤ (x.toNat : Int)
              · go_wp2_with fail
                refine (HD.out _).mono ?_
                rintro e w3 ⟨rfl, rfl⟩
                go_wp2_with fail
                go_meet
                case rel => exact ⟨by rw [HOI.out, decide_eq_true a3]; simp, rfl⟩
              · go_wp2_with fail
                refine (HD.out _).mono ?_
                rintro e w3 ⟨rfl, rfl⟩
                go_wp2_with fail
                go_meet
                case rel => exact ⟨by rw [HOI.out, decide_eq_false (by omega : ¬ 128 ≤ (x.toNat : Int)), decide_eq_false (by omega : ¬ (x.toNat : Int) ≤ 122)]; simp, rfl⟩
            · go_wp2_with fail
              refine (HD.out _).mono ?_
              rintro e w3 ⟨rfl, rfl⟩
              go_wp2_with fail
              go_meet
              case rel => exact ⟨by rw [HOI.out]; simp, rfl⟩
        · cases dv
          · by_cases a3 : 128 ≤ (x.toNat : Int)
            · exact absurd a3 (by omega)
            · go_wp2_with fail
              refine (HD.out _).mono ?_
              rintro e w3 ⟨rfl, rfl⟩
              go_wp2_with fail
              go_meet
              case rel => exact ⟨by rw [HOI.out, decide_eq_false (by omega : ¬ 128 ≤ (x.toNat : Int)), decide_eq_false (by omega : ¬ 97 ≤ (x.toNat : Int))]; rfl, rfl⟩
          · go_wp2_with fail
            refine (HD.out _).mono ?_
            rintro e w3 ⟨rfl, rfl⟩
            go_wp2_with fail
            go_meet
            case rel => exact ⟨by rw [HOI.out]; simp, rfl⟩
      case rest =>
        obtain ⟨rfl, rfl⟩ := hcut
        clear HOI HD
        cases o with
        | true =>
          have hcv := conv_new x wc
          go_wp2_with fail
          go_roundw
          case rel =>
            refine ⟨j + 1, ob ++ ⟨#[x]⟩, by omega, by go_num, rfl, ?_, ?_, hb3.alloc hb3.size _⟩
            · rw [HS2.out, if_pos rfl]; simp
            · rw [ByteArray.size_append]; show ob.size + 1 ≤ j + 1; omega
          case measure => simp [intOf]; omega
        | false =>
          have HH := Lib.hid (fun wX => Tryd.strings_HasSuffix ob ⟨#[45]⟩ wX (by omega))
          obtain ⟨b, hb⟩ : ∃ b, endsD ob.data.toList = b := ⟨_, rfl⟩
          have hh : Lib.hasSuffix ob.data.toList (ByteArray.mk #[45]).data.toList = b := (hasSuffix_end _).trans hb
          rw [hh] at HH
          rw [hb] at HS2
          clear hh hb
          cases b
          · go_wp2_with fail
            refine (HH.out _).mono ?_
            rintro e w3 ⟨rfl, rfl⟩
            go_wp2_with fail
            go_roundw
            case rel =>
              refine ⟨j + 1, ob ++ ⟨#[45]⟩, by omega, by go_num, rfl, ?_, ?_, hb3⟩
              · rw [HS2.out, if_neg (by simp), if_neg (by simp)]; simp
              · rw [ByteArray.size_append]; show ob.size + 1 ≤ j + 1; omega
            case measure => simp [intOf]; omega
          · go_wp2_with fail
            refine (HH.out _).mono ?_
            rintro e w3 ⟨rfl, rfl⟩
            go_wp2_with fail
            go_roundw
            case rel => exact ⟨j + 1, ob, by omega, by go_num, rfl, by rw [HS2.out, if_neg (by simp)]; simp, by omega, hb3⟩
            case measure => simp [intOf]; omega
    · obtain rfl : j = s.size := by omega
      have hall : ob.data.toList = s.data.toList.foldl rstepS [] := by rw [HO.out, List.take_of_length_le (by rw [Array.length_toList]; exact Nat.le_refl _)]
      have HT := Lib.hid (fun wX => (Tryd.strings_Trim_one ob 45 (by decide) wX (by omega)))
      have HAL := Lib.hid hall; clear hall HO
      go_wp2_with fail
      refine (HT.out _).mono ?_
      rintro e w3 ⟨rfl, hw3⟩
      have hb4 : Below w.heap.size w w3 := by
        rcases hw3 with rfl | rfl
        · exact hbw
        · exact hbw.drew
      go_wp2_with fail
      go_ret
      exact ⟨by rw [← HAL.out]; exact trimB_S _, hb4⟩
end Go.Proofs.YtdigifhejhgeiaaDoor
