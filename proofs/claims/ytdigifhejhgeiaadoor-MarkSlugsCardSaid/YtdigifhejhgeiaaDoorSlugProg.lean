/- DERIVED. What mark.Slug returns. Condition: at most 200000 bytes. -/
import Derived.Test.YtdigifhejhgeiaaDoorSlugRef
import Derived.Laws.OwnMore
import Derived.Laws.AppendOwn
import Derived.Laws.BytesArg
namespace Go.Proofs.YtdigifhejhgeiaaDoor
set_option linter.unusedVariables false
open Go.RowKit
theorem u8_info : (Tryd.prog.info? 5).map (fun i => (i.zero, i.size, i.bytes)) = some (some (.int .u8 0), 1, 1) := by kernel_rfl
/-- The bytes as cells. -/
def bcells (l : List UInt8) : List Value := l.map fun c => .int .u8 c.toNat
theorem bcells_snoc (l : List UInt8) (x : UInt8) : bcells (l ++ [x]) = bcells l ++ [.int .u8 x.toNat] := by simp [bcells]
theorem brow_val {w : World} {base n : Nat} {v : Value} {xs : List Value} {e : TypeId} (h : w.ownsRow base e 1 v n xs) : ∃ A c, v = .slice A n c := by
  rcases h.2 with ⟨rfl, h0⟩ | ⟨g, cap, cur, rfl, _⟩
  · exact ⟨none, 0, by rw [h0]⟩
  · exact ⟨_, _, rfl⟩
theorem okc_up {c : UInt8} (h1 : 65 ≤ (c.toNat : Int)) (h2 : (c.toNat : Int) ≤ 90) : okc (upc c) = true := by
  rw [okc_int, upc_int h1 h2, decide_eq_true (by omega : 97 ≤ (c.toNat : Int) + 32), decide_eq_true (by omega : (c.toNat : Int) + 32 ≤ 122)]
  rfl
theorem u8_45 {y : UInt8} (h : (y.toNat : Int) = 45) : y = 45 := UInt8.toNat_inj.1 (by show y.toNat = 45; omega)
theorem bnew_one (w : World) (v : Value) : ∀ j u, [v][j]? = some u → (w.alloc (.cells #[v] 5)).cell? ((⟨w.heap.size, 0, none⟩ : Addr).add j) = some u := by
  intro j u hj
  match j, hj with
  | 0, hj => simp at hj; subst hj; simp [Addr.add]
/-- The last byte of a row of the call's own. -/
theorem brow_last {w : World} {base : Nat} {l : List UInt8} {A : Option Addr} {c : Nat} {e : TypeId} (h : w.ownsRow base e 1 (.slice A l.length c) l.length (bcells l)) (hl : l ≠ []) :
    ∃ g cap, Value.slice A l.length c = .slice (some ⟨g, 0, none⟩) l.length cap ∧ ∃ y, l.getLast? = some y ∧ w.cell? ⟨g, l.length - 1, none⟩ = some (.int .u8 y.toNat) := by
  have hp := List.length_pos_iff.2 hl
  have h2 := h
  rcases h.2 with ⟨e1, e0⟩ | ⟨g, cap, cur, e1, hg, hh, hn, hm, _⟩
  · omega
  · refine ⟨g, cap, e1, l.getLast hl, List.getLast?_eq_some_getLast hl, ?_⟩
    rw [e1] at h2
    have := h2.cellAt (l.length - 1) (by omega)
    rw [this]
    unfold bcells
    rw [List.getElem?_map, List.getElem?_eq_getElem (by omega), List.getLast_eq_getElem]
    rfl
theorem conv_zero_any (A : Option Addr) (c : Nat) (w : World) : (convert 24 9 (.slice A 0 c)).run Tryd.prog w = .ok (.string ⟨#[]⟩) w := by
  cases A with
  | none => exact run_convert_bytes_nil w 24 5 Tryd.underlying24 Tryd.underlying5 0 c 9 Tryd.underlying9
  | some a => exact run_convert_bytes_back (P := Tryd.prog) w 24 9 5 a c [] Tryd.underlying24 Tryd.underlying5 Tryd.underlying9 (fun j hj => absurd hj (by simp))
/-- The cells of a row of the call's own. -/
theorem brow_cells {w : World} {base : Nat} {l : List UInt8} {A : Option Addr} {c : Nat} {e : TypeId} (h : w.ownsRow base e 1 (.slice A l.length c) l.length (bcells l)) (hl : l ≠ []) :
    ∃ g cap, Value.slice A l.length c = .slice (some ⟨g, 0, none⟩) l.length cap ∧ ∀ j (hj : j < l.length), w.cell? ((⟨g, 0, none⟩ : Addr).add j) = some (.int .u8 (l[j].toNat : Int)) := by
  have hp := List.length_pos_iff.2 hl
  have h2 := h
  rcases h.2 with ⟨e1, e0⟩ | ⟨g, cap, cur, e1, hg, hh, hn, hm, _⟩
  · omega
  · refine ⟨g, cap, e1, fun j hj => ?_⟩
    rw [e1] at h2
    exact h2.cells (g := g) rfl j _ (by unfold bcells; rw [List.getElem?_map, List.getElem?_eq_getElem hj]; rfl)
set_option maxRecDepth 100000 in
theorem isDigitP_any (c : UInt8) (w : World) :
    Calls Tryd.prog 6 #[.int .u8 c.toNat] w fun e w' => e = .returned (.bool (decide (48 ≤ (c.toNat : Int)) && decide ((c.toNat : Int) ≤ 57))) ∧ w' = w := by
  obtain ⟨b, hb⟩ : ∃ b, (decide (48 ≤ (c.toNat : Int)) && decide ((c.toNat : Int) ≤ 57)) = b := ⟨_, rfl⟩
  rw [hb]
  by_cases h1 : 48 ≤ (c.toNat : Int)
  · by_cases h2 : (c.toNat : Int) ≤ 57
    · rw [decide_eq_true h1, decide_eq_true h2] at hb
      subst hb
      go_enter Tryd.func6, Tryd.ntmps6
      go_wp2_with fail
      go_ret
      exact ⟨rfl, rfl⟩
    · rw [decide_eq_true h1, decide_eq_false h2] at hb
      subst hb
      go_enter Tryd.func6, Tryd.ntmps6
      go_wp2_with fail
      go_ret
      exact ⟨rfl, rfl⟩
  · rw [decide_eq_false h1] at hb
    subst hb
    go_enter Tryd.func6, Tryd.ntmps6
    go_wp2_with fail
    go_ret
    exact ⟨rfl, rfl⟩
set_option maxRecDepth 100000 in
set_option maxHeartbeats 1000000 in
theorem slug_any (s : ByteArray) (w : World) (hs : s.size ≤ 200000) :
    Calls Tryd.prog 4 #[.string s] w fun e w' => e = .returned (.string ⟨(Lib.trimSuffix (s.data.toList.foldl pstepS []) [45]).toArray⟩) ∧ Below w.heap.size w w' := by
  obtain ⟨i0, hi, hz0, hz1, hz2⟩ := info_parts u8_info
  go_enter Tryd.func4, Tryd.ntmps4
  go_wp2_with fail
  go_loopw [3, 8] (fun v i wr => ∃ (j : Nat) (bl : List UInt8), j ≤ s.size ∧ i = .int .i64 j ∧ wr.ownsRow w.heap.size 5 1 v bl.length (bcells bl) ∧ bl = (s.data.toList.take j).foldl pstepS [] ∧ bl.length ≤ j ∧ Below w.heap.size w wr) (fun _ i _ => s.size - (intOf i).toNat)
  case atStart => exact ⟨0, [], Nat.zero_le _, rfl, World.ownsRow_nil _ _ _ _, rfl, Nat.zero_le _, Below.refl _ _⟩
  case round =>
    obtain ⟨wo, rfl⟩ : ∃ wo : World, wo = wr := ⟨_, rfl⟩
    obtain ⟨j, bl, hj, rfl, hown, hbl, hle, hbw⟩ := hrel
    have HO := Lib.hid hown
    obtain ⟨A, cp, rfl⟩ := brow_val hown
    clear hown
    by_cases hlt : j < s.size
    · have hst : (s.data.toList.take (j + 1)).foldl pstepS [] = pstepS bl s[j] := by rw [hbl, take_snoc hlt, List.foldl_append]; rfl
      obtain ⟨c, hc⟩ : ∃ c, s[j] = c := ⟨_, rfl⟩
      rw [hc] at hst
      have HB := Lib.hid hbl; clear hbl
      have HST := Lib.hid hst; clear hst
      have hsz : w.heap.size ≤ wo.heap.size := hbw.size
      have hoi := okc_int c
      have HD := Lib.hid (fun wX => isDigitP_any c wX)
      obtain ⟨dv, hdv⟩ : ∃ dv, (decide (48 ≤ (c.toNat : Int)) && decide ((c.toNat : Int) ≤ 57)) = dv := ⟨_, rfl⟩
      rw [hdv] at hoi HD
      have HOI := Lib.hid hoi; clear hoi
      have HDV := Lib.hid hdv; clear hdv
      by_cases a0 : 65 ≤ (c.toNat : Int) ∧ (c.toNat : Int) ≤ 90
      · obtain ⟨a1, a2⟩ := a0
        have hu := Lib.hid (upc_int a1 a2)
        go_wp2_with (at_builtin; refine wpList_append_own _ rfl _ _ 24 rfl w.heap.size 5 i0 (.int .u8 0) 1 1 Tryd.underlying24 hi hz0 hz1 hz2 rfl (by decide) _ _ _ rfl (HO.out.alloc _) ⟨wo.heap.size, 0, none⟩ 1 1 [.int .u8 ((c.toNat : Int) + 97 - 65)] rfl rfl (bnew_one wo _) (by intro u hu; simp at hu; subst hu; rfl) ?c3 ?c4 ?c5 ?_)
        case c3 => unfold maxLen; omega
        case c4 => omega
        case c5 => first | omega | (simp; omega)
        intro v' w1 hown' hgrow _
        have hb1 : Below w.heap.size w w1 := (hbw.alloc hsz _).grown hgrow (by simp; omega) (fun k hk => (HO.out.lt k hk).1)
        clear hgrow
        have HO1 := Lib.hid hown'; clear hown'
        go_wp2_with fail
        go_roundw
        case rel =>
          refine ⟨j + 1, bl ++ [upc c], by omega, by go_num, ?_, ?_, by simp; omega, hb1⟩
          · have h := HO1.out
            rw [bcells_snoc, List.length_append]
            rw [show Value.int .u8 ((c.toNat : Int) + 97 - 65) = .int .u8 ((upc c).toNat : Int) by rw [hu.out]; congr 1; omega] at h
            exact h
          · rw [HST.out]
            unfold pstepS
            rw [if_pos (okc_up a1 a2)]
        case measure => simp [intOf]; omega
      · have hu := Lib.hid (upc_same a0)
        have hok : okc (upc c) = ((decide (97 ≤ (c.toNat : Int)) && decide ((c.toNat : Int) ≤ 122)) || dv || decide (128 ≤ (c.toNat : Int))) := by rw [hu.out]; exact HOI.out
        have HOK := Lib.hid hok; clear hok HOI HDV
        by_cases a1 : 65 ≤ (c.toNat : Int)
        · have a2 : ¬ (c.toNat : Int) ≤ 90 := fun h => a0 ⟨a1, h⟩
          clear a0
          by_cases b1 : 97 ≤ (c.toNat : Int)
          · by_cases b2 : (c.toNat : Int) ≤ 122
            · clear HD
              go_wp2_with (at_builtin; refine wpList_append_own _ rfl _ _ 24 rfl w.heap.size 5 i0 (.int .u8 0) 1 1 Tryd.underlying24 hi hz0 hz1 hz2 rfl (by decide) _ _ _ rfl (HO.out.alloc _) ⟨wo.heap.size, 0, none⟩ 1 1 [.int .u8 ((c.toNat : Int))] rfl rfl (bnew_one wo _) (by intro u hu; simp at hu; subst hu; rfl) ?c3 ?c4 ?c5 ?_)
              case c3 => unfold maxLen; omega
              case c4 => omega
              case c5 => first | omega | (simp; omega)
              intro v' w1 hown' hgrow _
              have hb1 : Below w.heap.size w w1 := (hbw.alloc hsz _).grown hgrow (by simp; omega) (fun k hk => (HO.out.lt k hk).1)
              clear hgrow
              have HO1 := Lib.hid hown'; clear hown'
              go_wp2_with fail
              go_roundw
              case rel =>
                refine ⟨j + 1, bl ++ [c], by omega, by go_num, ?_, ?_, by simp; omega, hb1⟩
                · have h := HO1.out
                  rw [bcells_snoc, List.length_append]
                  skip
                  exact h
                · rw [HST.out]
                  unfold pstepS
                  rw [if_pos (by rw [HOK.out, decide_eq_true b1, decide_eq_true b2]; simp), hu.out]
              case measure => simp [intOf]; omega
            · cases dv
              · by_cases b3 : 128 ≤ (c.toNat : Int)
                · go_wp2_with fail
                  refine (HD.out _).mono ?_
                  rintro e w3 ⟨rfl, hw3⟩
                  rw [hw3]
                  clear hw3 w3
                  dsimp only
                  go_wp2_with (at_builtin; refine wpList_append_own _ rfl _ _ 24 rfl w.heap.size 5 i0 (.int .u8 0) 1 1 Tryd.underlying24 hi hz0 hz1 hz2 rfl (by decide) _ _ _ rfl (HO.out.alloc _) ⟨wo.heap.size, 0, none⟩ 1 1 [.int .u8 ((c.toNat : Int))] rfl rfl (bnew_one wo _) (by intro u hu; simp at hu; subst hu; rfl) ?c3 ?c4 ?c5 ?_)
                  case c3 => unfold maxLen; omega
                  case c4 => omega
                  case c5 => first | omega | (simp; omega)
                  intro v' w1 hown' hgrow _
                  have hb1 : Below w.heap.size w w1 := (hbw.alloc hsz _).grown hgrow (by simp; omega) (fun k hk => (HO.out.lt k hk).1)
                  clear hgrow
                  have HO1 := Lib.hid hown'; clear hown'
                  go_wp2_with fail
                  go_roundw
                  case rel =>
                    refine ⟨j + 1, bl ++ [c], by omega, by go_num, ?_, ?_, by simp; omega, hb1⟩
                    · have h := HO1.out
                      rw [bcells_snoc, List.length_append]
                      skip
                      exact h
                    · rw [HST.out]
                      unfold pstepS
                      rw [if_pos (by rw [HOK.out, decide_eq_true b3]; simp), hu.out]
                  case measure => simp [intOf]; omega
                · have n3 : ¬ 128 ≤ (c.toNat : Int) := by omega
                  have n2 : ¬ (c.toNat : Int) ≤ 122 := by omega
                  have N3 := Lib.hid (And.intro n3 n2); clear n3 n2
                  by_cases hn : bl = []
                  · subst hn
                    go_wp2_with fail
                    refine (HD.out _).mono ?_
                    rintro e w3 ⟨rfl, hw3⟩
                    rw [hw3]
                    clear hw3 w3
                    dsimp only
                    go_wp2_with fail
                    go_roundw
                    case rel =>
                      refine ⟨j + 1, [], by omega, by go_num, HO.out, ?_, by simp, hbw⟩
                      rw [HST.out]
                      unfold pstepS
                      rw [if_neg (by rw [HOK.out, decide_eq_false (by have := N3.out; omega : ¬ 128 ≤ (c.toNat : Int)), decide_eq_false (by have := N3.out; omega : ¬ (c.toNat : Int) ≤ 122)]; simp), if_pos (Or.inl rfl)]
                    case measure => simp [intOf]; omega
                  · obtain ⟨g, cap, hAg, hlast⟩ := brow_last HO.out hn
                    obtain ⟨rfl, rfl⟩ : A = some ⟨g, 0, none⟩ ∧ cp = cap := by simpa using hAg
                    clear hAg
                    have hpos : (0 : Int) < (bl.length : Int) := by have := List.length_pos_iff.2 hn; omega
                    have hlen1 : 1 ≤ bl.length := List.length_pos_iff.2 hn
                    obtain ⟨y, hy, hyc⟩ := hlast
                    have HY := Lib.hid hy; clear hy
                    have HN := Lib.hid hn; clear hn
                    by_cases h45 : (y.toNat : Int) = 45
                    · have hy45 : y = 45 := u8_45 h45
                      have HY45 := Lib.hid hy45; clear hy45
                      go_wp2_with fail
                      refine (HD.out _).mono ?_
                      rintro e w3 ⟨rfl, hw3⟩
                      rw [hw3]
                      clear hw3 w3
                      dsimp only
                      go_wp2_with fail
                      go_roundw
                      case rel =>
                        refine ⟨j + 1, bl, by omega, by go_num, HO.out, ?_, by omega, hbw⟩
                        rw [HST.out]
                        unfold pstepS
                        rw [if_neg (by rw [HOK.out, decide_eq_false (by have := N3.out; omega : ¬ 128 ≤ (c.toNat : Int)), decide_eq_false (by have := N3.out; omega : ¬ (c.toNat : Int) ≤ 122)]; simp), if_pos (Or.inr (by unfold endsD; rw [HY.out, HY45.out]; rfl))]
                      case measure => simp [intOf]; omega
                    · have z45 : ((y.toNat : Int) != 45) = true := by simpa using h45
                      have hy45 : ¬ y = 45 := fun e => h45 (by rw [e]; rfl)
                      have HY45 := Lib.hid hy45; clear hy45
                      go_wp2_with fail
                      refine (HD.out _).mono ?_
                      rintro e w3 ⟨rfl, hw3⟩
                      rw [hw3]
                      clear hw3 w3
                      dsimp only
                      go_wp2_with (at_builtin; refine wpList_append_own _ rfl _ _ 24 rfl w.heap.size 5 i0 (.int .u8 0) 1 1 Tryd.underlying24 hi hz0 hz1 hz2 rfl (by decide) _ _ _ rfl (HO.out.alloc _) ⟨wo.heap.size, 0, none⟩ 1 1 [.int .u8 (45)] rfl rfl (bnew_one wo _) (by intro u hu; simp at hu; subst hu; rfl) ?c3 ?c4 ?c5 ?_)
                      case c3 => unfold maxLen; omega
                      case c4 => omega
                      case c5 => first | omega | (simp; omega)
                      intro v' w1 hown' hgrow _
                      have hb1 : Below w.heap.size w w1 := (hbw.alloc hsz _).grown hgrow (by simp; omega) (fun k hk => (HO.out.lt k hk).1)
                      clear hgrow
                      have HO1 := Lib.hid hown'; clear hown'
                      go_wp2_with fail
                      go_roundw
                      case rel =>
                        refine ⟨j + 1, bl ++ [45], by omega, by go_num, ?_, ?_, by simp; omega, hb1⟩
                        · have h := HO1.out
                          rw [bcells_snoc, List.length_append]
                          skip
                          exact h
                        · rw [HST.out]
                          unfold pstepS
                          rw [if_neg (by rw [HOK.out, decide_eq_false (by have := N3.out; omega : ¬ 128 ≤ (c.toNat : Int)), decide_eq_false (by have := N3.out; omega : ¬ (c.toNat : Int) ≤ 122)]; simp), if_neg (by rintro (h | h); exact HN.out h; unfold endsD at h; rw [HY.out] at h; exact HY45.out (by simpa using h))]
                      case measure => simp [intOf]; omega
              · go_wp2_with fail
                refine (HD.out _).mono ?_
                rintro e w3 ⟨rfl, hw3⟩
                rw [hw3]
                clear hw3 w3
                dsimp only
                go_wp2_with (at_builtin; refine wpList_append_own _ rfl _ _ 24 rfl w.heap.size 5 i0 (.int .u8 0) 1 1 Tryd.underlying24 hi hz0 hz1 hz2 rfl (by decide) _ _ _ rfl (HO.out.alloc _) ⟨wo.heap.size, 0, none⟩ 1 1 [.int .u8 ((c.toNat : Int))] rfl rfl (bnew_one wo _) (by intro u hu; simp at hu; subst hu; rfl) ?c3 ?c4 ?c5 ?_)
                case c3 => unfold maxLen; omega
                case c4 => omega
                case c5 => first | omega | (simp; omega)
                intro v' w1 hown' hgrow _
                have hb1 : Below w.heap.size w w1 := (hbw.alloc hsz _).grown hgrow (by simp; omega) (fun k hk => (HO.out.lt k hk).1)
                clear hgrow
                have HO1 := Lib.hid hown'; clear hown'
                go_wp2_with fail
                go_roundw
                case rel =>
                  refine ⟨j + 1, bl ++ [c], by omega, by go_num, ?_, ?_, by simp; omega, hb1⟩
                  · have h := HO1.out
                    rw [bcells_snoc, List.length_append]
                    skip
                    exact h
                  · rw [HST.out]
                    unfold pstepS
                    rw [if_pos (by rw [HOK.out]; simp), hu.out]
                case measure => simp [intOf]; omega
          · cases dv
            · have b3 : ¬ 128 ≤ (c.toNat : Int) := by omega
              have n1 : ¬ 97 ≤ (c.toNat : Int) := by omega
              have N3 := Lib.hid (And.intro b3 n1); clear n1
              by_cases hn : bl = []
              · subst hn
                go_wp2_with fail
                refine (HD.out _).mono ?_
                rintro e w3 ⟨rfl, hw3⟩
                rw [hw3]
                clear hw3 w3
                dsimp only
                go_wp2_with fail
                go_roundw
                case rel =>
                  refine ⟨j + 1, [], by omega, by go_num, HO.out, ?_, by simp, hbw⟩
                  rw [HST.out]
                  unfold pstepS
                  rw [if_neg (by rw [HOK.out, decide_eq_false (by have := N3.out; omega : ¬ 128 ≤ (c.toNat : Int)), decide_eq_false (by have := N3.out; omega : ¬ 97 ≤ (c.toNat : Int))]; simp), if_pos (Or.inl rfl)]
                case measure => simp [intOf]; omega
              · obtain ⟨g, cap, hAg, hlast⟩ := brow_last HO.out hn
                obtain ⟨rfl, rfl⟩ : A = some ⟨g, 0, none⟩ ∧ cp = cap := by simpa using hAg
                clear hAg
                have hpos : (0 : Int) < (bl.length : Int) := by have := List.length_pos_iff.2 hn; omega
                have hlen1 : 1 ≤ bl.length := List.length_pos_iff.2 hn
                obtain ⟨y, hy, hyc⟩ := hlast
                have HY := Lib.hid hy; clear hy
                have HN := Lib.hid hn; clear hn
                by_cases h45 : (y.toNat : Int) = 45
                · have hy45 : y = 45 := u8_45 h45
                  have HY45 := Lib.hid hy45; clear hy45
                  go_wp2_with fail
                  refine (HD.out _).mono ?_
                  rintro e w3 ⟨rfl, hw3⟩
                  rw [hw3]
                  clear hw3 w3
                  dsimp only
                  go_wp2_with fail
                  go_roundw
                  case rel =>
                    refine ⟨j + 1, bl, by omega, by go_num, HO.out, ?_, by omega, hbw⟩
                    rw [HST.out]
                    unfold pstepS
                    rw [if_neg (by rw [HOK.out, decide_eq_false (by have := N3.out; omega : ¬ 128 ≤ (c.toNat : Int)), decide_eq_false (by have := N3.out; omega : ¬ 97 ≤ (c.toNat : Int))]; simp), if_pos (Or.inr (by unfold endsD; rw [HY.out, HY45.out]; rfl))]
                  case measure => simp [intOf]; omega
                · have z45 : ((y.toNat : Int) != 45) = true := by simpa using h45
                  have hy45 : ¬ y = 45 := fun e => h45 (by rw [e]; rfl)
                  have HY45 := Lib.hid hy45; clear hy45
                  go_wp2_with fail
                  refine (HD.out _).mono ?_
                  rintro e w3 ⟨rfl, hw3⟩
                  rw [hw3]
                  clear hw3 w3
                  dsimp only
                  go_wp2_with (at_builtin; refine wpList_append_own _ rfl _ _ 24 rfl w.heap.size 5 i0 (.int .u8 0) 1 1 Tryd.underlying24 hi hz0 hz1 hz2 rfl (by decide) _ _ _ rfl (HO.out.alloc _) ⟨wo.heap.size, 0, none⟩ 1 1 [.int .u8 (45)] rfl rfl (bnew_one wo _) (by intro u hu; simp at hu; subst hu; rfl) ?c3 ?c4 ?c5 ?_)
                  case c3 => unfold maxLen; omega
                  case c4 => omega
                  case c5 => first | omega | (simp; omega)
                  intro v' w1 hown' hgrow _
                  have hb1 : Below w.heap.size w w1 := (hbw.alloc hsz _).grown hgrow (by simp; omega) (fun k hk => (HO.out.lt k hk).1)
                  clear hgrow
                  have HO1 := Lib.hid hown'; clear hown'
                  go_wp2_with fail
                  go_roundw
                  case rel =>
                    refine ⟨j + 1, bl ++ [45], by omega, by go_num, ?_, ?_, by simp; omega, hb1⟩
                    · have h := HO1.out
                      rw [bcells_snoc, List.length_append]
                      skip
                      exact h
                    · rw [HST.out]
                      unfold pstepS
                      rw [if_neg (by rw [HOK.out, decide_eq_false (by have := N3.out; omega : ¬ 128 ≤ (c.toNat : Int)), decide_eq_false (by have := N3.out; omega : ¬ 97 ≤ (c.toNat : Int))]; simp), if_neg (by rintro (h | h); exact HN.out h; unfold endsD at h; rw [HY.out] at h; exact HY45.out (by simpa using h))]
                  case measure => simp [intOf]; omega
            · go_wp2_with fail
              refine (HD.out _).mono ?_
              rintro e w3 ⟨rfl, hw3⟩
              rw [hw3]
              clear hw3 w3
              dsimp only
              go_wp2_with (at_builtin; refine wpList_append_own _ rfl _ _ 24 rfl w.heap.size 5 i0 (.int .u8 0) 1 1 Tryd.underlying24 hi hz0 hz1 hz2 rfl (by decide) _ _ _ rfl (HO.out.alloc _) ⟨wo.heap.size, 0, none⟩ 1 1 [.int .u8 ((c.toNat : Int))] rfl rfl (bnew_one wo _) (by intro u hu; simp at hu; subst hu; rfl) ?c3 ?c4 ?c5 ?_)
              case c3 => unfold maxLen; omega
              case c4 => omega
              case c5 => first | omega | (simp; omega)
              intro v' w1 hown' hgrow _
              have hb1 : Below w.heap.size w w1 := (hbw.alloc hsz _).grown hgrow (by simp; omega) (fun k hk => (HO.out.lt k hk).1)
              clear hgrow
              have HO1 := Lib.hid hown'; clear hown'
              go_wp2_with fail
              go_roundw
              case rel =>
                refine ⟨j + 1, bl ++ [c], by omega, by go_num, ?_, ?_, by simp; omega, hb1⟩
                · have h := HO1.out
                  rw [bcells_snoc, List.length_append]
                  skip
                  exact h
                · rw [HST.out]
                  unfold pstepS
                  rw [if_pos (by rw [HOK.out]; simp), hu.out]
              case measure => simp [intOf]; omega
        · clear a0
          have b1 : ¬ 97 ≤ (c.toNat : Int) := by omega
          cases dv
          · have b3 : ¬ 128 ≤ (c.toNat : Int) := by omega
            have N3 := Lib.hid (And.intro b3 b1)
            by_cases hn : bl = []
            · subst hn
              go_wp2_with fail
              refine (HD.out _).mono ?_
              rintro e w3 ⟨rfl, hw3⟩
              rw [hw3]
              clear hw3 w3
              dsimp only
              go_wp2_with fail
              go_roundw
              case rel =>
                refine ⟨j + 1, [], by omega, by go_num, HO.out, ?_, by simp, hbw⟩
                rw [HST.out]
                unfold pstepS
                rw [if_neg (by rw [HOK.out, decide_eq_false (by have := N3.out; omega : ¬ 128 ≤ (c.toNat : Int)), decide_eq_false (by have := N3.out; omega : ¬ 97 ≤ (c.toNat : Int))]; simp), if_pos (Or.inl rfl)]
              case measure => simp [intOf]; omega
            · obtain ⟨g, cap, hAg, hlast⟩ := brow_last HO.out hn
              obtain ⟨rfl, rfl⟩ : A = some ⟨g, 0, none⟩ ∧ cp = cap := by simpa using hAg
              clear hAg
              have hpos : (0 : Int) < (bl.length : Int) := by have := List.length_pos_iff.2 hn; omega
              have hlen1 : 1 ≤ bl.length := List.length_pos_iff.2 hn
              obtain ⟨y, hy, hyc⟩ := hlast
              have HY := Lib.hid hy; clear hy
              have HN := Lib.hid hn; clear hn
              by_cases h45 : (y.toNat : Int) = 45
              · have hy45 : y = 45 := u8_45 h45
                have HY45 := Lib.hid hy45; clear hy45
                go_wp2_with fail
                refine (HD.out _).mono ?_
                rintro e w3 ⟨rfl, hw3⟩
                rw [hw3]
                clear hw3 w3
                dsimp only
                go_wp2_with fail
                go_roundw
                case rel =>
                  refine ⟨j + 1, bl, by omega, by go_num, HO.out, ?_, by omega, hbw⟩
                  rw [HST.out]
                  unfold pstepS
                  rw [if_neg (by rw [HOK.out, decide_eq_false (by have := N3.out; omega : ¬ 128 ≤ (c.toNat : Int)), decide_eq_false (by have := N3.out; omega : ¬ 97 ≤ (c.toNat : Int))]; simp), if_pos (Or.inr (by unfold endsD; rw [HY.out, HY45.out]; rfl))]
                case measure => simp [intOf]; omega
              · have z45 : ((y.toNat : Int) != 45) = true := by simpa using h45
                have hy45 : ¬ y = 45 := fun e => h45 (by rw [e]; rfl)
                have HY45 := Lib.hid hy45; clear hy45
                go_wp2_with fail
                refine (HD.out _).mono ?_
                rintro e w3 ⟨rfl, hw3⟩
                rw [hw3]
                clear hw3 w3
                dsimp only
                go_wp2_with (at_builtin; refine wpList_append_own _ rfl _ _ 24 rfl w.heap.size 5 i0 (.int .u8 0) 1 1 Tryd.underlying24 hi hz0 hz1 hz2 rfl (by decide) _ _ _ rfl (HO.out.alloc _) ⟨wo.heap.size, 0, none⟩ 1 1 [.int .u8 (45)] rfl rfl (bnew_one wo _) (by intro u hu; simp at hu; subst hu; rfl) ?c3 ?c4 ?c5 ?_)
                case c3 => unfold maxLen; omega
                case c4 => omega
                case c5 => first | omega | (simp; omega)
                intro v' w1 hown' hgrow _
                have hb1 : Below w.heap.size w w1 := (hbw.alloc hsz _).grown hgrow (by simp; omega) (fun k hk => (HO.out.lt k hk).1)
                clear hgrow
                have HO1 := Lib.hid hown'; clear hown'
                go_wp2_with fail
                go_roundw
                case rel =>
                  refine ⟨j + 1, bl ++ [45], by omega, by go_num, ?_, ?_, by simp; omega, hb1⟩
                  · have h := HO1.out
                    rw [bcells_snoc, List.length_append]
                    skip
                    exact h
                  · rw [HST.out]
                    unfold pstepS
                    rw [if_neg (by rw [HOK.out, decide_eq_false (by have := N3.out; omega : ¬ 128 ≤ (c.toNat : Int)), decide_eq_false (by have := N3.out; omega : ¬ 97 ≤ (c.toNat : Int))]; simp), if_neg (by rintro (h | h); exact HN.out h; unfold endsD at h; rw [HY.out] at h; exact HY45.out (by simpa using h))]
                case measure => simp [intOf]; omega
          · go_wp2_with fail
            refine (HD.out _).mono ?_
            rintro e w3 ⟨rfl, hw3⟩
            rw [hw3]
            clear hw3 w3
            dsimp only
            go_wp2_with (at_builtin; refine wpList_append_own _ rfl _ _ 24 rfl w.heap.size 5 i0 (.int .u8 0) 1 1 Tryd.underlying24 hi hz0 hz1 hz2 rfl (by decide) _ _ _ rfl (HO.out.alloc _) ⟨wo.heap.size, 0, none⟩ 1 1 [.int .u8 ((c.toNat : Int))] rfl rfl (bnew_one wo _) (by intro u hu; simp at hu; subst hu; rfl) ?c3 ?c4 ?c5 ?_)
            case c3 => unfold maxLen; omega
            case c4 => omega
            case c5 => first | omega | (simp; omega)
            intro v' w1 hown' hgrow _
            have hb1 : Below w.heap.size w w1 := (hbw.alloc hsz _).grown hgrow (by simp; omega) (fun k hk => (HO.out.lt k hk).1)
            clear hgrow
            have HO1 := Lib.hid hown'; clear hown'
            go_wp2_with fail
            go_roundw
            case rel =>
              refine ⟨j + 1, bl ++ [c], by omega, by go_num, ?_, ?_, by simp; omega, hb1⟩
              · have h := HO1.out
                rw [bcells_snoc, List.length_append]
                skip
                exact h
              · rw [HST.out]
                unfold pstepS
                rw [if_pos (by rw [HOK.out]; simp), hu.out]
            case measure => simp [intOf]; omega
    · obtain rfl : j = s.size := by omega
      have hall : bl = s.data.toList.foldl pstepS [] := by rw [hbl, List.take_of_length_le (by rw [Array.length_toList]; exact Nat.le_refl _)]
      have HAL := Lib.hid hall; clear hall hbl
      have hsb : (ByteArray.mk bl.toArray).size = bl.length := by simp [ByteArray.size]
      have HT := Lib.hid (fun wX => Tryd.strings_TrimSuffix ⟨bl.toArray⟩ ⟨#[45]⟩ wX (by rw [hsb]; omega))
      clear hsb
      by_cases hn : bl = []
      · subst hn
        have hz := conv_zero_any A cp wo
        go_wp2_with fail
        refine (HT.out _).mono ?_
        rintro e w3 ⟨rfl, hw3⟩
        rw [hw3]
        clear hw3 w3
        dsimp only
        go_wp2_with fail
        go_ret
        exact ⟨by rw [← HAL.out]; simp, hbw⟩
      · obtain ⟨g, cap, hAg, hcells⟩ := brow_cells HO.out hn
        obtain ⟨rfl, rfl⟩ : A = some ⟨g, 0, none⟩ ∧ cp = cap := by simpa using hAg
        clear hAg
        have hback := run_convert_bytes_back (P := Tryd.prog) wo 24 9 5 ⟨g, 0, none⟩ cp bl Tryd.underlying24 Tryd.underlying5 Tryd.underlying9 hcells
        have HN := Lib.hid hn; clear hn hcells
        go_wp2_with fail
        refine (HT.out _).mono ?_
        rintro e w3 ⟨rfl, hw3⟩
        rw [hw3]
        clear hw3 w3
        dsimp only
        go_wp2_with fail
        go_ret
        exact ⟨by rw [← HAL.out]; simp, hbw⟩
end Go.Proofs.YtdigifhejhgeiaaDoor
