/- DERIVED. What joined, String, Skeleton of package tmpl and their references return: the joined strings. Condition: at most 2^21 letters and pieces. -/
import Derived.Test.YtfgekmfkaepgjaaPieces
import Derived.Test.YtfgekmfkaepgjaaBuilder
import Derived.Test.YtfgekmfkaepgjaaShelf
import Derived.WalkSpells
import Derived.WalkLawsBesides
import Derived.WalkSmall
import Derived.Lib.OthersKept
import Derived.Deep.AppendLies
import Derived.Maps.AppendAt
namespace Go.Proofs.Ytfgekmfkaepgjaa
set_option linter.unusedVariables false
open Go.RowKit
theorem strInfo : (Try.prog.info? 9).map (fun i => (i.zero, i.size, i.bytes)) = some (some (.string .empty), 1, 16) := by kernel_rfl
theorem ret_strJ {a b : List UInt8} (h : a = b) : Ending.returned (.string ⟨a.toArray⟩) = .returned (.string ⟨b.toArray⟩) := by rw [h]
theorem cell_one_newS (w : World) (b : Nat) (v : Value) (e : TypeId) (h : b = w.heap.size) : ∀ j u, [v][j]? = some u → (w.alloc (.cells #[v] e)).cell? ((⟨b, 0, none⟩ : Addr).add j) = some u := by
  subst h
  exact cell_one_new _ _ _
theorem own0 {w : World} {B size : Nat} {e : TypeId} {v : Value} {xs : List Value} (h : w.ownsRow B e size v 0 xs) : ∃ ao cp, v = .slice ao 0 cp := by
  rcases h.2 with ⟨hv, _⟩ | ⟨g, cap, cur, hv, _⟩
  · exact ⟨_, _, hv⟩
  · exact ⟨_, _, hv⟩
def pbox (c : Int) (s : ByteArray) : Obj := .cells #[.int .i64 c, .string s] 57
set_option maxRecDepth 100000 in
theorem str1_any (c : Int) (s : ByteArray) (w : World) :
    Calls Try.prog 35 #[.agg #[.int .i64 c, .string s]] w fun e w' => e = .returned (.string (txT (c, s))) ∧ w' = w.alloc (.cells #[.int .i64 c, .string s] 57) := by
  go_enter Try.func35, Try.ntmps35
  go_wp2_with fail
  go_ret
  exact ⟨rfl, rfl⟩

set_option maxRecDepth 100000 in
theorem skel1_any (c : Int) (s : ByteArray) (w : World) :
    Calls Try.prog 37 #[.agg #[.int .i64 c, .string s]] w fun e w' => e = .returned (.string (skT (c, s))) ∧ w' = w.alloc (.cells #[.int .i64 c, .string s] 57) := by
  by_cases h1 : c = 1
  · subst h1
    go_enter Try.func37, Try.ntmps37
    go_wp2_with fail
    go_ret
    exact ⟨rfl, rfl⟩
  by_cases h2 : c = 2
  · subst h2
    go_enter Try.func37, Try.ntmps37
    go_wp2_with fail
    go_ret
    exact ⟨rfl, rfl⟩
  by_cases h3 : c = 3
  · subst h3
    go_enter Try.func37, Try.ntmps37
    go_wp2_with fail
    go_ret
    exact ⟨rfl, rfl⟩
  by_cases h4 : c = 4
  · subst h4
    go_enter Try.func37, Try.ntmps37
    go_wp2_with fail
    go_ret
    exact ⟨rfl, rfl⟩
  by_cases h5 : c = 5
  · subst h5
    go_enter Try.func37, Try.ntmps37
    go_wp2_with fail
    go_ret
    exact ⟨rfl, rfl⟩
  have z1 : (c == 1) = false := by simpa using h1
  have z2 : (c == 2) = false := by simpa using h2
  have z3 : (c == 3) = false := by simpa using h3
  have z4 : (c == 4) = false := by simpa using h4
  have z5 : (c == 5) = false := by simpa using h5
  have hs : skT (c, s) = s := by
    unfold skT
    rw [if_neg (by rintro (h | h | h) <;> contradiction), if_neg h4, if_neg h5]
  rw [hs]
  clear h1 h2 h3 h4 h5 hs
  go_enter Try.func37, Try.ntmps37
  go_wp2_with fail
  go_ret
  exact ⟨rfl, rfl⟩
set_option maxRecDepth 100000 in
set_option maxHeartbeats 1000000 in
theorem joinedT_any (A : Option Addr) (n c : Nat) (l : List (Int × ByteArray)) (w : World) (hn : n = l.length) (hz : pz l ≤ 2097152) (hP : PiecesAt w w.heap.size A l) :
    Calls Try.prog 34 #[.slice A n c, .func (.func 35) #[] #[]] w fun e w' => e = .returned (.string ⟨(cat txT l).toArray⟩) ∧ Below w.heap.size w w' := by
  have HP := Lib.hid hP; clear hP
  have hlen := pz_len l
  have hnn : n ≤ 2097152 := by omega
  have HLN := Lib.hid hn
  have hkl : ∀ k, k < n → k < l.length := fun k h => by omega
  have HKL := Lib.hid hkl
  clear hn hkl
  go_enter Try.func34, Try.ntmps34
  go_wp2_with fail
  go_loopw [10] (fun i wr => ∃ k : Nat, k ≤ n ∧ i = .int .i64 k ∧ Bd w.heap.size w.heap.size (cat txT (l.take k)) wr ∧ Below w.heap.size w wr) (fun i _ => n - (intOf i).toNat)
  case atStart => exact ⟨0, Nat.zero_le _, rfl, Lib.IsBuilderF.of (Lib.fresh_isBuilder 39 5 w), (Below.refl _ _).alloc (Nat.le_refl _) _⟩
  case round =>
    obtain ⟨k, hk, rfl, hbd, hbw⟩ := hrel
    have hw := hbw.size
    by_cases hlt : k < n
    · obtain ⟨p, hp⟩ : ∃ p, l[k]? = some p := ⟨_, List.getElem?_eq_getElem (HKL.out k hlt)⟩
      obtain ⟨c1, s1⟩ := p
      obtain ⟨b, off, rfl, hb, x0, x1⟩ := HP.out k c1 s1 hp
      have g0 : wr.cell? ⟨b, off + k * 2, none⟩ = some (.int .i64 c1) := (hbw.cell hb).trans x0
      have g1 : wr.cell? ⟨b, off + k * 2 + 1, none⟩ = some (.string s1) := (hbw.cell hb).trans x1
      clear x0 x1
      have hs1 := pz_mem l k _ hp
      have hc1 := cat_len txT_size (l.take k)
      have hc2 := pz_take l k
      have hg := txT_size (c1, s1)
      have room : (Lib.byteCells (cat txT (l.take k))).length + (txT (c1, s1)).size ≤ 140737488355328 := by rw [Lib.byteCells_length]; simp only at hs1 hg; omega
      have HR := Lib.hid room
      have HBD := Lib.hid hbd
      have HT : l.take (k + 1) = l.take k ++ [(c1, s1)] := take_snocL hp
      have HTT := Lib.hid HT
      have HPK := Lib.hid hp
      clear room hbd HT hp hs1 hc1 hc2 hg hlen
      go_wp2_with fail
      refine (str1_any _ _ _).mono ?_
      rintro e w1 ⟨rfl, rfl⟩
      go_wp2_with (go_at_call 19; refine (writeString_any w.heap.size w.heap.size (Lib.byteCells (cat txT (l.take k))) (txT (c1, s1)) _ ((HBD.out.alloc _).alloc _) HR.out (by simp; omega)).mono ?_; rintro e w2 ⟨rfl, hb2, hbel2⟩)
      go_roundw
      case rel =>
        refine ⟨k + 1, by omega, by go_num, ?_, ((hbw.alloc hw _).alloc (by simp; omega) _).trans hbel2⟩
        have := hb2
        rw [HTT.out, cat_snoc]
        show Lib.IsBuilderF _ _ _ _ (Lib.byteCells (_ ++ _)) _
        rw [Lib.byteCells_append]
        exact this
      case measure => simp [intOf]; omega
    · have hkn : k = l.length := by have := HLN.out; omega
      have HK := Lib.hid hkn; clear hkn
      go_wp2_with (go_at_call 22; refine (Try.Builder_String_any_k w.heap.size w.heap.size (cat txT (l.take k)) _ hbd hw).mono ?_; rintro e w1 ⟨rfl, _, hbel1, _⟩)
      go_ret
      have e1 : cat txT (l.take k) = cat txT l := by rw [HK.out, List.take_length]
      exact ⟨ret_strJ e1, hbw.trans hbel1⟩

set_option maxRecDepth 100000 in
set_option maxHeartbeats 1000000 in
theorem joinedS_any (A : Option Addr) (n c : Nat) (l : List (Int × ByteArray)) (w : World) (hn : n = l.length) (hz : pz l ≤ 2097152) (hP : PiecesAt w w.heap.size A l) :
    Calls Try.prog 34 #[.slice A n c, .func (.func 37) #[] #[]] w fun e w' => e = .returned (.string ⟨(cat skT l).toArray⟩) ∧ Below w.heap.size w w' := by
  have HP := Lib.hid hP; clear hP
  have hlen := pz_len l
  have hnn : n ≤ 2097152 := by omega
  have HLN := Lib.hid hn
  have hkl : ∀ k, k < n → k < l.length := fun k h => by omega
  have HKL := Lib.hid hkl
  clear hn hkl
  go_enter Try.func34, Try.ntmps34
  go_wp2_with fail
  go_loopw [10] (fun i wr => ∃ k : Nat, k ≤ n ∧ i = .int .i64 k ∧ Bd w.heap.size w.heap.size (cat skT (l.take k)) wr ∧ Below w.heap.size w wr) (fun i _ => n - (intOf i).toNat)
  case atStart => exact ⟨0, Nat.zero_le _, rfl, Lib.IsBuilderF.of (Lib.fresh_isBuilder 39 5 w), (Below.refl _ _).alloc (Nat.le_refl _) _⟩
  case round =>
    obtain ⟨k, hk, rfl, hbd, hbw⟩ := hrel
    have hw := hbw.size
    by_cases hlt : k < n
    · obtain ⟨p, hp⟩ : ∃ p, l[k]? = some p := ⟨_, List.getElem?_eq_getElem (HKL.out k hlt)⟩
      obtain ⟨c1, s1⟩ := p
      obtain ⟨b, off, rfl, hb, x0, x1⟩ := HP.out k c1 s1 hp
      have g0 : wr.cell? ⟨b, off + k * 2, none⟩ = some (.int .i64 c1) := (hbw.cell hb).trans x0
      have g1 : wr.cell? ⟨b, off + k * 2 + 1, none⟩ = some (.string s1) := (hbw.cell hb).trans x1
      clear x0 x1
      have hs1 := pz_mem l k _ hp
      have hc1 := cat_len skT_size (l.take k)
      have hc2 := pz_take l k
      have hg := skT_size (c1, s1)
      have room : (Lib.byteCells (cat skT (l.take k))).length + (skT (c1, s1)).size ≤ 140737488355328 := by rw [Lib.byteCells_length]; simp only at hs1 hg; omega
      have HR := Lib.hid room
      have HBD := Lib.hid hbd
      have HT : l.take (k + 1) = l.take k ++ [(c1, s1)] := take_snocL hp
      have HTT := Lib.hid HT
      have HPK := Lib.hid hp
      clear room hbd HT hp hs1 hc1 hc2 hg hlen
      go_wp2_with fail
      refine (skel1_any _ _ _).mono ?_
      rintro e w1 ⟨rfl, rfl⟩
      go_wp2_with (go_at_call 19; refine (writeString_any w.heap.size w.heap.size (Lib.byteCells (cat skT (l.take k))) (skT (c1, s1)) _ ((HBD.out.alloc _).alloc _) HR.out (by simp; omega)).mono ?_; rintro e w2 ⟨rfl, hb2, hbel2⟩)
      go_roundw
      case rel =>
        refine ⟨k + 1, by omega, by go_num, ?_, ((hbw.alloc hw _).alloc (by simp; omega) _).trans hbel2⟩
        have := hb2
        rw [HTT.out, cat_snoc]
        show Lib.IsBuilderF _ _ _ _ (Lib.byteCells (_ ++ _)) _
        rw [Lib.byteCells_append]
        exact this
      case measure => simp [intOf]; omega
    · have hkn : k = l.length := by have := HLN.out; omega
      have HK := Lib.hid hkn; clear hkn
      go_wp2_with (go_at_call 22; refine (Try.Builder_String_any_k w.heap.size w.heap.size (cat skT (l.take k)) _ hbd hw).mono ?_; rintro e w1 ⟨rfl, _, hbel1, _⟩)
      go_ret
      have e1 : cat skT (l.take k) = cat skT l := by rw [HK.out, List.take_length]
      exact ⟨ret_strJ e1, hbw.trans hbel1⟩

set_option maxRecDepth 100000 in
theorem string_any (A : Option Addr) (n c : Nat) (l : List (Int × ByteArray)) (w : World) (hn : n = l.length) (hz : pz l ≤ 2097152) (hP : PiecesAt w w.heap.size A l) :
    Calls Try.prog 10 #[.slice A n c] w fun e w' => e = .returned (.string ⟨(cat txT l).toArray⟩) ∧ Below w.heap.size w w' := by
  have HJ := Lib.hid (fun wX (hX : wX = w) => by subst hX; exact joinedT_any A n c l wX hn hz hP)
  clear hP hz hn
  go_enter Try.func10, Try.ntmps10
  go_wp2_with fail
  refine (HJ.out _ rfl).mono ?_
  rintro e w1 ⟨rfl, hb1⟩
  go_wp2_with fail
  go_ret
  exact ⟨rfl, hb1⟩

set_option maxRecDepth 100000 in
theorem skeleton_any (A : Option Addr) (n c : Nat) (l : List (Int × ByteArray)) (w : World) (hn : n = l.length) (hz : pz l ≤ 2097152) (hP : PiecesAt w w.heap.size A l) :
    Calls Try.prog 12 #[.slice A n c] w fun e w' => e = .returned (.string ⟨(cat skT l).toArray⟩) ∧ Below w.heap.size w w' := by
  have HJ := Lib.hid (fun wX (hX : wX = w) => by subst hX; exact joinedS_any A n c l wX hn hz hP)
  clear hP hz hn
  go_enter Try.func12, Try.ntmps12
  go_wp2_with fail
  refine (HJ.out _ rfl).mono ?_
  rintro e w1 ⟨rfl, hb1⟩
  go_wp2_with fail
  go_ret
  exact ⟨rfl, hb1⟩

end Go.Proofs.Ytfgekmfkaepgjaa
