/- DERIVED. What checkNames of package page and argsError of the reference return for arguments in memory: the same, where there are at most twelve. Condition: at most 2^20 arguments. -/
import Derived.Test.YtfmmpfoecjehiaaReadLine
namespace Go.Proofs.Ytfmmpfoecjehiaa
set_option linter.unusedVariables false
open Go.RowKit
abbrev AB := ByteArray × ByteArray
/-- Arguments lie in memory, below block B, as a slice with address A. -/
def AAt (w : World) (B : Nat) (A : Option Addr) (l : List AB) : Prop :=
  ∀ j n v, l[j]? = some (n, v) → ∃ b off, A = some ⟨b, off, none⟩ ∧ b < B ∧ w.cell? ⟨b, off + j * 2, none⟩ = some (.string n) ∧ w.cell? ⟨b, off + j * 2 + 1, none⟩ = some (.string v)
theorem AAt.below {w w' : World} {B : Nat} {A : Option Addr} {l : List AB} (h : AAt w B A l) (hb : Below B w w') : AAt w' B A l := fun j n v hj => by
  obtain ⟨b, off, e, hlt, x0, x1⟩ := h j n v hj
  exact ⟨b, off, e, hlt, (hb.cell hlt).trans x0, (hb.cell hlt).trans x1⟩
theorem AAt.more {w : World} {B B' : Nat} {A : Option Addr} {l : List AB} (h : AAt w B A l) (hB : B ≤ B') : AAt w B' A l := fun j n v hj => by
  obtain ⟨b, off, e, hlt, x⟩ := h j n v hj
  exact ⟨b, off, e, Nat.lt_of_lt_of_le hlt hB, x⟩
def gB (gs : List (L8 × L8)) : List AB := gs.map fun a => (bs a.1, bs a.2)
theorem acells_at : ∀ (gs : List (L8 × L8)) (j : Nat) (n v : ByteArray), (gB gs)[j]? = some (n, v) → (acells gs)[j * 2]? = some (.string n) ∧ (acells gs)[j * 2 + 1]? = some (.string v)
  | [], j, n, v, h => by simp [gB] at h
  | a :: r, 0, n, v, h => by
    simp [gB] at h
    obtain ⟨rfl, rfl⟩ := h
    simp [acells]
  | a :: r, j + 1, n, v, h => by
    have h2 : (gB r)[j]? = some (n, v) := by simpa [gB] using h
    have := acells_at r j n v h2
    have e : acells (a :: r) = .string (bs a.1) :: .string (bs a.2) :: acells r := by simp [acells]
    rw [e, show (j + 1) * 2 = j * 2 + 1 + 1 by omega]
    simpa using this
theorem aat_own {w : World} {base k c : Nat} {A : Option Addr} {gs : List (L8 × L8)} {e : TypeId} (h : w.ownsRow base e 2 (.slice A k c) k (acells gs)) (hk : k = gs.length) : AAt w w.heap.size A (gB gs) := fun j n v hj => by
  have hc := acells_at gs j n v hj
  rcases h.2 with ⟨hv, h0⟩ | ⟨g, cap, cur, hv, h1, h2, h3⟩
  · have : j < (gB gs).length := (List.getElem?_eq_some_iff.1 hj).1
    simp [gB] at this
    omega
  · injection hv with hv1 hv2 hv3
    subst hv1
    have hcell := h.cells (g := g) rfl
    refine ⟨g, 0, rfl, (h.lt g rfl).2, ?_, ?_⟩
    · have := hcell _ _ hc.1
      unfold Addr.add at this
      by_cases hz : j * 2 = 0
      · rw [if_pos hz] at this
        rw [hz]
        exact this
      · rw [if_neg hz] at this
        exact this
    · have := hcell _ _ hc.2
      unfold Addr.add at this
      rw [if_neg (by omega)] at this
      rw [Nat.add_assoc]
      exact this
/-! ### Names -/
def tw1 (l : List AB) (i j : Nat) : Bool := match l[i]?, l[j]? with
  | some a, some b => !a.1.toList.isEmpty && (a.1.toList == b.1.toList)
  | _, _ => false
def un1 (l : List AB) (i j : Nat) : Bool := match l[i]?, l[j]? with
  | some a, some b => a.1.toList.isEmpty && !b.1.toList.isEmpty
  | _, _ => false
def twI (l : List AB) (i j : Nat) : Bool := (List.range j).any (tw1 l i)
def unI (l : List AB) (i j : Nat) : Bool := (List.range j).any (un1 l i)
def twK (l : List AB) (k : Nat) : Bool := (List.range k).any fun i => twI l i i
def unK (l : List AB) (k : Nat) : Bool := (List.range k).any fun i => unI l i i
def adK (l : List AB) (k : Nat) : Bool := (List.range k).any fun i => decide (0 < i) && un1 l i (i - 1)
theorem any_succ (f : Nat → Bool) (k : Nat) : (List.range (k + 1)).any f = ((List.range k).any f || f k) := by simp [List.range_succ]
theorem twK_mono {l : List AB} {i j n : Nat} (hj : j < i) (hi : i < n) (h : tw1 l i j = true) : twK l n = true :=
  List.any_eq_true.2 ⟨i, List.mem_range.2 hi, List.any_eq_true.2 ⟨j, List.mem_range.2 hj, h⟩⟩
theorem adK_mono {l : List AB} {i n : Nat} (h0 : 0 < i) (hi : i < n) (h : un1 l i (i - 1) = true) : adK l n = true :=
  List.any_eq_true.2 ⟨i, List.mem_range.2 hi, by rw [decide_eq_true h0, h]; rfl⟩
theorem un_step : ∀ (l : List AB) (d i j : Nat), i = j + d + 1 → i < l.length → un1 l i j = true → ∃ m, 0 < m ∧ m ≤ i ∧ un1 l m (m - 1) = true
  | l, 0, i, j, hi, _, h => ⟨i, by omega, Nat.le_refl _, by rw [show i - 1 = j by omega]; exact h⟩
  | l, d + 1, i, j, hi, hl, h => by
    have ha : l[i]? = some l[i] := List.getElem?_eq_getElem hl
    have hb : l[j]? = some l[j] := List.getElem?_eq_getElem (by omega)
    have hc : l[i - 1]? = some l[i - 1] := List.getElem?_eq_getElem (by omega)
    unfold un1 at h
    rw [ha, hb] at h
    simp only [Bool.and_eq_true] at h
    cases hp : (l[i - 1]).1.toList.isEmpty with
    | true =>
      obtain ⟨m, h1, h2, h3⟩ := un_step l d (i - 1) j (by omega) (by omega) (by unfold un1; rw [hc, hb]; simp only [Bool.and_eq_true]; exact ⟨hp, h.2⟩)
      exact ⟨m, h1, by omega, h3⟩
    | false => exact ⟨i, by omega, Nat.le_refl _, by unfold un1; rw [ha, hc]; simp only [Bool.and_eq_true]; exact ⟨h.1, by rw [hp]; rfl⟩⟩
theorem un_ad (l : List AB) : unK l l.length = adK l l.length := by
  rw [Bool.eq_iff_iff]
  constructor
  · intro h
    obtain ⟨i, hi, h⟩ := List.any_eq_true.1 h
    obtain ⟨j, hj, h⟩ := List.any_eq_true.1 h
    have hi := List.mem_range.1 hi
    have hj := List.mem_range.1 hj
    obtain ⟨m, h1, h2, h3⟩ := un_step l (i - j - 1) i j (by omega) hi h
    exact adK_mono h1 (by omega) h3
  · intro h
    obtain ⟨i, hi, h⟩ := List.any_eq_true.1 h
    simp only [Bool.and_eq_true, decide_eq_true_eq] at h
    exact List.any_eq_true.2 ⟨i, hi, List.any_eq_true.2 ⟨i - 1, List.mem_range.2 (by omega), h.2⟩⟩
def nmErr (l : List AB) : Int := if twK l l.length = true then 6 else if unK l l.length = true then 5 else 0
def agErr (l : List AB) : Int := if 12 < l.length then 4 else nmErr l
theorem tw1_eq {l : List AB} {i j : Nat} {n v n' v' : ByteArray} (h : l[i]? = some (n, v)) (h' : l[j]? = some (n', v')) : tw1 l i j = (!n.toList.isEmpty && (n.toList == n'.toList)) := by unfold tw1; rw [h, h']
theorem un1_eq {l : List AB} {i j : Nat} {n v n' v' : ByteArray} (h : l[i]? = some (n, v)) (h' : l[j]? = some (n', v')) : un1 l i j = (n.toList.isEmpty && !n'.toList.isEmpty) := by unfold un1; rw [h, h']
theorem size0A {s : ByteArray} (h : s.size = 0) : s = ⟨#[]⟩ := by
  obtain ⟨⟨l⟩⟩ := s
  cases l with
  | nil => rfl
  | cons a r => exact absurd h (by show ¬ (r.length + 1 = 0); omega)
theorem nonA {s : ByteArray} (h : s.size ≠ 0) : s.toList.isEmpty = false := toListN (by omega)
theorem ret_bool {a b : Bool} (h : a = b) : Value.bool a = .bool b := by rw [h]
set_option maxRecDepth 100000 in
set_option maxHeartbeats 2000000 in
theorem checkNames_any (A : Option Addr) (n c : Nat) (l : List AB) (w : World) (hn : n = l.length) (hnm : n ≤ 1048576) (hnc : n ≤ c) (hE : AAt w w.heap.size A l) :
    Calls Try.prog 15 #[.slice A n c] w fun e w' => e = .returned (.int .i64 (nmErr l)) ∧ Below w.heap.size w w' := by
  have HE := Lib.hid hE; clear hE
  have HN := Lib.hid hn; clear hn
  go_enter Try.func15, Try.ntmps15
  go_wp2_with fail
  go_loopw [3, 10] (fun o i wr => ∃ k : Nat, k ≤ n ∧ i = .int .i64 k ∧ o = .bool (!unK l k) ∧ twK l k = false ∧ Below w.heap.size w wr) (fun _ i _ => n - (intOf i).toNat)
  case atStart => exact ⟨0, Nat.zero_le _, rfl, rfl, rfl, Below.refl _ _⟩
  case round =>
    obtain ⟨k, hk, rfl, rfl, htw, hbw⟩ := hrel
    have hw := hbw.size
    have HTW := Lib.hid htw; clear htw
    obtain ⟨wo, rfl⟩ : ∃ wo : World, wo = wr := ⟨_, rfl⟩
    by_cases hlt : k < n
    · obtain ⟨⟨nm, v⟩, hp⟩ : ∃ p, l[k]? = some p := ⟨_, List.getElem?_eq_getElem (by rw [← HN.out]; exact hlt)⟩
      obtain ⟨b, off, rfl, hb, x0, x1⟩ := HE.out k nm v hp
      have g0 := (hbw.cell (p := ⟨b, off + k * 2, none⟩) hb).trans x0
      have g1 := (hbw.cell (p := ⟨b, off + k * 2 + 1, none⟩) hb).trans x1
      clear x0 x1
      have HP := Lib.hid hp; clear hp
      have hblt : b < wo.heap.size := by omega
      obtain ⟨u0, hu0⟩ : ∃ u0, unK l k = u0 := ⟨_, rfl⟩
      rw [hu0]
      have HU := Lib.hid hu0; clear hu0
      have k0 : (0 : Int) ≤ (k : Int) := by omega
      have k1 : (k : Int) ≤ (c : Int) := by omega
      have k2 : k ≤ c := by omega
      obtain ⟨W2, hW2⟩ : ∃ W2, wo.alloc (.cells #[.string nm, .string v] 43) = W2 := ⟨_, rfl⟩
      have hb2 : Below wo.heap.size wo W2 := by rw [← hW2]; exact (Below.refl _ _).alloc (Nat.le_refl _) _
      have hs2 : W2.heap.size = wo.heap.size + 1 := by rw [← hW2]; simp
      have z0 : W2.cell? ⟨wo.heap.size, 0, none⟩ = some (.string nm) := by rw [← hW2]; exact Lib.cell_of_heap (heap_alloc_new wo _) 0
      have Z0 := Lib.hid z0
      have HB2 := Lib.hid (And.intro hb2 (And.intro hs2 hbw))
      clear hb2 hs2
      go_wp2_with fail
      try rw [hW2]
      go_loopw [3, 19] (fun o i wr => ∃ j : Nat, j ≤ k ∧ i = .int .i64 j ∧ o = .bool (!(u0 || unI l k j)) ∧ twI l k j = false ∧ Below (wo.heap.size + 1) W2 wr) (fun _ i _ => k - (intOf i).toNat)
      case atStart => exact ⟨0, Nat.zero_le _, rfl, by simp [unI], rfl, Below.refl _ _⟩
      case round =>
        obtain ⟨j, hj, rfl, rfl, htj, hbj⟩ := hrel
        have hwj := hbj.size
        have HTJ := Lib.hid htj; clear htj
        have hbE : Below w.heap.size w wr := HB2.out.2.2.trans ((HB2.out.1.trans (hbj.mono (by omega))).mono hw)
        have hblj : b < wr.heap.size := Nat.lt_of_lt_of_le hb hbE.size
        by_cases hjk : j < k
        · obtain ⟨⟨nm2, v2⟩, hp2⟩ : ∃ p, l[j]? = some p := ⟨_, List.getElem?_eq_getElem (by have := HN.out; omega)⟩
          obtain ⟨b', off', he', hb', x0, x1⟩ := HE.out j nm2 v2 hp2
          cases he'
          have g2 := (hbE.cell (p := ⟨b, off + j * 2, none⟩) hb).trans x0
          have g3 := (hbE.cell (p := ⟨b, off + j * 2 + 1, none⟩) hb).trans x1
          have g4 := (hbj.cell (p := ⟨wo.heap.size, 0, none⟩) (Nat.lt_succ_self _)).trans Z0.out
          clear x0 x1
          have hrj : wo.heap.size < wr.heap.size := by have := HB2.out.2.1; omega
          have HT1 := Lib.hid (tw1_eq HP.out hp2)
          have HU1 := Lib.hid (un1_eq HP.out hp2)
          have HBE := Lib.hid hbE
          clear hp2 hbE
          obtain ⟨u1, hu1⟩ : ∃ u1, unI l k j = u1 := ⟨_, rfl⟩
          rw [hu1]
          have HU1J := Lib.hid hu1; clear hu1
          have hbelow : ∀ o, Below (wo.heap.size + 1) W2 (wr.alloc o) := fun o => hbj.trans ((Below.refl _ _).alloc (by omega) _)
          have HBO := Lib.hid hbelow; clear hbelow
          by_cases hz : nm.size = 0
          · obtain rfl := size0A hz
            by_cases hz2 : nm2.size = 0
            · obtain rfl := size0A hz2
              cases hu : (u0 || u1) with
              | true =>
                go_wp2_with fail
                go_roundw
                case rel => exact ⟨j + 1, by omega, by go_num, ret_bool (by unfold unI at *; rw [any_succ]; have := HU1J.out; unfold unI at this; rw [this, HU1.out, ← Bool.or_assoc, hu]; simp), by unfold twI; rw [any_succ]; have := HTJ.out; unfold twI at this; rw [this, HT1.out]; simp, HBO.out _⟩
                case measure => simp [intOf]; omega
              | false =>
                go_wp2_with fail
                go_roundw
                case rel => exact ⟨j + 1, by omega, by go_num, ret_bool (by unfold unI at *; rw [any_succ]; have := HU1J.out; unfold unI at this; rw [this, HU1.out, ← Bool.or_assoc, hu]; simp), by unfold twI; rw [any_succ]; have := HTJ.out; unfold twI at this; rw [this, HT1.out]; simp, HBO.out _⟩
                case measure => simp [intOf]; omega
            · have ne2 := nonA hz2
              have HE2 := Lib.hid ne2
              clear hz2
              cases hu : (u0 || u1) with
              | true =>
                go_wp2_with fail
                go_roundw
                case rel => exact ⟨j + 1, by omega, by go_num, ret_bool (by unfold unI at *; rw [any_succ]; have := HU1J.out; unfold unI at this; rw [this, HU1.out, ← Bool.or_assoc, hu]; simp), by unfold twI; rw [any_succ]; have := HTJ.out; unfold twI at this; rw [this, HT1.out]; simp, HBO.out _⟩
                case measure => simp [intOf]; omega
              | false =>
                go_wp2_with fail
                go_roundw
                case rel => exact ⟨j + 1, by omega, by go_num, ret_bool (by unfold unI at *; rw [any_succ]; have := HU1J.out; unfold unI at this; rw [this, HU1.out, ← Bool.or_assoc, hu, HE2.out]; simp), by unfold twI; rw [any_succ]; have := HTJ.out; unfold twI at this; rw [this, HT1.out]; simp, HBO.out _⟩
                case measure => simp [intOf]; omega
          · have ne1 := nonA hz
            have HE1 := Lib.hid ne1
            clear hz
            cases heq : (nm.toList == nm2.toList) with
            | true =>
              have HR := Lib.hid (show nmErr l = 6 by
                unfold nmErr
                rw [if_pos (twK_mono hjk (by have := HN.out; omega) (by rw [HT1.out, HE1.out, heq]; rfl))])
              go_wp2_with fail
              go_ret
              exact ⟨by rw [HR.out]; rfl, HBE.out.trans ((Below.refl _ _).alloc (by have := HBE.out.size; omega) _)⟩
            | false =>
              have HEQ := Lib.hid heq
              cases hu : (u0 || u1) with
              | true =>
                go_wp2_with fail
                go_roundw
                case rel => exact ⟨j + 1, by omega, by go_num, ret_bool (by unfold unI at *; rw [any_succ]; have := HU1J.out; unfold unI at this; rw [this, HU1.out, ← Bool.or_assoc, hu]; simp), by unfold twI; rw [any_succ]; have := HTJ.out; unfold twI at this; rw [this, HT1.out, HEQ.out]; simp, HBO.out _⟩
                case measure => simp [intOf]; omega
              | false =>
                go_wp2_with fail
                go_roundw
                case rel => exact ⟨j + 1, by omega, by go_num, ret_bool (by unfold unI at *; rw [any_succ]; have := HU1J.out; unfold unI at this; rw [this, HU1.out, ← Bool.or_assoc, hu, HE1.out]; simp), by unfold twI; rw [any_succ]; have := HTJ.out; unfold twI at this; rw [this, HT1.out, HEQ.out]; simp, HBO.out _⟩
                case measure => simp [intOf]; omega
        · obtain rfl : j = k := by omega
          go_wp2_with fail
          go_roundw
          case rel => exact ⟨j + 1, by omega, by go_num, ret_bool (by unfold unK; rw [any_succ]; have := HU.out; unfold unK at this; rw [this]), by unfold twK; rw [any_succ]; have := HTW.out; unfold twK at this; rw [this, HTJ.out]; rfl, hbE⟩
          case measure => simp [intOf]; omega
    · have hkn : k = l.length := by have := HN.out; omega
      cases hu : unK l k with
      | true =>
        have HR := Lib.hid (show nmErr l = 5 by unfold nmErr; rw [← hkn, HTW.out, hu]; rfl)
        clear hkn hu
        go_wp2_with fail
        go_ret
        exact ⟨by rw [HR.out]; rfl, hbw⟩
      | false =>
        have HR := Lib.hid (show nmErr l = 0 by unfold nmErr; rw [← hkn, HTW.out, hu]; rfl)
        clear hkn hu
        go_wp2_with fail
        go_ret
        exact ⟨by rw [HR.out]; rfl, hbw⟩
set_option maxRecDepth 100000 in
set_option maxHeartbeats 2000000 in
theorem argsError_any (A : Option Addr) (n c : Nat) (l : List AB) (w : World) (hn : n = l.length) (hnm : n ≤ 1048576) (hnc : n ≤ c) (hE : AAt w w.heap.size A l) :
    Calls Try.prog 22 #[.slice A n c] w fun e w' => e = .returned (.int .i64 (agErr l)) ∧ Below w.heap.size w w' := by
  by_cases h12 : (12 : Int) < (n : Int)
  · have HR := Lib.hid (show agErr l = 4 by unfold agErr; rw [if_pos (by omega)])
    have h12n : 12 < n := by omega
    clear hE hn
    go_enter Try.func22, Try.ntmps22
    go_wp2_with fail
    go_ret
    exact ⟨by rw [HR.out]; rfl, Below.refl _ _⟩
  · have h12n : n ≤ 12 := by omega
    have HA := Lib.hid (show agErr l = nmErr l by unfold agErr; rw [if_neg (by omega)])
    have had := un_ad l
    rw [← hn] at had
    have HAD := Lib.hid had; clear had
    have HE := Lib.hid hE; clear hE
    have HN := Lib.hid hn; clear hn
    go_enter Try.func22, Try.ntmps22
    go_wp2_with fail
    go_loopw [14] (fun i wr => ∃ k : Nat, k ≤ n ∧ i = .int .i64 k ∧ twK l k = false ∧ Below w.heap.size w wr) (fun i _ => n - (intOf i).toNat)
    case atStart => exact ⟨0, Nat.zero_le _, rfl, rfl, Below.refl _ _⟩
    case round =>
      obtain ⟨k, hk, rfl, htw, hbw⟩ := hrel
      have hw := hbw.size
      have HTW := Lib.hid htw; clear htw
      obtain ⟨wo, rfl⟩ : ∃ wo : World, wo = wr := ⟨_, rfl⟩
      by_cases hlt : k < n
      · obtain ⟨⟨nm, v⟩, hp⟩ : ∃ p, l[k]? = some p := ⟨_, List.getElem?_eq_getElem (by rw [← HN.out]; exact hlt)⟩
        obtain ⟨b, off, rfl, hb, x0, x1⟩ := HE.out k nm v hp
        have g0 := (hbw.cell (p := ⟨b, off + k * 2, none⟩) hb).trans x0
        have g1 := (hbw.cell (p := ⟨b, off + k * 2 + 1, none⟩) hb).trans x1
        clear x0 x1
        have HP := Lib.hid hp; clear hp
        have hblt : b < wo.heap.size := by omega
        have k0 : (0 : Int) ≤ (k : Int) := by omega
        have k1 : (k : Int) ≤ (c : Int) := by omega
        have k2 : k ≤ c := by omega
        obtain ⟨W2, hW2⟩ : ∃ W2, wo.alloc (.cells #[.string nm, .string v] 43) = W2 := ⟨_, rfl⟩
        have hb2 : Below wo.heap.size wo W2 := by rw [← hW2]; exact (Below.refl _ _).alloc (Nat.le_refl _) _
        have hs2 : W2.heap.size = wo.heap.size + 1 := by rw [← hW2]; simp
        have z0 : W2.cell? ⟨wo.heap.size, 0, none⟩ = some (.string nm) := by rw [← hW2]; exact Lib.cell_of_heap (heap_alloc_new wo _) 0
        have Z0 := Lib.hid z0
        have HB2 := Lib.hid (And.intro hb2 (And.intro hs2 hbw))
        clear hb2 hs2
        go_wp2_with fail
        try rw [hW2]
        go_loopw [23] (fun i wj => ∃ j : Nat, j ≤ k ∧ i = .int .i64 j ∧ twI l k j = false ∧ Below (wo.heap.size + 1) W2 wj) (fun i _ => k - (intOf i).toNat)
        case atStart => exact ⟨0, Nat.zero_le _, rfl, rfl, Below.refl _ _⟩
        case round =>
          obtain ⟨j, hj, rfl, htj, hbj⟩ := hrel
          have hwj := hbj.size
          have HTJ := Lib.hid htj; clear htj
          have hbE : Below w.heap.size w wr := HB2.out.2.2.trans ((HB2.out.1.trans (hbj.mono (by omega))).mono hw)
          have hblj : b < wr.heap.size := Nat.lt_of_lt_of_le hb hbE.size
          by_cases hjk : j < k
          · obtain ⟨⟨nm2, v2⟩, hp2⟩ : ∃ p, l[j]? = some p := ⟨_, List.getElem?_eq_getElem (by have := HN.out; omega)⟩
            obtain ⟨b', off', he', hb', x0, x1⟩ := HE.out j nm2 v2 hp2
            cases he'
            have g2 := (hbE.cell (p := ⟨b, off + j * 2, none⟩) hb).trans x0
            have g3 := (hbE.cell (p := ⟨b, off + j * 2 + 1, none⟩) hb).trans x1
            have g4 := (hbj.cell (p := ⟨wo.heap.size, 0, none⟩) (Nat.lt_succ_self _)).trans Z0.out
            clear x0 x1
            have hrj : wo.heap.size < wr.heap.size := by have := HB2.out.2.1; omega
            have HT1 := Lib.hid (tw1_eq HP.out hp2)
            have HBE := Lib.hid hbE
            clear hp2 hbE
            have hbelow : ∀ o, Below (wo.heap.size + 1) W2 (wr.alloc o) := fun o => hbj.trans ((Below.refl _ _).alloc (by omega) _)
            have HBO := Lib.hid hbelow; clear hbelow
            by_cases hz : nm.size = 0
            · obtain rfl := size0A hz
              go_wp2_with fail
              go_roundw
              case rel => exact ⟨j + 1, by omega, by go_num, by unfold twI; rw [any_succ]; have := HTJ.out; unfold twI at this; rw [this, HT1.out]; simp, HBO.out _⟩
              case measure => simp [intOf]; omega
            · have ne1 := nonA hz
              have HE1 := Lib.hid ne1
              clear hz
              cases heq : (nm.toList == nm2.toList) with
              | true =>
                have HR := Lib.hid (show nmErr l = 6 by
                  unfold nmErr
                  rw [if_pos (twK_mono hjk (by have := HN.out; omega) (by rw [HT1.out, HE1.out, heq]; rfl))])
                go_wp2_with fail
                go_ret
                exact ⟨by rw [HA.out, HR.out]; rfl, HBE.out.trans ((Below.refl _ _).alloc (by have := HBE.out.size; omega) _)⟩
              | false =>
                have HEQ := Lib.hid heq
                go_wp2_with fail
                go_roundw
                case rel => exact ⟨j + 1, by omega, by go_num, by unfold twI; rw [any_succ]; have := HTJ.out; unfold twI at this; rw [this, HT1.out, HEQ.out]; simp, HBO.out _⟩
                case measure => simp [intOf]; omega
          · obtain rfl : j = k := by omega
            go_wp2_with fail
            go_roundw
            case rel => exact ⟨j + 1, by omega, by go_num, by unfold twK; rw [any_succ]; have := HTW.out; unfold twK at this; rw [this, HTJ.out]; rfl, hbE⟩
            case measure => simp [intOf]; omega
      · have hkn : k = n := by omega
        have HT := Lib.hid (show twK l l.length = false by rw [← HN.out, ← hkn]; exact HTW.out)
        have HBW := Lib.hid hbw
        clear hkn hbw
        go_wp2_with fail
        go_loopw [41] (fun i wj => ∃ j : Nat, j ≤ n ∧ i = .int .i64 j ∧ adK l j = false ∧ Below w.heap.size w wj) (fun i _ => n - (intOf i).toNat)
        case atStart => exact ⟨0, Nat.zero_le _, rfl, rfl, HBW.out⟩
        case round =>
          obtain ⟨j, hj, rfl, htj, hbj⟩ := hrel
          have hwj := hbj.size
          have HTJ := Lib.hid htj; clear htj
          by_cases hjn : j < n
          · obtain ⟨⟨nm, v⟩, hp⟩ : ∃ p, l[j]? = some p := ⟨_, List.getElem?_eq_getElem (by rw [← HN.out]; exact hjn)⟩
            obtain ⟨b, off, rfl, hb, x0, x1⟩ := HE.out j nm v hp
            have g0 := (hbj.cell (p := ⟨b, off + j * 2, none⟩) hb).trans x0
            have g1 := (hbj.cell (p := ⟨b, off + j * 2 + 1, none⟩) hb).trans x1
            clear x0 x1
            have hblt : b < wr.heap.size := by omega
            have hbelow : ∀ o, Below w.heap.size w (wr.alloc o) := fun o => hbj.trans ((Below.refl _ _).alloc (by omega) _)
            have HBO := Lib.hid hbelow; clear hbelow
            by_cases hj0 : j = 0
            · subst hj0
              simp only [Nat.zero_mul, Nat.add_zero] at g0 g1
              go_wp2_with fail
              go_roundw
              case rel => exact ⟨1, by omega, rfl, rfl, HBO.out _⟩
              case measure => simp [intOf]; omega
            · obtain ⟨⟨nm2, v2⟩, hp2⟩ : ∃ p, l[j - 1]? = some p := ⟨_, List.getElem?_eq_getElem (by have := HN.out; omega)⟩
              obtain ⟨b', off', he', hb', x0, x1⟩ := HE.out (j - 1) nm2 v2 hp2
              cases he'
              have g2 := (hbj.cell (p := ⟨b, off + (j - 1) * 2, none⟩) hb).trans x0
              have g3 := (hbj.cell (p := ⟨b, off + (j - 1) * 2 + 1, none⟩) hb).trans x1
              clear x0 x1
              have HU1 := Lib.hid (un1_eq hp hp2)
              have hjp : 0 < j := by omega
              have hjpi : (0 : Int) < (j : Int) := by omega
              have i1 : (0 : Int) ≤ (j : Int) - 1 := by omega
              have i2 : (1 : Int) ≤ (j : Int) := by omega
              have i3 : ((j : Int) - 1).toNat = j - 1 := by omega
              have i4 : (j : Int) - 1 < (n : Int) := by omega
              have HJP := Lib.hid hjp
              clear hp hp2 hj0
              by_cases hz : nm.size = 0
              · obtain rfl := size0A hz
                by_cases hz2 : nm2.size = 0
                · obtain rfl := size0A hz2
                  go_wp2_with fail
                  go_roundw
                  case rel => exact ⟨j + 1, by omega, by go_num, by unfold adK; rw [any_succ]; have := HTJ.out; unfold adK at this; rw [this, HU1.out]; simp, HBO.out _⟩
                  case measure => simp [intOf]; omega
                · have ne2 := nonA hz2
                  have HE2 := Lib.hid ne2
                  clear hz2
                  have HR := Lib.hid (show nmErr l = 5 by
                    unfold nmErr
                    rw [HT.out, if_neg (by simp), ← HN.out, HAD.out, if_pos (adK_mono HJP.out hjn (by rw [HU1.out, HE2.out]; simp))])
                  go_wp2_with fail
                  go_ret
                  exact ⟨by rw [HA.out, HR.out]; rfl, HBO.out _⟩
              · have ne1 := nonA hz
                have HE1 := Lib.hid ne1
                clear hz
                go_wp2_with fail
                go_roundw
                case rel => exact ⟨j + 1, by omega, by go_num, by unfold adK; rw [any_succ]; have := HTJ.out; unfold adK at this; rw [this, HU1.out, HE1.out]; simp, HBO.out _⟩
                case measure => simp [intOf]; omega
          · have hjn2 : j = n := by omega
            have HR := Lib.hid (show nmErr l = 0 by
              unfold nmErr
              rw [HT.out, if_neg (by simp), ← HN.out, HAD.out, ← hjn2, HTJ.out, if_neg (by simp)])
            clear hjn2
            go_wp2_with fail
            go_ret
            exact ⟨by rw [HA.out, HR.out]; rfl, hbj⟩
end Go.Proofs.Ytfmmpfoecjehiaa
