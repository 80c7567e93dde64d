/- DERIVED. The plain string that the reference makes of a document without error: PlainOf, by induction over the document. Condition: at most 2^40 nodes and letters. -/
import Derived.Test.YtmaahkonjpcgiaaPlainWords
import Derived.Lib.SmallJoins
set_option linter.unusedSimpArgs false
set_option linter.unusedVariables false
namespace Go.Proofs.Ytmaahkonjpcgiaa
open Go.RowKit

theorem pl_app (l : List UInt8) (s : ByteArray) : (⟨l.toArray⟩ : ByteArray) ++ s = ⟨(l ++ s.data.toList).toArray⟩ := by
  apply ByteArray.ext
  simp [ByteArray.data_append]
theorem pl_next {o c : ByteArray} {a b : List UInt8} (ho : o = ⟨a.toArray⟩) (hb : b = a ++ c.data.toList) : Value.string (o ++ c) = .string ⟨b.toArray⟩ := by
  subst ho; subst hb
  rw [pl_app]
theorem pl_size {o : ByteArray} {a : List UInt8} (h : o = ⟨a.toArray⟩) : o.size = a.length := by
  subst h
  show a.toArray.size = a.length
  simp
theorem app_list (a b : ByteArray) : (a ++ b).data.toList = a.data.toList ++ b.data.toList := by simp [ByteArray.data_append]
theorem retS {a b : List UInt8} (h : a = b) : Ending.returned (.string ⟨a.toArray⟩) = .returned (.string ⟨b.toArray⟩) := by rw [h]

set_option maxRecDepth 100000 in
set_option maxHeartbeats 1600000 in
theorem plainOf_any (N : Nat) : ∀ (a : Doc) (p : Int) (A : Option Addr) (n c : Nat) (w : World), a.nodes ≤ N → a.letters + 2 * a.nodes ≤ 1099511627776 → a.err p = 0 → a.At w w.heap.size A n →
    Calls Try.prog 18 #[.slice A n c] w fun e w' => e = .returned (.string ⟨(a.plain true).toArray⟩) ∧ Below w.heap.size w w' := by
  induction N with
  | zero =>
    intro a p A n c w hN _ _ ha
    have h0 : a = .nil := by
      cases a with
      | nil => rfl
      | cons => simp [Doc.nodes] at hN
    subst h0
    obtain rfl : n = 0 := ha.len_eq
    clear ha hN
    go_enter Try.func18, Try.ntmps18
    go_wp2_with fail
    refine wp_loop_rounds 1 ?_
    rw [rounds_succ]
    go_wp2_with fail
    go_ret
    exact ⟨rfl, Below.refl _ _⟩
  | succ N ih =>
    intro a p A n c w hN hbig herr ha
    have IH := Lib.hid ih; clear ih
    have hnl := ha.len_eq
    have hn : n ≤ 1099511627776 := by
      have h1 := Doc.len_le a
      omega
    have HNL := Lib.hid hnl; clear hnl
    have HA := Lib.hid ha; clear ha
    have HER := Lib.hid herr; clear herr
    obtain ⟨total, htot⟩ : ∃ total, a.plain true = total := ⟨_, rfl⟩
    have hlen : total.length ≤ 1099511627776 := by
      have := Doc.plain_len a true
      rw [← htot]; omega
    have HT := Lib.hid htot
    rw [htot]
    clear htot
    go_enter Try.func18, Try.ntmps18
    go_wp2_with fail
    go_loopw [3, 8] (fun s i wr => ∃ (k : Nat) (x : List UInt8), k ≤ n ∧ i = .int .i64 k ∧ s = .string ⟨x.toArray⟩ ∧ x ++ (a.drop k).plain (k == 0) = total ∧ Below w.heap.size w wr) (fun _ i _ => n - (intOf i).toNat)
    case atStart => exact ⟨0, [], Nat.zero_le _, rfl, rfl, by rw [Doc.drop_zero', ← HT.out]; rfl, Below.refl _ _⟩
    case round =>
      obtain ⟨k, x, hk, rfl, rfl, hx, hbw⟩ := hrel
      clear HT
      by_cases hlt : k < n
      · obtain ⟨bb, off, k1, l1, t1, d1, i1, A1, n1, c1, kd, r, rfl, e1, e2, E⟩ := HA.out.el k hlt
        have E' := E.below hbw
        obtain ⟨hlb, x0, x1, x2, x3, x4, x5, _, _, _, _, _, _, _, hat⟩ := E'
        clear E
        have hsb : bb < wr.heap.size := Nat.lt_of_lt_of_le hlb hbw.size
        have hkN : kd.nodes ≤ N ∧ kd.letters + 2 * kd.nodes ≤ 1099511627776 := by
          have h1 := Doc.nodes_drop' k a
          have h2 := Doc.letters_drop k a
          rw [e1] at h1 h2
          simp only [Doc.nodes, Doc.letters] at h1 h2
          omega
        have herr1 := Doc.drop_err k a p HER.out
        rw [e1] at herr1
        obtain ⟨er1, er2, er3⟩ := Doc.err_cons herr1
        clear herr1 er3
        obtain ⟨hkr, hkt, hkk⟩ := node_ok er1
        have hkk2 : hasKids k1 = false → kd.plain true = [] := fun h => by rw [Doc.len_nil (hkk h)]; rfl
        clear hkk er1
        rw [e1] at hx
        simp only [Doc.plain] at hx
        obtain ⟨o, ho⟩ : ∃ o : ByteArray, o = ⟨x.toArray⟩ := ⟨_, rfl⟩
        rw [← ho]
        obtain ⟨ks, hks⟩ : ∃ ks : ByteArray, ks = ⟨(kd.plain true).toArray⟩ := ⟨_, rfl⟩
        have lens : o.size + t1.size + ks.size ≤ 1099511627776 := by
          have p4 : t1.data.toList.length = t1.size := by simp
          have := congrArg List.length hx
          simp only [List.length_append] at this
          rw [pl_size ho, pl_size hks]
          omega
        have hksl : ks.data.toList = kd.plain true := by rw [hks]
        have hcall : ∀ wX, Below w.heap.size wr wX → Calls Try.prog 18 #[.slice A1 n1 c1] wX fun e w' => e = .returned (.string ks) ∧ Below wX.heap.size wX w' := fun wX hX => by
          rw [hks]
          exact IH.out kd k1 A1 n1 c1 wX hkN.1 hkN.2 er2 ((hat.below hX).more (Nat.le_trans hbw.size hX.size))
        have hnext : ∀ (c : ByteArray), c.data.toList = pre k1 (k == 0) ++ (t1.data.toList ++ (kd.plain true ++ post k1)) → ∃ x', Value.string (o ++ c) = .string ⟨x'.toArray⟩ ∧ x' ++ (a.drop (k + 1)).plain (k + 1 == 0) = total := fun c hc => by
          refine ⟨x ++ c.data.toList, pl_next ho rfl, ?_⟩
          rw [e2, ← hx, hc, show (k + 1 == 0) = false from rfl]
          simp only [List.append_assoc]
        have HC := Lib.hid hcall; clear hcall
        have HNX := Lib.hid hnext; clear hnext
        have HKT := Lib.hid hkt; clear hkt
        have HKK := Lib.hid hkk2; clear hkk2
        have HKS := Lib.hid hksl; clear hksl
        clear hks ho hx e1 e2 hat hkN er2 hlen
        have hw0 : Below w.heap.size wr (wr.alloc (.cells #[.int .i64 k1, .int .i64 l1, .string t1, .string d1, .string i1, .slice A1 n1 c1] 56)) := (Below.refl _ _).alloc hbw.size _
        have H0 := Lib.hid hw0; clear hw0
        rcases kinds hkr with rfl | rfl | rfl | rfl | rfl | rfl | rfl | rfl | rfl | rfl | rfl | rfl | rfl | rfl | rfl | rfl | rfl | rfl
        · have ha := fun wx => run_string_add_sum (P := Try.prog) (w := wx) ks ⟨#[10]⟩ (by show ks.size + 1 ≤ _; omega)
          have hs2 : (ks ++ (⟨#[10]⟩ : ByteArray)).size = ks.size + 1 := ByteArray.size_append
          have hb := fun wx => run_string_add_sum (P := Try.prog) (w := wx) o (ks ++ ⟨#[10]⟩) (by rw [hs2]; omega)
          clear hs2
          go_wp2_with fail
          refine (HC.out _ H0.out).mono ?_
          rintro e w1 ⟨rfl, hb1⟩
          have hb2 := hbw.trans (H0.out.trans (hb1.mono (Nat.le_trans hbw.size H0.out.size)))
          clear hb1
          go_wp2_with fail
          obtain ⟨x', hx1, hx2⟩ := HNX.out (ks ++ ⟨#[10]⟩) (by rw [HKT.out rfl, app_list, HKS.out]; rfl)
          go_roundw
          case rel => exact ⟨k + 1, x', by omega, by go_num, hx1, hx2, hb2⟩
          case measure => simp [intOf]; omega
        · have ha := fun wx => run_string_add_sum (P := Try.prog) (w := wx) ks ⟨#[10]⟩ (by show ks.size + 1 ≤ _; omega)
          have hs2 : (ks ++ (⟨#[10]⟩ : ByteArray)).size = ks.size + 1 := ByteArray.size_append
          have hb := fun wx => run_string_add_sum (P := Try.prog) (w := wx) o (ks ++ ⟨#[10]⟩) (by rw [hs2]; omega)
          clear hs2
          go_wp2_with fail
          refine (HC.out _ H0.out).mono ?_
          rintro e w1 ⟨rfl, hb1⟩
          have hb2 := hbw.trans (H0.out.trans (hb1.mono (Nat.le_trans hbw.size H0.out.size)))
          clear hb1
          go_wp2_with fail
          obtain ⟨x', hx1, hx2⟩ := HNX.out (ks ++ ⟨#[10]⟩) (by rw [HKT.out rfl, app_list, HKS.out]; rfl)
          go_roundw
          case rel => exact ⟨k + 1, x', by omega, by go_num, hx1, hx2, hb2⟩
          case measure => simp [intOf]; omega
        · have ha := fun wx => run_string_add_sum (P := Try.prog) (w := wx) t1 ⟨#[10]⟩ (by show t1.size + 1 ≤ _; omega)
          have hs2 : (t1 ++ (⟨#[10]⟩ : ByteArray)).size = t1.size + 1 := ByteArray.size_append
          have hb := fun wx => run_string_add_sum (P := Try.prog) (w := wx) o (t1 ++ ⟨#[10]⟩) (by rw [hs2]; omega)
          clear hs2
          go_wp2_with fail
          obtain ⟨x', hx1, hx2⟩ := HNX.out (t1 ++ ⟨#[10]⟩) (by rw [HKK.out rfl, app_list]; rfl)
          go_roundw
          case rel => exact ⟨k + 1, x', by omega, by go_num, hx1, hx2, hbw.trans H0.out⟩
          case measure => simp [intOf]; omega
        · have ha := fun wx => run_string_add_sum (P := Try.prog) (w := wx) o ks (by omega)
          go_wp2_with fail
          refine (HC.out _ H0.out).mono ?_
          rintro e w1 ⟨rfl, hb1⟩
          have hb2 := hbw.trans (H0.out.trans (hb1.mono (Nat.le_trans hbw.size H0.out.size)))
          clear hb1
          go_wp2_with fail
          obtain ⟨x', hx1, hx2⟩ := HNX.out ks (by rw [HKT.out rfl, HKS.out, show pre 4 (k == 0) = [] from rfl, show post 4 = [] from rfl]; simp)
          go_roundw
          case rel => exact ⟨k + 1, x', by omega, by go_num, hx1, hx2, hb2⟩
          case measure => simp [intOf]; omega
        · have ha := fun wx => run_string_add_sum (P := Try.prog) (w := wx) o ks (by omega)
          go_wp2_with fail
          refine (HC.out _ H0.out).mono ?_
          rintro e w1 ⟨rfl, hb1⟩
          have hb2 := hbw.trans (H0.out.trans (hb1.mono (Nat.le_trans hbw.size H0.out.size)))
          clear hb1
          go_wp2_with fail
          obtain ⟨x', hx1, hx2⟩ := HNX.out ks (by rw [HKT.out rfl, HKS.out, show pre 5 (k == 0) = [] from rfl, show post 5 = [] from rfl]; simp)
          go_roundw
          case rel => exact ⟨k + 1, x', by omega, by go_num, hx1, hx2, hb2⟩
          case measure => simp [intOf]; omega
        · have ha := fun wx => run_string_add_sum (P := Try.prog) (w := wx) o ks (by omega)
          go_wp2_with fail
          refine (HC.out _ H0.out).mono ?_
          rintro e w1 ⟨rfl, hb1⟩
          have hb2 := hbw.trans (H0.out.trans (hb1.mono (Nat.le_trans hbw.size H0.out.size)))
          clear hb1
          go_wp2_with fail
          obtain ⟨x', hx1, hx2⟩ := HNX.out ks (by rw [HKT.out rfl, HKS.out, show pre 6 (k == 0) = [] from rfl, show post 6 = [] from rfl]; simp)
          go_roundw
          case rel => exact ⟨k + 1, x', by omega, by go_num, hx1, hx2, hb2⟩
          case measure => simp [intOf]; omega
        · have ha := fun wx => run_string_add_sum (P := Try.prog) (w := wx) o ⟨#[10]⟩ (by show o.size + 1 ≤ _; omega)
          go_wp2_with fail
          obtain ⟨x', hx1, hx2⟩ := HNX.out ⟨#[10]⟩ (by rw [HKT.out rfl, HKK.out rfl]; rfl)
          go_roundw
          case rel => exact ⟨k + 1, x', by omega, by go_num, hx1, hx2, hbw.trans H0.out⟩
          case measure => simp [intOf]; omega
        · have ha := fun wx => run_string_add_sum (P := Try.prog) (w := wx) o ks (by omega)
          go_wp2_with fail
          refine (HC.out _ H0.out).mono ?_
          rintro e w1 ⟨rfl, hb1⟩
          have hb2 := hbw.trans (H0.out.trans (hb1.mono (Nat.le_trans hbw.size H0.out.size)))
          clear hb1
          go_wp2_with fail
          obtain ⟨x', hx1, hx2⟩ := HNX.out ks (by rw [HKT.out rfl, HKS.out, show pre 8 (k == 0) = [] from rfl, show post 8 = [] from rfl]; simp)
          go_roundw
          case rel => exact ⟨k + 1, x', by omega, by go_num, hx1, hx2, hb2⟩
          case measure => simp [intOf]; omega
        · have ha := fun wx => run_string_add_sum (P := Try.prog) (w := wx) ks ⟨#[10]⟩ (by show ks.size + 1 ≤ _; omega)
          have hs2 : (ks ++ (⟨#[10]⟩ : ByteArray)).size = ks.size + 1 := ByteArray.size_append
          have hb := fun wx => run_string_add_sum (P := Try.prog) (w := wx) o (ks ++ ⟨#[10]⟩) (by rw [hs2]; omega)
          clear hs2
          go_wp2_with fail
          refine (HC.out _ H0.out).mono ?_
          rintro e w1 ⟨rfl, hb1⟩
          have hb2 := hbw.trans (H0.out.trans (hb1.mono (Nat.le_trans hbw.size H0.out.size)))
          clear hb1
          go_wp2_with fail
          obtain ⟨x', hx1, hx2⟩ := HNX.out (ks ++ ⟨#[10]⟩) (by rw [HKT.out rfl, app_list, HKS.out]; rfl)
          go_roundw
          case rel => exact ⟨k + 1, x', by omega, by go_num, hx1, hx2, hb2⟩
          case measure => simp [intOf]; omega
        · by_cases gk : k = 0
          · subst gk
            have GK := Lib.hid (show ((0 : Nat) == 0) = true from rfl)
            simp only [Nat.zero_mul, Nat.add_zero] at x0 x1 x2 x3 x4 x5
            have ha := fun wx => run_string_add_sum (P := Try.prog) (w := wx) o ks (by omega)
            go_wp2_with fail
            refine (HC.out _ H0.out).mono ?_
            rintro e w1 ⟨rfl, hb1⟩
            have hb2 := hbw.trans (H0.out.trans (hb1.mono (Nat.le_trans hbw.size H0.out.size)))
            clear hb1
            go_wp2_with fail
            obtain ⟨x', hx1, hx2⟩ := HNX.out ks (by rw [HKT.out rfl, GK.out, HKS.out]; simp [pre, post])
            go_roundw
            case rel => exact ⟨0 + 1, x', by omega, by go_num, hx1, hx2, hb2⟩
            case measure => simp [intOf]; omega
          · have gk0 : (k == 0) = false := by simpa using gk
            have gkp : 0 < (k : Int) := by omega
            have GK := Lib.hid gk0; clear gk0
            have ha := fun wx => run_string_add_sum (P := Try.prog) (w := wx) o ⟨#[9]⟩ (by show o.size + 1 ≤ _; omega)
            have hs2 : (o ++ (⟨#[9]⟩ : ByteArray)).size = o.size + 1 := ByteArray.size_append
            have hb := fun wx => run_string_add_sum (P := Try.prog) (w := wx) (o ++ ⟨#[9]⟩) ks (by rw [hs2]; omega)
            clear hs2
            go_wp2_with fail
            refine (HC.out _ H0.out).mono ?_
            rintro e w1 ⟨rfl, hb1⟩
            have hb2 := hbw.trans (H0.out.trans (hb1.mono (Nat.le_trans hbw.size H0.out.size)))
            clear hb1
            go_wp2_with fail
            obtain ⟨x', hx1, hx2⟩ := HNX.out (⟨#[9]⟩ ++ ks) (by rw [HKT.out rfl, GK.out, app_list, HKS.out]; simp [pre, post])
            rw [← ByteArray.append_assoc] at hx1
            go_roundw
            case rel => exact ⟨k + 1, x', by omega, by go_num, hx1, hx2, hb2⟩
            case measure => simp [intOf]; omega
        · have ha := fun wx => run_string_add_sum (P := Try.prog) (w := wx) o t1 (by omega)
          go_wp2_with fail
          obtain ⟨x', hx1, hx2⟩ := HNX.out t1 (by rw [HKK.out rfl, show pre 11 (k == 0) = [] from rfl, show post 11 = [] from rfl]; simp)
          go_roundw
          case rel => exact ⟨k + 1, x', by omega, by go_num, hx1, hx2, hbw.trans H0.out⟩
          case measure => simp [intOf]; omega
        · have ha := fun wx => run_string_add_sum (P := Try.prog) (w := wx) o ⟨#[32]⟩ (by show o.size + 1 ≤ _; omega)
          go_wp2_with fail
          obtain ⟨x', hx1, hx2⟩ := HNX.out ⟨#[32]⟩ (by rw [HKT.out rfl, HKK.out rfl]; rfl)
          go_roundw
          case rel => exact ⟨k + 1, x', by omega, by go_num, hx1, hx2, hbw.trans H0.out⟩
          case measure => simp [intOf]; omega
        · have ha := fun wx => run_string_add_sum (P := Try.prog) (w := wx) o ⟨#[32]⟩ (by show o.size + 1 ≤ _; omega)
          go_wp2_with fail
          obtain ⟨x', hx1, hx2⟩ := HNX.out ⟨#[32]⟩ (by rw [HKT.out rfl, HKK.out rfl]; rfl)
          go_roundw
          case rel => exact ⟨k + 1, x', by omega, by go_num, hx1, hx2, hbw.trans H0.out⟩
          case measure => simp [intOf]; omega
        · have ha := fun wx => run_string_add_sum (P := Try.prog) (w := wx) o ks (by omega)
          go_wp2_with fail
          refine (HC.out _ H0.out).mono ?_
          rintro e w1 ⟨rfl, hb1⟩
          have hb2 := hbw.trans (H0.out.trans (hb1.mono (Nat.le_trans hbw.size H0.out.size)))
          clear hb1
          go_wp2_with fail
          obtain ⟨x', hx1, hx2⟩ := HNX.out ks (by rw [HKT.out rfl, HKS.out, show pre 14 (k == 0) = [] from rfl, show post 14 = [] from rfl]; simp)
          go_roundw
          case rel => exact ⟨k + 1, x', by omega, by go_num, hx1, hx2, hb2⟩
          case measure => simp [intOf]; omega
        · have ha := fun wx => run_string_add_sum (P := Try.prog) (w := wx) o ks (by omega)
          go_wp2_with fail
          refine (HC.out _ H0.out).mono ?_
          rintro e w1 ⟨rfl, hb1⟩
          have hb2 := hbw.trans (H0.out.trans (hb1.mono (Nat.le_trans hbw.size H0.out.size)))
          clear hb1
          go_wp2_with fail
          obtain ⟨x', hx1, hx2⟩ := HNX.out ks (by rw [HKT.out rfl, HKS.out, show pre 15 (k == 0) = [] from rfl, show post 15 = [] from rfl]; simp)
          go_roundw
          case rel => exact ⟨k + 1, x', by omega, by go_num, hx1, hx2, hb2⟩
          case measure => simp [intOf]; omega
        · have ha := fun wx => run_string_add_sum (P := Try.prog) (w := wx) o t1 (by omega)
          go_wp2_with fail
          obtain ⟨x', hx1, hx2⟩ := HNX.out t1 (by rw [HKK.out rfl, show pre 16 (k == 0) = [] from rfl, show post 16 = [] from rfl]; simp)
          go_roundw
          case rel => exact ⟨k + 1, x', by omega, by go_num, hx1, hx2, hbw.trans H0.out⟩
          case measure => simp [intOf]; omega
        · have ha := fun wx => run_string_add_sum (P := Try.prog) (w := wx) o ks (by omega)
          go_wp2_with fail
          refine (HC.out _ H0.out).mono ?_
          rintro e w1 ⟨rfl, hb1⟩
          have hb2 := hbw.trans (H0.out.trans (hb1.mono (Nat.le_trans hbw.size H0.out.size)))
          clear hb1
          go_wp2_with fail
          obtain ⟨x', hx1, hx2⟩ := HNX.out ks (by rw [HKT.out rfl, HKS.out, show pre 17 (k == 0) = [] from rfl, show post 17 = [] from rfl]; simp)
          go_roundw
          case rel => exact ⟨k + 1, x', by omega, by go_num, hx1, hx2, hb2⟩
          case measure => simp [intOf]; omega
        · have ha := fun wx => run_string_add_sum (P := Try.prog) (w := wx) o t1 (by omega)
          go_wp2_with fail
          obtain ⟨x', hx1, hx2⟩ := HNX.out t1 (by rw [HKK.out rfl, show pre 18 (k == 0) = [] from rfl, show post 18 = [] from rfl]; simp)
          go_roundw
          case rel => exact ⟨k + 1, x', by omega, by go_num, hx1, hx2, hbw.trans H0.out⟩
          case measure => simp [intOf]; omega
      · obtain rfl : k = n := by omega
        have hd : a.drop k = .nil := by rw [HNL.out, Doc.drop_len']
        have hxt : x = total := by rw [← hx, hd]; simp [Doc.plain]
        have HXX := Lib.hid hxt; clear hxt hd hx
        go_wp2_with fail
        go_ret
        exact ⟨retS HXX.out, hbw⟩
end Go.Proofs.Ytmaahkonjpcgiaa
