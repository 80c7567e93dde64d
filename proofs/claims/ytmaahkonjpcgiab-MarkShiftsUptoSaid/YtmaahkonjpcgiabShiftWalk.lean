/- DERIVED. What walk makes of a document of its own with Shift's visit, by induction over the document. Condition: at most 2^40 nodes, levels from 1 to 6, a shift from -5 to 5. -/
import Derived.Test.YtmaahkonjpcgiabShiftVisit
import Derived.DataShut
set_option linter.unusedSimpArgs false
set_option linter.unusedVariables false
namespace Go.Proofs.Ytmaahkonjpcgiab
open Go.RowKit

theorem lev_wf {k lv b : Int} (h : (Lit.int .i64 lv).wf = true) : (Lit.int .i64 (Doc.lev k lv b)).wf = true := by
  unfold Doc.lev
  split
  · exact (Lit.wf_int_iff .i64 _).2 ⟨by show (-9223372036854775808 : Int) ≤ _; omega, by show _ ≤ (9223372036854775807 : Int); omega⟩
  · exact h
theorem own_hi {w : World} {d : Doc} {R off lo mid hi : Nat} (h : d.own w R off lo mid) (hm : mid ≤ hi) : d.own w R off lo hi := by
  have h1 := Doc.own_app (c := .nil) h (show Doc.own w .nil R (off + d.len * 6) mid hi from hm)
  rwa [Doc.app_nil] at h1
/-- What the walk over the kids of a node leaves. -/
structure Kept (lo hi : Nat) (w w' : World) : Prop where
  size : w'.heap.size = w.heap.size
  os : w'.os = w.os
  tape : w'.tape = w.tape
  output : w'.output = w.output
  block : ∀ q, ¬ (lo ≤ q ∧ q < hi) → w'.heap[q]? = w.heap[q]?
theorem Kept.turned {R off o2 lo hi : Nat} {w w' : World} (h : Kept lo hi w w') (hR : R < lo) : Turned R off o2 lo hi w w' :=
  ⟨h.size, h.os, h.tape, h.output, fun q _ g => h.block q g, fun i _ => World.cell?_of_block (h.block R (by omega)), fun i => World.frozen?_of_block (h.block R (by omega))⟩

set_option maxRecDepth 100000 in
theorem walk_nil (A p : Option Addr) (c : Nat) (w : World) :
    Calls Try.prog 22 #[.slice A 0 c, .func (.func 28) #[] #[.pointer p]] w fun e w' => e = .returned (.tuple #[]) ∧ w' = w := by
  go_enter Try.func22, Try.ntmps22
  go_wp2_with fail
  refine wp_loop_rounds 1 ?_
  rw [rounds_succ]
  go_wp2_with fail
  go_end0
  exact ⟨rfl, rfl⟩

set_option maxRecDepth 100000 in
set_option maxHeartbeats 1600000 in
theorem walkS_any (b : Int) (hb0 : -5 ≤ b) (hb1 : b ≤ 5) (N : Nat) : ∀ (a : Doc) (R off lo hi n c : Nat) (p : Addr) (w : World), a.nodes ≤ N → a.nodes ≤ 1099511627776 → a.lvOk → a.own w R off lo hi → R < lo → n = a.len → hi ≤ w.heap.size →
    w.cell? p = some (.int .i64 b) → p.block ≠ R → ¬ (lo ≤ p.block ∧ p.block < hi) →
    Calls Try.prog 22 #[.slice (some ⟨R, off, none⟩) n c, .func (.func 28) #[] #[.pointer (some p)]] w fun e w' => e = .returned (.tuple #[]) ∧ (a.shift b).own w' R off lo hi ∧ Turned R off (off + n * 6) lo hi w w' := by
  induction N with
  | zero =>
    intro a R off lo hi n c p w hN _ _ hown hR hnl hhi _ _ _
    have h0 : a = .nil := by
      cases a with
      | nil => rfl
      | cons => simp [Doc.nodes] at hN
    subst h0
    obtain rfl : n = 0 := hnl
    refine (walk_nil _ _ c w).mono ?_
    rintro e w' ⟨he, rfl⟩
    exact ⟨he, hown, Turned.refl _ _ _ _ _ _⟩
  | succ N ih =>
    intro a R off lo hi n c p w hN hbig hlv hown hR hnl hhi hp hpR hpo
    have IH := Lib.hid ih; clear ih
    have hn : n ≤ 1099511627776 := Nat.le_trans (by rw [hnl]; exact Doc.len_le a) hbig
    have HNL := Lib.hid hnl; clear hnl
    have HOW := Lib.hid hown; clear hown
    have HLV := Lib.hid hlv; clear hlv
    have HP := Lib.hid (And.intro hp (And.intro hpR hpo)); clear hp hpR hpo
    have eg : ∀ args w, (callFunc 28 args).run Try.prog w = .ok (.enter 28 args) w := enters_of Try.func28 (by kernel_rfl) rfl
    go_enter Try.func22, Try.ntmps22
    go_wp2_with fail
    go_loopw [7] (fun i wr => ∃ k mid : Nat, k ≤ n ∧ i = .int .i64 k ∧ ((a.fst k).shift b).own wr R off lo mid ∧ (a.drop k).own wr R (off + k * 6) mid hi ∧ Turned R off (off + k * 6) lo mid w wr) (fun i _ => n - (intOf i).toNat)
    case atStart =>
      refine ⟨0, lo, Nat.zero_le _, rfl, ?_, ?_, ?_⟩
      · have h0 : a.fst 0 = .nil := by cases a <;> rfl
        rw [h0]; exact Nat.le_refl _
      · rw [Doc.drop_zero', Nat.zero_mul, Nat.add_zero]; exact HOW.out
      · rw [Nat.zero_mul, Nat.add_zero]; exact Turned.refl _ _ _ _ _ _
    case round =>
      obtain ⟨k, mid, hk, rfl, hpre, hsuf, htu⟩ := hrel
      have HPR := Lib.hid hpre; clear hpre
      have HTU := Lib.hid htu; clear htu
      have hlm := Doc.own_le HPR.out
      by_cases hlt : k < n
      · obtain ⟨k1, l1, t1, d1, i1, kd, r, e1⟩ := Doc.drop_case k a (by rw [← HNL.out]; exact hlt)
        have e2 := Doc.drop_cons e1
        have hlv1 := Doc.lvOk_drop k a HLV.out
        rw [e1] at hsuf hlv1
        obtain ⟨A1, n1, c1, m2, hle, hr, hth, h3, h4, h5, h6, h7, h8, h9, hkk, htl⟩ := hsuf
        have hm2 := Doc.own_le htl
        have hkN : kd.nodes ≤ N ∧ kd.nodes ≤ 1099511627776 := by
          have h1 := Doc.nodes_drop' k a
          rw [e1] at h1
          simp only [Doc.nodes] at h1
          omega
        have hpw : wr.cell? p = some (.int .i64 b) := (World.cell?_of_block (HTU.out.block p.block HP.out.2.1 (by have := HP.out.2.2; omega))).trans HP.out.1
        have hv := shift1_post k1 l1 t1 d1 i1 A1 n1 c1 R (off + k * 6) mid p b wr hr hth hpw hlv1.1 hb0 hb1
        have hcall : ∀ w1, Turned R (off + k * 6) (off + k * 6 + 6) mid mid wr w1 → Calls Try.prog 22 #[.slice A1 n1 c1, .func (.func 28) #[] #[.pointer (some p)]] w1 fun e w' => e = .returned (.tuple #[]) ∧ Kept mid m2 w1 w' ∧
            (kd.len = 0 ∧ n1 = 0 ∨ ∃ R', A1 = some ⟨R', 0, none⟩ ∧ n1 = kd.len ∧ mid ≤ R' ∧ (kd.shift b).own w' R' 0 (R' + 1) m2) := fun w1 ht => by
          rcases hkk with ⟨g1, g2⟩ | ⟨R', g1, g2, g3, g4⟩
          · subst g2
            refine (walk_nil A1 (some p) c1 w1).mono ?_
            rintro e w' ⟨he, rfl⟩
            exact ⟨he, ⟨rfl, rfl, rfl, rfl, fun _ _ => rfl⟩, .inl ⟨g1, rfl⟩⟩
          · subst g1
            have hb' : ∀ q, mid ≤ q → w1.heap[q]? = wr.heap[q]? := fun q hq => ht.block q (by omega) (by omega)
            have hle4 := Doc.own_le g4
            have hK : kd.own w1 R' 0 (R' + 1) m2 := Doc.own_keep (fun q q1 _ => hb' q (by omega)) (fun i _ _ => ⟨World.cell?_of_block (hb' R' g3), World.frozen?_of_block (hb' R' g3)⟩) g4
            have hp1 : w1.cell? p = some (.int .i64 b) := (World.cell?_of_block (ht.block p.block HP.out.2.1 (by omega))).trans hpw
            refine (IH.out kd R' 0 (R' + 1) m2 n1 c1 p w1 hkN.1 hkN.2 hlv1.2.1 hK (by omega) g2 (by have := ht.size; have := HTU.out.size; omega) hp1 (by have := HP.out.2.2; omega) (by have := HP.out.2.2; omega)).mono ?_
            rintro e w' ⟨he, ho, htt⟩
            exact ⟨he, ⟨htt.size, htt.os, htt.tape, htt.output, fun q hq => htt.block q (by omega) (by omega)⟩, .inr ⟨R', rfl, g2, g3, ho⟩⟩
        have HV := Lib.hid hv; clear hv
        have HC := Lib.hid hcall; clear hcall
        have HE1 := Lib.hid e1; clear e1
        have HE2 := Lib.hid e2; clear e2
        have HTL := Lib.hid htl; clear htl
        have HFA := Lib.hid (And.intro h3 (And.intro h4 (And.intro h5 (And.intro h6 (And.intro h7 (And.intro h8 h9))))))
        have HTH := Lib.hid hth
        clear hr hth h3 h4 h5 h6 h7 h8 h9 hkk hkN hpw hlv1
        go_wp2_with fail
        refine HV.out.mono ?_
        rintro e w1 ⟨rfl, hr1, ht1⟩
        have y5 : w1.cell? ⟨R, off + k * 6 + 5, none⟩ = some (.slice A1 n1 c1) := hr1 5 _ rfl
        have HR1 := Lib.hid hr1; clear hr1
        have HT1 := Lib.hid ht1; clear ht1
        go_wp2_with fail
        refine (HC.out w1 HT1.out).mono ?_
        rintro e w2 ⟨rfl, hk2, hkids⟩
        have HK2 := Lib.hid hk2; clear hk2
        have HKD := Lib.hid hkids; clear hkids
        go_wp2_with fail
        go_roundw
        case rel =>
          have hlk : ((a.fst k).shift b).len = k := by rw [Doc.shift_len, Doc.fst_len k a (by rw [← HNL.out]; exact hk)]
          have hRR : w2.heap[R]? = w1.heap[R]? := HK2.out.block R (by omega)
          have ht2 : Turned R (off + k * 6) (off + k * 6 + 6) mid m2 wr w2 :=
            ⟨HK2.out.size.trans HT1.out.size, HK2.out.os.trans HT1.out.os, HK2.out.tape.trans HT1.out.tape, HK2.out.output.trans HT1.out.output, fun q g1 g2 => (HK2.out.block q g2).trans (HT1.out.block q g1 (by omega)),
             fun i hi => (World.cell?_of_block hRR).trans (HT1.out.row i hi), fun i => (World.frozen?_of_block hRR).trans (HT1.out.frozen i)⟩
          refine ⟨k + 1, m2, by omega, by go_num, ?_, ?_, ?_⟩
          · rw [Doc.fst_succ HE1.out, Doc.shift_app]
            refine Doc.own_app (mid := mid) (Doc.own_keep (fun q g1 g2 => ht2.block q (by omega) (by omega)) (fun i g1 g2 => ⟨ht2.row i (.inl (by rw [hlk] at g2; exact g2)), ht2.frozen i⟩) HPR.out) ?_
            rw [hlk]
            refine ⟨A1, n1, c1, m2, hle, fun j v hv => (World.cell?_of_block hRR).trans (HR1.out j v hv), fun j hj => ?_, HFA.out.1, HFA.out.2.1, HFA.out.2.2.1, lev_wf HFA.out.2.2.2.1, HFA.out.2.2.2.2.1, HFA.out.2.2.2.2.2.1, HFA.out.2.2.2.2.2.2, ?_, Nat.le_refl _⟩
            · refine ⟨?_, (ht2.frozen _).trans (HTH.out j hj).2⟩
              rw [World.cell?_of_block hRR]
              exact World.rangeAt.isSome HR1.out j hj
            · rw [Doc.shift_len]; exact HKD.out
          · rw [HE2.out, show off + (k + 1) * 6 = off + k * 6 + 6 by omega]
            exact Doc.own_keep (fun q g1 g2 => ht2.block q (by omega) (by omega)) (fun i g1 g2 => ⟨ht2.row i (.inr g1), ht2.frozen i⟩) HTL.out
          · rw [show off + (k + 1) * 6 = off + k * 6 + 6 by omega]
            exact HTU.out.trans (by omega) (by omega) hlm hle ht2
        case measure => simp [intOf]; omega
      · obtain rfl : k = n := by omega
        have hd : a.drop k = .nil := by rw [HNL.out, Doc.drop_len']
        rw [hd] at hsuf
        have hmh : mid ≤ hi := hsuf
        clear hsuf hd
        go_wp2_with fail
        go_end0
        have hl := HPR.out
        rw [show a.fst k = a by rw [HNL.out, Doc.fst_all]] at hl
        exact ⟨rfl, own_hi hl hmh, ⟨HTU.out.size, HTU.out.os, HTU.out.tape, HTU.out.output, fun q g1 g2 => HTU.out.block q g1 (by omega), HTU.out.row, HTU.out.frozen⟩⟩
end Go.Proofs.Ytmaahkonjpcgiab
