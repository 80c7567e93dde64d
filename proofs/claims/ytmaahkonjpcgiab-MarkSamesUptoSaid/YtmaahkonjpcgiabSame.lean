/- DERIVED. What mark.Same returns for every two documents in memory: by a walk of its text; what is still to be compared is a row of its own. Condition: together at most 2^40 nodes. -/
import Derived.Test.YtmaahkonjpcgiabSameDoc
import Derived.StillTailTactics
import Derived.BigQuiet
import Derived.Deep.LoopGhost
import Derived.Maps.AppendAt
import Derived.Deep.RegionHeld3
import Derived.Deep.AppendLies
import Derived.Laws.OwnMore
import Derived.Deep.QuietTactic
namespace Go.Proofs.Ytmaahkonjpcgiab
open Go.RowKit

def fieldsB (k l : Int) (t d i : ByteArray) (k' l' : Int) (t' d' i' : ByteArray) : Bool := k == k' && l == l' && t.toList == t'.toList && d.toList == d'.toList && i.toList == i'.toList

set_option maxRecDepth 100000 in
set_option maxHeartbeats 800000 in
theorem sameFields_any (k l : Int) (t d i : ByteArray) (A : Option Addr) (n c : Nat) (k' l' : Int) (t' d' i' : ByteArray) (A' : Option Addr) (n' c' : Nat) (w : World) :
    Calls Try.prog 29 #[.agg #[.int .i64 k, .int .i64 l, .string t, .string d, .string i, .slice A n c], .agg #[.int .i64 k', .int .i64 l', .string t', .string d', .string i', .slice A' n' c']] w
      fun e w' => e = .returned (.bool (fieldsB k l t d i k' l' t' d' i')) ∧ Below w.heap.size w w' := by
  have hbl : ∀ o1 o2 : Obj, Below w.heap.size w ((w.alloc o1).alloc o2) := fun o1 o2 => ((Below.refl _ _).alloc (Nat.le_refl _) o1).alloc (by simp) o2
  have HBL := Lib.hid hbl; clear hbl
  by_cases f0 : k = k'
  · subst f0
    by_cases f1 : l = l'
    · subst f1
      by_cases f2 : (t.toList == t'.toList) = false
      · go_enter Try.func29, Try.ntmps29
        go_wp2_with fail
        go_ret
        exact ⟨ret_bool (by simp [fieldsB, f2]), HBL.out _ _⟩
      · have h2 : (t.toList == t'.toList) = true := by simpa using f2
        clear f2
        by_cases f3 : (d.toList == d'.toList) = false
        · go_enter Try.func29, Try.ntmps29
          go_wp2_with fail
          go_ret
          exact ⟨ret_bool (by simp [fieldsB, f3]), HBL.out _ _⟩
        · have h3 : (d.toList == d'.toList) = true := by simpa using f3
          clear f3
          by_cases f4 : (i.toList == i'.toList) = false
          · go_enter Try.func29, Try.ntmps29
            go_wp2_with fail
            go_ret
            exact ⟨ret_bool (by simp [fieldsB, f4]), HBL.out _ _⟩
          · have h4 : (i.toList == i'.toList) = true := by simpa using f4
            clear f4
            go_enter Try.func29, Try.ntmps29
            go_wp2_with fail
            go_ret
            exact ⟨ret_bool (by simp [fieldsB, h2, h3, h4]), HBL.out _ _⟩
    · go_enter Try.func29, Try.ntmps29
      go_wp2_with fail
      go_ret
      exact ⟨ret_bool (by simp [fieldsB, f1]), HBL.out _ _⟩
  · go_enter Try.func29, Try.ntmps29
    go_wp2_with fail
    go_ret
    exact ⟨ret_bool (by simp [fieldsB, f0]), HBL.out _ _⟩

/-- Two documents that are still to be compared, and where they lie. -/
structure Pr where
  a : Doc
  b : Doc
  A : Option Addr
  n : Nat
  c : Nat
  A' : Option Addr
  n' : Nat
  c' : Nat
def Pr.cells (p : Pr) : List Value := [.slice p.A p.n p.c, .slice p.A' p.n' p.c']
def Pr.ok (p : Pr) (w : World) (B : Nat) : Prop := p.a.At w B p.A p.n ∧ p.b.At w B p.A' p.n' ∧ p.n ≤ p.c ∧ p.c ≤ maxLen ∧ p.n' ≤ p.c' ∧ p.c' ≤ maxLen
def cellsOf : List Pr → List Value
  | [] => []
  | p :: r => p.cells ++ cellsOf r
theorem cellsOf_app : ∀ (l r : List Pr), cellsOf (l ++ r) = cellsOf l ++ cellsOf r
  | [], r => rfl
  | p :: l, r => by simp [cellsOf, cellsOf_app l r]
theorem cellsOf_len : ∀ l : List Pr, (cellsOf l).length = l.length * 2
  | [] => rfl
  | p :: l => by simp [cellsOf, Pr.cells, cellsOf_len l]; omega
/-- The weight of what is still to be compared. -/
def wt : List Pr → Nat
  | [] => 0
  | p :: r => p.a.nodes + p.b.nodes + 1 + wt r
theorem wt_app : ∀ (l r : List Pr), wt (l ++ r) = wt l + wt r
  | [], r => by simp [wt]
  | p :: l, r => by simp only [List.cons_append, wt, wt_app l r]; omega
theorem wt_len : ∀ l : List Pr, l.length ≤ wt l
  | [] => Nat.le_refl _
  | p :: l => by have := wt_len l; simp only [List.length_cons, wt]; omega
def allSame (l : List Pr) : Bool := l.all fun p => p.a.same p.b
theorem allSame_app (l r : List Pr) : allSame (l ++ r) = (allSame l && allSame r) := by simp [allSame]
theorem snoc_of {l : List Pr} (h : 0 < l.length) : ∃ r p, l = r ++ [p] := by
  refine ⟨l.dropLast, l.getLast (by intro e; subst e; simp at h), ?_⟩
  exact (List.dropLast_concat_getLast _).symm

theorem pair_info : (Try.prog.info? 53).map (fun i => (i.zero, i.size, i.bytes)) = some (some (.agg #[.slice none 0 0, .slice none 0 0]), 2, 48) := by kernel_rfl

theorem same_push {R M : List Pr} {pa pb da db kd1 kd2 r1 r2 da' db' : Doc} {k1 l1 k2 l2 : Int} {t1 d1 i1 t2 d2 i2 : ByteArray} (h : (allSame R && pa.same pb) = (allSame (R ++ M) && da.same db)) (e1 : da = .cons k1 l1 t1 d1 i1 kd1 r1) (e2 : db = .cons k2 l2 t2 d2 i2 kd2 r2)
    (f1 : da' = r1) (f2 : db' = r2) (hf : fieldsB k1 l1 t1 d1 i1 k2 l2 t2 d2 i2 = true) (A1 : Option Addr) (n1 c1 : Nat) (A2 : Option Addr) (n2 c2 : Nat) :
    (allSame R && pa.same pb) = (allSame (R ++ (M ++ [⟨kd1, kd2, A1, n1, c1, A2, n2, c2⟩])) && da'.same db') := by
  subst e1 e2 f1 f2
  have e : (Doc.cons k1 l1 t1 d1 i1 kd1 da').same (Doc.cons k2 l2 t2 d2 i2 kd2 db') = (fieldsB k1 l1 t1 d1 i1 k2 l2 t2 d2 i2 && (kd1.same kd2 && da'.same db')) := rfl
  rw [h, e, hf, Bool.true_and, ← List.append_assoc, allSame_app (R ++ M), Bool.and_assoc]
  simp [allSame]

theorem own_val {w : World} {base n size : Nat} {v : Value} {xs : List Value} {e : TypeId} (h : w.ownsRow base e size v n xs) : ∃ A c, v = .slice A n c := by
  rcases h.2 with ⟨rfl, h0⟩ | ⟨g, cap, cur, rfl, _⟩
  · exact ⟨none, 0, by rw [h0]⟩
  · exact ⟨_, _, rfl⟩
theorem own_pos {w : World} {base n size : Nat} {v : Value} {xs : List Value} {e : TypeId} (h : w.ownsRow base e size v n xs) (h0 : 0 < n) :
    ∃ g cap, v = .slice (some ⟨g, 0, none⟩) n cap ∧ base ≤ g ∧ g < w.heap.size ∧ n ≤ cap ∧ ∀ j u, xs[j]? = some u → w.cell? ⟨g, j, none⟩ = some u := by
  have hl := h.lt
  have h2 := h
  rcases h.2 with ⟨_, e0⟩ | ⟨g, cap, cur, rfl, hg, hh, hn, _⟩
  · omega
  · refine ⟨g, cap, rfl, hg, (hl g rfl).2, hn, fun j u hj => ?_⟩
    have := h2.cells (g := g) rfl j u hj
    by_cases h0 : j = 0
    · subst h0; simpa [Addr.add] using this
    · simpa [Addr.add, h0] using this
theorem HOW_kept {w w1 : World} {base n size : Nat} {v : Value} {xs : List Value} {e : TypeId} (h : w.ownsRow base e size v n xs) (hb : Below w.heap.size w w1) : w1.ownsRow base e size v n xs := by
  obtain ⟨h1, h2⟩ := h
  refine ⟨h1, ?_⟩
  rcases h2 with h2 | ⟨g, cap, cur, a, b, c, d⟩
  · exact .inl h2
  · exact .inr ⟨g, cap, cur, a, b, (hb.block g ((Array.getElem?_eq_some_iff.1 c).1)).trans c, d⟩
theorem new_two (w1 : World) (u v : Value) : ∀ j x, [u, v][j]? = some x → ((w1.alloc (.cells #[u, v] 53)).drew).cell? ((⟨w1.heap.size, 0, none⟩ : Addr).add j) = some x := by
  intro j x hj
  show (w1.alloc (.cells #[u, v] 53)).cell? _ = _
  match j, hj with
  | 0, hj => simp at hj; subst hj; simp [Addr.add]
  | 1, hj => simp at hj; subst hj; simp [Addr.add]
  | j + 2, hj => simp at hj
theorem pair_behind {w w1 w2 : World} {v v' : Value} {pb n : Nat} {xs : List Value} {cs : Array Value} {o : Obj} {e t : TypeId} (hb : Below w.heap.size w w1) (hown : w1.ownsRow w.heap.size e 2 v n xs) (hp : w1.heap[pb]? = some (.cells cs t (0, 0))) (hne : v.ownBlock ≠ some pb)
    (hg : ((w1.alloc o).drew).grownBy w2 v.ownBlock) (hat : v'.ownBlock = v.ownBlock ∨ v'.ownBlock = some (w1.heap.size + 1)) : Below w.heap.size w w2 ∧ w2.heap[pb]? = some (.cells cs t (0, 0)) ∧ v'.ownBlock ≠ some pb := by
  have hlt : pb < w1.heap.size := (Array.getElem?_eq_some_iff.1 hp).1
  have hsz : ((w1.alloc o).drew).heap.size = w1.heap.size + 1 := by simp
  have hs := hb.size
  refine ⟨((hb.alloc hs o).drew).grown hg (by rw [hsz]; omega) (fun k hk => (hown.lt k hk).1), ?_, ?_⟩
  · rw [hg.block pb (by rw [hsz]; omega) (fun h => hne h.symm)]
    show (w1.alloc o).heap[pb]? = _
    rw [Below.heap_alloc _ _ _ hlt]
    exact hp
  · rcases hat with h | h
    · rw [h]; exact hne
    · rw [h]
      intro h'
      injection h' with h'
      omega
theorem cells_last (R : List Pr) (p : Pr) : (cellsOf (R ++ [p]))[R.length * 2]? = some (.slice p.A p.n p.c) ∧ (cellsOf (R ++ [p]))[R.length * 2 + 1]? = some (.slice p.A' p.n' p.c') := by
  rw [cellsOf_app, ← cellsOf_len]
  simp [cellsOf, Pr.cells]

theorem own_one (w : World) (base : Nat) (hb : base ≤ w.heap.size) (u v : Value) : (w.alloc (.cells #[u, v] 53)).ownsRow base 53 2 (.slice (some ⟨w.heap.size, 0, none⟩) 1 1) 1 [u, v] :=
  ⟨rfl, .inr ⟨w.heap.size, 1, #[u, v], rfl, hb, heap_alloc_new w _, Nat.le_refl _, by decide, rfl, rfl⟩⟩

set_option maxRecDepth 100000 in
set_option maxHeartbeats 2000000 in
theorem same_any (a b : Doc) (A A' : Option Addr) (n c m c' : Nat) (w : World) (hbig : a.nodes + b.nodes + 1 ≤ 1099511627776) (hok : Pr.ok ⟨a, b, A, n, c, A', m, c'⟩ w w.heap.size) :
    Calls Try.prog 15 #[.slice A n c, .slice A' m c'] w fun e w' => e = .returned (.bool (a.same b)) ∧ Below w.heap.size w w' := by
  obtain ⟨i0, hi, hz0, hz1, hz2⟩ := info_parts pair_info
  have HOK := Lib.hid hok; clear hok
  go_enter Try.func15, Try.ntmps15
  go_wp2_with fail
  go_loopg [5] (a.nodes + b.nodes + 1) (fun g v wr => ∃ L : List Pr, g = wt L ∧ wr.ownsRow w.heap.size 53 2 v L.length (cellsOf L) ∧ (∀ p, p ∈ L → p.ok w w.heap.size) ∧ a.same b = allSame L ∧ wt L ≤ 1099511627776 ∧ Below w.heap.size w wr)
  case atStart =>
    refine ⟨[⟨a, b, A, n, c, A', m, c'⟩], by simp [wt], own_one w _ (Nat.le_refl _) _ _, fun p hp => ?_, by simp [allSame], by simpa [wt] using hbig, (Below.refl _ _).alloc (Nat.le_refl _) _⟩
    simp at hp; subst hp; exact HOK.out
  case round =>
    obtain ⟨wo, rfl⟩ : ∃ wo : World, wo = wr := ⟨_, rfl⟩
    obtain ⟨L, hg, hown, hL, hs, hwt, hbw⟩ := hrel
    have hwl := wt_len L
    by_cases h0 : L.length = 0
    · have hnil : L = [] := List.eq_nil_of_length_eq_zero h0
      subst hnil
      obtain ⟨Av, cv, rfl⟩ := own_val hown
      have HS := Lib.hid hs; clear hs hg hown hL
      go_wp2_with fail
      go_ret
      exact ⟨ret_bool HS.out, hbw⟩
    · obtain ⟨R, p, rfl⟩ := snoc_of (by omega : 0 < L.length)
      have hlen : (R ++ [p]).length = R.length + 1 := by simp
      obtain ⟨gb, cap, rfl, hgb, hgs, hcap, hcells⟩ := own_pos hown (by omega)
      have q0 := hcells _ _ (cells_last R p).1
      have q1 := hcells _ _ (cells_last R p).2
      have hpop := ownsRow_pop (xs := cellsOf R) (last := p.cells) (cellsOf_len R) (by rw [hlen, cellsOf_app] at hown; simpa [cellsOf] using hown)
      have hpk := hL p (by simp)
      have hR : ∀ x, x ∈ R → x.ok w w.heap.size := fun x hx => hL x (by simp [hx])
      rw [hlen] at hcap
      rw [wt_app] at hg hwt
      rw [allSame_app] at hs
      obtain ⟨pa, pb, PA, pn, pc, PA', pn', pc'⟩ := p
      simp only [Pr.ok] at hpk
      obtain ⟨hpa, hpb, hp1, hp2, hp3, hp4⟩ := hpk
      simp only [wt] at hg hwt
      simp only [allSame, List.all_cons, List.all_nil, Bool.and_true] at hs
      simp only at q0 q1
      rw [hlen]
      have hRl : R.length + 1 ≤ 1099511627776 := by have := wt_len R; omega
      clear hwl
      have hri : ((R.length : Int) + 1 - 1) = R.length := by omega
      have HRI := Lib.hid hri; clear hri
      have hgne : gb ≠ wo.heap.size := by omega
      have HG := Lib.hid hg; clear hg
      have HS := Lib.hid hs; clear hs
      have HP := Lib.hid hpop; clear hpop
      have HR := Lib.hid hR; clear hR
      have HPA := Lib.hid hpa; clear hpa
      have HPB := Lib.hid hpb; clear hpb
      clear hown hL hcells hlen h0
      unfold maxLen at hp2 hp4
      have hpn : pn ≤ 9223372036854775807 := by omega
      have hpn' : pn' ≤ 9223372036854775807 := by omega
      clear hp1 hp2 hp3 hp4
      by_cases hnm : pn = pn'
      · subst hnm
        have hst : Below w.heap.size w (wo.alloc (.cells #[.slice PA pn pc, .slice PA' pn pc'] 53)) := hbw.alloc hbw.size _
        go_wp2_with fail
        go_loopw [5, 38] (fun v i wi => ∃ (k : Nat) (M : List Pr), k ≤ pn ∧ i = .int .i64 k ∧ wi.ownsRow w.heap.size 53 2 v (R.length + M.length) (cellsOf (R ++ M)) ∧ v.ownBlock ≠ some wo.heap.size ∧ (∀ x, x ∈ R ++ M → x.ok w w.heap.size) ∧
            (allSame R && pa.same pb) = (allSame (R ++ M) && (pa.drop k).same (pb.drop k)) ∧ wt (R ++ M) + (pa.drop k).nodes + (pb.drop k).nodes ≤ wt R + pa.nodes + pb.nodes ∧
            wi.heap[wo.heap.size]? = some (.cells #[.slice PA pn pc, .slice PA' pn pc'] 53 (0, 0)) ∧ Below w.heap.size w wi) (fun _ i _ => pn - (intOf i).toNat)
        case atStart =>
          refine ⟨0, [], Nat.zero_le _, rfl, ?_, by simp [Value.ownBlock]; omega, by simpa using HR.out, by rw [Doc.drop_zero, Doc.drop_zero]; simp, by rw [Doc.drop_zero, Doc.drop_zero]; simp, heap_alloc_new wo _, hst⟩
          simpa using (HP.out).alloc _
        case round =>
          obtain ⟨k, M, hk, rfl, hown, hob, hokM, hsame, hwM, hpblk, hbi⟩ := hrel
          have hOW := Lib.hid hown
          obtain ⟨Av, cv, rfl⟩ := own_val hown
          clear hown
          have HOB := Lib.hid hob; clear hob
          have HOM := Lib.hid hokM; clear hokM
          have HSM := Lib.hid hsame; clear hsame
          have hps : wo.heap.size < wr.heap.size := (Array.getElem?_eq_some_iff.1 hpblk).1
          have z0 : wr.cell? ⟨wo.heap.size, 0, none⟩ = some (.slice PA pn pc) := by rw [cell_of_row _ _ _ _ _ _ hpblk]; rfl
          have z1 : wr.cell? ⟨wo.heap.size, 1, none⟩ = some (.slice PA' pn pc') := by rw [cell_of_row _ _ _ _ _ _ hpblk]; rfl
          have HPB2 := Lib.hid hpblk; clear hpblk
          have hlM : R.length + M.length ≤ 1099511627776 := by have := wt_len (R ++ M); rw [List.length_append] at this; omega
          by_cases hlt : k < pn
          · obtain ⟨ba, oa, rfl, hba⟩ := HPA.out.base (by omega)
            obtain ⟨bb, ob, rfl, hbb⟩ := HPB.out.base (by omega)
            obtain ⟨k1, l1, t1, d1, i1, A1, n1, c1, kd1, r1, e1, e1', E1⟩ := HPA.out.elem k hlt
            obtain ⟨k2, l2, t2, d2, i2, A2, n2, c2, kd2, r2, e2, e2', E2⟩ := HPB.out.elem k hlt
            have x0 := (hbi.cell (p := ⟨ba, oa + k * 6, none⟩) E1.lt).trans E1.c0
            have x1 := (hbi.cell (p := ⟨ba, oa + k * 6 + 1, none⟩) E1.lt).trans E1.c1
            have x2 := (hbi.cell (p := ⟨ba, oa + k * 6 + 2, none⟩) E1.lt).trans E1.c2
            have x3 := (hbi.cell (p := ⟨ba, oa + k * 6 + 3, none⟩) E1.lt).trans E1.c3
            have x4 := (hbi.cell (p := ⟨ba, oa + k * 6 + 4, none⟩) E1.lt).trans E1.c4
            have x5 := (hbi.cell (p := ⟨ba, oa + k * 6 + 5, none⟩) E1.lt).trans E1.c5
            have y0 := (hbi.cell (p := ⟨bb, ob + k * 6, none⟩) E2.lt).trans E2.c0
            have y1 := (hbi.cell (p := ⟨bb, ob + k * 6 + 1, none⟩) E2.lt).trans E2.c1
            have y2 := (hbi.cell (p := ⟨bb, ob + k * 6 + 2, none⟩) E2.lt).trans E2.c2
            have y3 := (hbi.cell (p := ⟨bb, ob + k * 6 + 3, none⟩) E2.lt).trans E2.c3
            have y4 := (hbi.cell (p := ⟨bb, ob + k * 6 + 4, none⟩) E2.lt).trans E2.c4
            have y5 := (hbi.cell (p := ⟨bb, ob + k * 6 + 5, none⟩) E2.lt).trans E2.c5
            have hsa : ba < wr.heap.size := Nat.lt_of_lt_of_le hba hbi.size
            have hsb : bb < wr.heap.size := Nat.lt_of_lt_of_le hbb hbi.size
            have hn1 := E1.nc
            have hn1' := E1.cm
            have hn2 := E2.nc
            have hn2' := E2.cm
            have hkd : Pr.ok ⟨kd1, kd2, A1, n1, c1, A2, n2, c2⟩ w w.heap.size := ⟨E1.at_, E2.at_, hn1, hn1', hn2, hn2'⟩
            have HKD := Lib.hid hkd; clear hkd
            have hlk1 := E1.at_.len_eq
            have hlk2 := E2.at_.len_eq
            have HLK := Lib.hid (And.intro hlk1 hlk2); clear hlk1 hlk2
            unfold maxLen at hn1' hn2'
            have hm1 : n1 ≤ 9223372036854775807 := by omega
            have hm2 : n2 ≤ 9223372036854775807 := by omega
            clear hn1 hn1' hn2 hn2' E1 E2
            have HE1 := Lib.hid e1; clear e1
            have HE2 := Lib.hid e2; clear e2
            have HR1 := Lib.hid e1'; clear e1'
            have HR2 := Lib.hid e2'; clear e2'
            obtain ⟨fb, hfb⟩ : ∃ fb, fieldsB k1 l1 t1 d1 i1 k2 l2 t2 d2 i2 = fb := ⟨_, rfl⟩
            have hcall := fun wX => sameFields_any k1 l1 t1 d1 i1 A1 n1 c1 k2 l2 t2 d2 i2 A2 n2 c2 wX
            rw [hfb] at hcall
            have HC := Lib.hid hcall; clear hcall
            have HFB := Lib.hid hfb; clear hfb
            go_wp2_with fail
            go_quiet (fail)
            go_wp2_with fail
            refine wp_region_still_tail 6 (by kernel_rfl) (by kernel_rfl) ?_
            simp only [List.take_succ_cons, List.take_zero, List.drop_succ_cons, List.drop_zero]
            change wpStill _ _ (wr.drewN nq).drew _ _ _
            repeat still_step
            refine wpStill_nil ?_
            change wpList _ _ _ _ _ (wr.drewN (nq + 1))
            go_wp2_with fail
            refine (HC.out _).mono ?_
            rintro e w1 ⟨rfl, hb0⟩
            have hb1 : Below wr.heap.size wr w1 := (below_drewN (Below.refl _ wr) (nq + 1)).trans hb0
            have v5 := (hb1.cell (p := ⟨ba, oa + k * 6 + 5, none⟩) hsa).trans x5
            have u5 := (hb1.cell (p := ⟨bb, ob + k * 6 + 5, none⟩) hsb).trans y5
            have hown1 := HOW_kept hOW.out hb1
            have hpb1 : w1.heap[wo.heap.size]? = some (.cells #[.slice (some ⟨ba, oa, none⟩) pn pc, .slice (some ⟨bb, ob, none⟩) pn pc'] 53 (0, 0)) := (hb1.block _ hps).trans HPB2.out
            have hbi1 : Below w.heap.size w w1 := hbi.trans (hb1.mono hbi.size)
            have hsa1 : ba < w1.heap.size := Nat.lt_of_lt_of_le hsa hb1.size
            have hsb1 : bb < w1.heap.size := Nat.lt_of_lt_of_le hsb hb1.size
            have HO1 := Lib.hid hown1; clear hown1
            have HPB1 := Lib.hid hpb1; clear hpb1
            clear hb0 x0 x1 x2 x3 x4 x5 y0 y1 y2 y3 y4 y5 z0 z1 hbi hb1 hsa hsb hps
            cases fb
            · go_wp2_with fail
              go_ret
              refine ⟨ret_bool ?_, hbi1⟩
              have h1 := HSM.out
              rw [HE1.out, HE2.out] at h1
              have h2 := HFB.out
              simp only [fieldsB] at h2
              simp only [Doc.same, h2, Bool.false_and, Bool.and_false] at h1
              rw [HS.out]
              exact h1
            · by_cases hz : n1 = 0 ∧ n2 = 0
              · obtain ⟨hq1, hq2⟩ := hz
                subst hq1 hq2
                go_wp2_with fail
                go_roundw
                case rel =>
                  refine ⟨k + 1, M, by omega, by go_num, HO1.out, HOB.out, HOM.out, ?_, ?_, HPB1.out, hbi1⟩
                  · rw [HSM.out, HE1.out, HE2.out, HR1.out, HR2.out]
                    have h2 := HFB.out
                    simp only [fieldsB] at h2
                    have hk1 : kd1 = .nil := by have := HLK.out.1; cases kd1 with | nil => rfl | cons => simp [Doc.len] at this
                    have hk2 : kd2 = .nil := by have := HLK.out.2; cases kd2 with | nil => rfl | cons => simp [Doc.len] at this
                    subst hk1 hk2
                    simp [Doc.same, h2]
                  · have e1 := HE1.out
                    have e2 := HE2.out
                    rw [e1, e2] at hwM
                    rw [HR1.out, HR2.out]
                    simp only [Doc.nodes] at hwM
                    omega
                case measure => simp [intOf]; omega
              · have ag : (Value.slice Av (R.length + M.length) cv).ownBlock ≠ some ba := fun h => by have := (HO1.out.lt _ h).1; omega
                have ah : (Value.slice Av (R.length + M.length) cv).ownBlock ≠ some bb := fun h => by have := (HO1.out.lt _ h).1; omega
                have hsw : w.heap.size ≤ w1.heap.size := hbi1.size
                by_cases hp1 : 0 < n1
                · skip
                  go_wp2_with fail
                  go_region_held3 (fun w' => w'.cell? ⟨ba, oa + k * 6 + 5, none⟩ = some (.slice A1 n1 c1) ∧ w'.cell? ⟨bb, ob + k * 6 + 5, none⟩ = some (.slice A2 n2 c2))
                    (first
                      | go_keep
                      | (go_split_ands
                         refine ⟨?_, ?_⟩
                         · (rw [hgrow.cell_far _ (by simp; omega) (Ne.symm ag)]; assumption)
                         · (rw [hgrow.cell_far _ (by simp; omega) (Ne.symm ah)]; assumption)))
                    ((refine step_append_lies _ (by rfl) _ _ _ (by rfl) w.heap.size 53 i0 _ 2 48 Try.underlying54 hi hz0 hz1 hz2 rfl (by omega) (.slice Av (R.length + M.length) cv) (R.length + M.length) (cellsOf (R ++ M)) (by rfl) ((HO1.out.alloc _).drew)
                        ⟨w1.heap.size, 0, none⟩ 1 1 [.slice A1 n1 c1, .slice A2 n2 c2] (by rfl) (by rfl) (new_two w1 _ _) (by simp [Value.oneCell'])
                        (by omega) (by unfold maxLen; omega) (by omega) (by simp; omega) (w1.heap.size + 1) (by simp) ?_; intro gg cap2 w2 hown' hgrow hat hlt2))
                  have hat' : (Value.slice (some ⟨gg, 0, none⟩) (R.length + M.length + 1) cap2).ownBlock = (Value.slice Av (R.length + M.length) cv).ownBlock ∨ (Value.slice (some ⟨gg, 0, none⟩) (R.length + M.length + 1) cap2).ownBlock = some (w1.heap.size + 1) := by
                    rcases hat with h | h
                    · exact .inl h.symm
                    · exact .inr (by rw [h]; rfl)
                  obtain ⟨hb2, hpb2, hob2⟩ := pair_behind hbi1 HO1.out HPB1.out HOB.out hgrow hat'
                  clear hgrow hat hat'
                  have HO2 := Lib.hid hown'; clear hown'
                  have HPB3 := Lib.hid hpb2; clear hpb2
                  have HOB2 := Lib.hid hob2; clear hob2
                  go_wp2_with fail
                  go_roundw
                  case rel =>
                    refine ⟨k + 1, M ++ [⟨kd1, kd2, A1, n1, c1, A2, n2, c2⟩], by omega, by go_num, ?_, HOB2.out, ?_, ?_, ?_, HPB3.out, hb2⟩
                    · have := HO2.out
                      rw [← List.append_assoc, cellsOf_app]
                      simpa [cellsOf, Pr.cells, Nat.add_assoc] using this
                    · intro x hx
                      rw [← List.append_assoc] at hx
                      rcases List.mem_append.1 hx with hx | hx
                      · exact HOM.out x hx
                      · simp at hx; subst hx; exact HKD.out
                    · exact same_push HSM.out HE1.out HE2.out HR1.out HR2.out HFB.out _ _ _ _ _ _
                    · have e1 := HE1.out
                      have e2 := HE2.out
                      rw [e1, e2] at hwM
                      rw [HR1.out, HR2.out, ← List.append_assoc, wt_app]
                      simp only [Doc.nodes, wt] at hwM ⊢
                      omega
                  case measure => simp [intOf]; omega
                · have hp2 : 0 < n2 := by omega
                  have hz0' : n1 = 0 := by omega
                  subst hz0'
                  go_wp2_with fail
                  go_region_held3 (fun w' => w'.cell? ⟨ba, oa + k * 6 + 5, none⟩ = some (.slice A1 0 c1) ∧ w'.cell? ⟨bb, ob + k * 6 + 5, none⟩ = some (.slice A2 n2 c2))
                    (first
                      | go_keep
                      | (go_split_ands
                         refine ⟨?_, ?_⟩
                         · (rw [hgrow.cell_far _ (by simp; omega) (Ne.symm ag)]; assumption)
                         · (rw [hgrow.cell_far _ (by simp; omega) (Ne.symm ah)]; assumption)))
                    ((refine step_append_lies _ (by rfl) _ _ _ (by rfl) w.heap.size 53 i0 _ 2 48 Try.underlying54 hi hz0 hz1 hz2 rfl (by omega) (.slice Av (R.length + M.length) cv) (R.length + M.length) (cellsOf (R ++ M)) (by rfl) ((HO1.out.alloc _).drew)
                        ⟨w1.heap.size, 0, none⟩ 1 1 [.slice A1 0 c1, .slice A2 n2 c2] (by rfl) (by rfl) (new_two w1 _ _) (by simp [Value.oneCell'])
                        (by omega) (by unfold maxLen; omega) (by omega) (by simp; omega) (w1.heap.size + 1) (by simp) ?_; intro gg cap2 w2 hown' hgrow hat hlt2))
                  have hat' : (Value.slice (some ⟨gg, 0, none⟩) (R.length + M.length + 1) cap2).ownBlock = (Value.slice Av (R.length + M.length) cv).ownBlock ∨ (Value.slice (some ⟨gg, 0, none⟩) (R.length + M.length + 1) cap2).ownBlock = some (w1.heap.size + 1) := by
                    rcases hat with h | h
                    · exact .inl h.symm
                    · exact .inr (by rw [h]; rfl)
                  obtain ⟨hb2, hpb2, hob2⟩ := pair_behind hbi1 HO1.out HPB1.out HOB.out hgrow hat'
                  clear hgrow hat hat'
                  have HO2 := Lib.hid hown'; clear hown'
                  have HPB3 := Lib.hid hpb2; clear hpb2
                  have HOB2 := Lib.hid hob2; clear hob2
                  go_wp2_with fail
                  go_roundw
                  case rel =>
                    refine ⟨k + 1, M ++ [⟨kd1, kd2, A1, 0, c1, A2, n2, c2⟩], by omega, by go_num, ?_, HOB2.out, ?_, ?_, ?_, HPB3.out, hb2⟩
                    · have := HO2.out
                      rw [← List.append_assoc, cellsOf_app]
                      simpa [cellsOf, Pr.cells, Nat.add_assoc] using this
                    · intro x hx
                      rw [← List.append_assoc] at hx
                      rcases List.mem_append.1 hx with hx | hx
                      · exact HOM.out x hx
                      · simp at hx; subst hx; exact HKD.out
                    · exact same_push HSM.out HE1.out HE2.out HR1.out HR2.out HFB.out _ _ _ _ _ _
                    · have e1 := HE1.out
                      have e2 := HE2.out
                      rw [e1, e2] at hwM
                      rw [HR1.out, HR2.out, ← List.append_assoc, wt_app]
                      simp only [Doc.nodes, wt] at hwM ⊢
                      omega
                  case measure => simp [intOf]; omega
          · obtain rfl : k = pn := by omega
            go_wp2_with fail
            go_roundg (wt (R ++ M))
            case measure =>
              have := HG.out
              omega
            case rel =>
              refine ⟨R ++ M, rfl, ?_, HOM.out, ?_, by omega, hbi⟩
              · rw [List.length_append]; exact hOW.out
              · have h1 := HSM.out
                rw [show pa.drop k = .nil by rw [HPA.out.len_eq]; exact Doc.drop_len pa, show pb.drop k = .nil by rw [HPB.out.len_eq]; exact Doc.drop_len pb] at h1
                rw [HS.out]
                simp only [Doc.same, Bool.and_true] at h1
                exact h1
      · have hsf : pa.same pb = false := by
          cases hh : pa.same pb with
          | false => rfl
          | true => exact absurd (by rw [HPA.out.len_eq, HPB.out.len_eq, Doc.same_len pa pb hh]) hnm
        have HF := Lib.hid hsf; clear hsf
        have hst : Below w.heap.size w (wo.alloc (.cells #[.slice PA pn pc, .slice PA' pn' pc'] 53)) := hbw.alloc hbw.size _
        have hne : ((pn : Int) == (pn' : Int)) = false := by simp; omega
        go_wp2_with fail
        go_ret
        exact ⟨ret_bool (by rw [HS.out, HF.out]; simp), hst⟩
end Go.Proofs.Ytmaahkonjpcgiab
