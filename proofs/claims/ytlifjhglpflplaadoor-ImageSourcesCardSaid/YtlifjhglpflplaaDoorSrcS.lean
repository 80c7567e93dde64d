/- DERIVED. The reference's SourceSetOf. Condition: the library's variables are as the program's text lays them. -/
import Derived.Test.YtlifjhglpflplaaDoorSrcR
import Derived.Laws.AppendOwn
set_option linter.unusedSimpArgs false
set_option linter.unusedVariables false
namespace Go.Proofs.YtlifjhglpflplaaDoor
open Go.RowKit
theorem intInfo : (Tryd.prog.info? 3).map (fun i => (i.zero, i.size, i.bytes)) = some (some (.int .i64 0), 1, 8) := by kernel_rfl
theorem append_none {P : Program} (w : World) {ops : Array Oper} {rest : List Oper} {o : Oper} {a : Act} {Q : Exit → Act → World → Prop}
    (hg : o.guard = none) (s x : Operand) (t : TypeId) (hop : o.op = Op.call { callee := Callee.builtin Builtin.append, args := #[s, x], argTypes := #[t, t] })
    (base : Nat) (e : TypeId) (i : TypeInfo) (size : Nat) (h1 : P.underlying t = some (.slice e)) (h2 : P.info? e = some i)
    (v : Value) (n : Nat) (xs : List Value) (hs : a.eval s = v) (hown : w.ownsRow base e size v n xs) (hx : a.eval x = .slice none 0 0)
    (hK : wpList P ops Q rest (a.put o.dst v) w) : wpList P ops Q (o :: rest) a w := by
  refine wpList_plain hg fun K hK' => ?_
  have hrun := run_append_owned_none (P := P) w base t o.type e i size h1 h2 v n xs hown
  unfold Oper.wp
  simp [execOp, hop, resolve, invoke, builtin, hs, hx, hrun, Result.andThen]
  exact hK' _ _ hK
def intV (z : Int) : Value := .int .i64 z
/-- The parts up to a place. -/
def srcQ (a : ByteArray) (x : Int) (zs : List Int) (k : Nat) : List ByteArray := ((zs.take k).filter (fun z => decide (z ≤ x))).map (srcS a)
theorem srcQ_yes {a : ByteArray} {x : Int} {zs : List Int} {k : Nat} {z : Int} (hz : zs[k]? = some z) (h : z ≤ x) : srcQ a x zs (k + 1) = srcQ a x zs k ++ [srcS a z] := by
  unfold srcQ
  rw [List.take_add_one, hz, List.filter_append, List.map_append]
  simp [h]
theorem srcQ_no {a : ByteArray} {x : Int} {zs : List Int} {k : Nat} {z : Int} (hz : zs[k]? = some z) (h : ¬ z ≤ x) : srcQ a x zs (k + 1) = srcQ a x zs k := by
  unfold srcQ
  rw [List.take_add_one, hz, List.filter_append, List.map_append]
  simp [h]
theorem srcQ_len (a : ByteArray) (x : Int) (zs : List Int) (k : Nat) : (srcQ a x zs k).length ≤ zs.length := by
  unfold srcQ
  rw [List.length_map]
  exact Nat.le_trans (List.length_filter_le _ _) (by rw [List.length_take]; omega)
theorem srcQ_all {a : ByteArray} {x : Int} {zs : List Int} (hr : risP zs) : srcQ a x zs zs.length ++ (if x ∈ zs then [] else [srcS a x]) = (srcL x zs).map (srcS a) := by
  rw [← src_eq x hr, List.map_append]
  unfold srcQ
  rw [List.take_length]
  congr 1
  by_cases h : x ∈ zs <;> simp [h]
theorem contW_any (A : Option Addr) (n c : Nat) (zs : List Int) (x : Int) (w : World) (hz : zs.length = n) (hn : n ≤ c) (hcm : c ≤ 9223372036854775807) (hR : IntRow w w.heap.size A zs) :
    Calls Tryd.prog 42 #[.slice A n c, .int .i64 x] w fun e w' => e = .returned (.bool (decide (x ∈ zs))) ∧ w = w' := by
  by_cases h0 : n = 0
  · subst h0
    have : zs = [] := List.eq_nil_of_length_eq_zero hz
    subst this
    exact (Tryd.slices_Contains_int_empty A c x w).mono fun e w' h => ⟨by rw [h.1]; simp, h.2.symm⟩
  · obtain ⟨b, off, rfl, hb, hc⟩ := hR.at (k := 0) (by omega)
    refine (Tryd.slices_Contains_int b off n c zs x w (by omega) (by omega) (fun j hj => by
      rw [hc j zs[j] (List.getElem?_eq_getElem hj), List.getD_eq_getElem?_getD, List.getElem?_eq_getElem hj]; rfl)).mono fun e w' h => ⟨?_, h.2.symm⟩
    rw [h.1, List.take_of_length_le (by omega)]
    congr 2
    rw [Bool.eq_iff_iff]
    simp
theorem ints_new (w : World) (x : Int) (t : TypeId) : ∀ j u, [Value.int .i64 x][j]? = some u → (w.alloc (.cells #[.int .i64 x] t)).cell? ((⟨w.heap.size, 0, none⟩ : Addr).add j) = some u :=
  World.news_of_block (heap_alloc_new w (.cells #[.int .i64 x] t))
set_option maxHeartbeats 800000 in
theorem joinBox_any {a : ByteArray} {x : Int} {zs : List Int} {L : List ByteArray} {B q : Nat} {v : Value} {wX : World} (hb : Box B q L v wX) (hL : L = (srcL x zs).map (srcS a)) (hE : srcE a x zs = 0) :
    Calls Tryd.prog 27 #[v, .string ⟨#[44, 32]⟩] wX fun e w' => e = .returned (.string (srcO a x zs)) ∧ Below wX.heap.size wX w' := by
  obtain ⟨hj1, hj2⟩ := src_small hL hE
  have hpos : 0 < L.length := by rw [hL]; unfold srcL; simp
  obtain ⟨g, cap, rfl, hg1, hg2⟩ := hb.row.form hpos
  have hcap : L.length ≤ cap := by
    rcases hb.row.2 with ⟨hv, _⟩ | ⟨g', cap', cur, hv, _, _, _, hh, _⟩
    · cases hv
    · cases hv; first | exact hh | omega
  have hJ := Tryd.strings_Join g 0 cap L ⟨#[44, 32]⟩ wX (fun j y hj => by
    rw [Nat.zero_add, hb.row.cellAt j (by have := (List.getElem?_eq_some_iff.1 hj).1; omega)]; unfold strs; rw [List.getElem?_map, hj]; rfl) hg2 (by omega) (by omega) hj1
  rw [srcO_of hL] at hJ
  exact hJ
set_option maxRecDepth 100000 in
set_option maxHeartbeats 4000000 in
theorem sourceSetOf_any (a : ByteArray) (x : Int) (A : Option Addr) (n c : Nat) (zs : List Int) (w : World) (hv : Vars w) (hz : zs.length = n) (hn : n ≤ c) (hcm : c ≤ 9223372036854775807) (hR : IntRow w w.heap.size A zs) (hnil : A = none → n = 0 ∧ c = 0) :
    Calls Tryd.prog 15 #[.string a, .int .i64 x, .slice A n c] w fun e w' => e = .returned (srcV a x zs) ∧ Below w.heap.size w w' := by
  have eg : ∀ args w, (callFunc 40 args).run Tryd.prog w = .ok (.enter 40 args) w := enters_of Tryd.func40 (by kernel_rfl) rfl
  obtain ⟨rest, hrest⟩ : ∃ r : ByteArray, (⟨(Lib.trimPrefix a.data.toList [47]).toArray⟩ : ByteArray) = r := ⟨_, rfl⟩
  have hpre : ∀ wX, Calls Tryd.prog 38 #[.string a, .string ⟨#[47]⟩] wX fun e w' => e = .returned (.bool (Lib.hasPrefix a.data.toList [47])) ∧ wX = w' := fun wX =>
    (Tryd.strings_HasPrefix a ⟨#[47]⟩ wX).mono fun e w' h => ⟨h.1, h.2.symm⟩
  have htrim : ∀ wX, Calls Tryd.prog 39 #[.string a, .string ⟨#[47]⟩] wX fun e w' => e = .returned (.string rest) ∧ wX = w' := fun wX =>
    (Tryd.strings_TrimPrefix a ⟨#[47]⟩ wX).mono fun e w' h => ⟨h.1.trans (by rw [← hrest]), h.2.symm⟩
  have hcp := fun wX (hX : Below w.heap.size w wX) => rPath_any rest wX ((hv.below hX).1)
  have hE : srcE a x zs = if (Lib.hasPrefix a.data.toList [47] && tpathB rest) = false then 3 else if 12 < n then 4 else if ((x :: zs).any noW) = true then 2 else if risP zs then 0 else 5 := by
    unfold srcE rootB
    rw [hrest, hz, List.any_cons]
  have hw0 : Below w.heap.size w (w.alloc (.cells #[.string a] 9)) := (Below.refl _ _).alloc (Nat.le_refl _) _
  have hq2 : (w.alloc (.cells #[.string a] 9)).heap[w.heap.size]? = some (.cells #[.string a] 9) := heap_alloc_new _ _
  have hfail : ∀ er : Int, srcE a x zs = er → er ≠ 0 → srcV a x zs = .tuple #[.string ⟨#[]⟩, .int .i64 er] := fun er h h2 => by unfold srcV; rw [if_neg (by rw [h]; exact h2), h]
  have HFL := Lib.hid hfail
  have HE := Lib.hid hE
  have HRW := Lib.hid hR
  have HZ := Lib.hid hz
  have H0 := Lib.hid hw0
  have HQ := Lib.hid hq2
  have HV := Lib.hid hv
  clear hE hR hz hrest hv hw0 hq2 hfail
  cases h1 : Lib.hasPrefix a.data.toList [47] with
  | false =>
    rw [h1] at hpre HE
    have HP := Lib.hid hpre
    have HO := Lib.hid (HFL.out 3 (HE.out.trans (if_pos rfl)) (by decide))
    clear hpre h1 htrim hcp eg
    go_enter Tryd.func15, Tryd.ntmps15
    go_wp2_with fail
    refine (HP.out _).mono ?_
    rintro e w1 ⟨rfl, rfl⟩
    go_wp2_with fail
    go_ret2
    exact ⟨by rw [HO.out]; rfl, H0.out⟩
  | true =>
    rw [h1] at hpre HE
    have HP := Lib.hid hpre
    have HT := Lib.hid htrim
    clear hpre htrim h1
    cases h2 : tpathB rest with
    | false =>
      rw [h2] at hcp HE
      have HC := Lib.hid hcp
      have HO := Lib.hid (HFL.out 3 (HE.out.trans (if_pos rfl)) (by decide))
      clear hcp h2 eg
      go_enter Tryd.func15, Tryd.ntmps15
      go_wp2_with fail
      refine (HP.out _).mono ?_
      rintro e w1 ⟨rfl, rfl⟩
      go_wp2_with fail
      refine (HT.out _).mono ?_
      rintro e w1 ⟨rfl, rfl⟩
      go_wp2_with fail
      refine (HC.out _ H0.out).mono ?_
      rintro e w1 ⟨rfl, hb1⟩
      have HB := Lib.hid (H0.out.trans (hb1.mono H0.out.size))
      clear hb1
      go_wp2_with fail
      go_ret2
      exact ⟨by rw [HO.out]; rfl, HB.out⟩
    | true =>
      rw [h2] at hcp HE
      have HC := Lib.hid hcp
      have HE1 := Lib.hid (HE.out.trans (if_neg (by decide)))
      clear hcp h2 HE
      by_cases h3 : 12 < n
      · have h3i : (12 : Int) < (n : Int) := by omega
        have HO := Lib.hid (HFL.out 4 (HE1.out.trans (if_pos h3)) (by decide))
        clear eg
        go_enter Tryd.func15, Tryd.ntmps15
        go_wp2_with fail
        refine (HP.out _).mono ?_
        rintro e w1 ⟨rfl, rfl⟩
        go_wp2_with fail
        refine (HT.out _).mono ?_
        rintro e w1 ⟨rfl, rfl⟩
        go_wp2_with fail
        refine (HC.out _ H0.out).mono ?_
        rintro e w1 ⟨rfl, hb1⟩
        have HB := Lib.hid (H0.out.trans (hb1.mono H0.out.size))
        clear hb1
        go_wp2_with fail
        go_ret2
        exact ⟨by rw [HO.out]; rfl, HB.out⟩
      · have h3i : ¬ (12 : Int) < (n : Int) := by omega
        have HE2 := Lib.hid (HE1.out.trans (if_neg h3))
        obtain ⟨i0, hi, hz0, hz1, hz2⟩ := info_parts intInfo
        clear HE1
        go_enter Tryd.func15, Tryd.ntmps15
        go_wp2_with fail
        refine (HP.out _).mono ?_
        rintro e w1 ⟨rfl, rfl⟩
        go_wp2_with fail
        refine (HT.out _).mono ?_
        rintro e w1 ⟨rfl, rfl⟩
        go_wp2_with fail
        refine (HC.out _ H0.out).mono ?_
        rintro e w1 ⟨rfl, hb1⟩
        have hs1 : w.heap.size < w1.heap.size := by have := hb1.size; simp only [World.size_alloc] at this; omega
        have hq1 : w1.heap[w.heap.size]? = some (.cells #[.string a] 9) := (hb1.block w.heap.size (by simp)).trans HQ.out
        have HB1 := Lib.hid (H0.out.trans (hb1.mono H0.out.size))
        have hlit := World.ownsRow_lit (base := w.heap.size) (e := 3) (size := 1) w1 #[.int .i64 x] 1 (by omega) (by unfold maxLen; omega) rfl
        have HLT := Lib.hid hlit
        have HQ1 := Lib.hid hq1
        clear hb1 hlit hq1
        have hlen3 : zs.length ≤ 12 := by rw [HZ.out]; omega
        have hcases : (A = none ∧ n = 0 ∧ c = 0) ∨ ∃ ad, A = some ad := by
          cases A with
          | none => exact .inl ⟨rfl, (hnil rfl).1, (hnil rfl).2⟩
          | some ad => exact .inr ⟨ad, rfl⟩
        rcases hcases with ⟨hA, hn0, hc0⟩ | ⟨ad, hA⟩
        · have hzs : zs = [] := List.eq_nil_of_length_eq_zero (by rw [HZ.out]; exact hn0)
          subst hA
          subst hn0
          subst hc0
          subst hzs
          have HE3 := Lib.hid (show srcE a x [] = if noW x = true then 2 else 0 by
            rw [HE2.out, List.any_cons]
            cases noW x <;> simp [risP])
          obtain ⟨w5, hw5⟩ : ∃ w5, w1.alloc (.cells #[.int .i64 x] 3) = w5 := ⟨_, rfl⟩
          have hb5 : Below w.heap.size w w5 := by rw [← hw5]; exact HB1.out.alloc (by omega) _
          have x5 : w5.cell? ⟨w1.heap.size, 0, none⟩ = some (.int .i64 x) := by rw [← hw5]; simp
          have q5 : w5.heap[w.heap.size]? = some (.cells #[.string a] 9) := by rw [← hw5]; exact (Below.heap_alloc _ _ _ hs1).trans HQ1.out
          have hlt5 : w.heap.size < w5.heap.size := by rw [← hw5]; simp; omega
          have HB5 := Lib.hid hb5
          have HX5 := Lib.hid x5
          have HQ5 := Lib.hid q5
          have HLT5 := Lib.hid (show w5.ownsRow w.heap.size 3 1 (.slice (some ⟨w1.heap.size, 0, none⟩) 1 1) 1 [.int .i64 x] by rw [← hw5]; exact HLT.out)
          have HW5 := Lib.hid hw5
          clear hb5 x5 q5 hw5 HLT HB1 HQ1
          go_upto_region 6 with (at_builtin; go_loud (refine append_none _ rfl _ _ 30 rfl w.heap.size 3 i0 1 Tryd.underlying30 hi (.slice (some ⟨w1.heap.size, 0, none⟩) 1 1) 1 [.int .i64 x] rfl (by rw [HW5.out]; exact HLT5.out) rfl ?_; rw [HW5.out]))
          have x5 := HX5.out
          cases hnx : noW x with
          | true =>
            rw [hnx] at HE3
            have HO := Lib.hid (HFL.out 2 (HE3.out.trans (if_pos rfl)) (by decide))
            rcases noW_cases hnx with hx | hx
            · clear hnx
              refine wp_loop_rounds 1 ?_
              rw [rounds_succ]
              go_wp2_with fail
              go_ret2
              exact ⟨by rw [HO.out]; rfl, HB5.out⟩
            · have hx2 : ¬ x < 1 := by omega
              clear hnx
              refine wp_loop_rounds 1 ?_
              rw [rounds_succ]
              go_wp2_with fail
              go_ret2
              exact ⟨by rw [HO.out]; rfl, HB5.out⟩
          | false =>
            rw [hnx] at HE3
            obtain ⟨hx0, hx1⟩ := noW_inv hnx
            have hE0 := HE3.out.trans (if_neg (by decide))
            have HEZ := Lib.hid hE0
            have HO := Lib.hid (show srcV a x [] = .tuple #[.string (srcO a x []), .int .i64 0] by unfold srcV; rw [if_pos hE0])
            have hx2 : ¬ x < 1 := by omega
            have hx3 : ¬ 10000 < x := by omega
            clear hnx hE0
            refine wp_loop_rounds 2 ?_
            rw [rounds_succ]
            go_wp2_with fail
            rw [rounds_succ]
            go_wp2_with fail
            refine wp_loop_rounds 1 ?_
            rw [rounds_succ]
            go_wp2_with fail
            refine wp_loop_rounds 1 ?_
            rw [rounds_succ]
            go_wp2_with fail
            have hW : Below w5.heap.size w5 (w5.alloc (.cells #[.slice none 0 0] 42)) := (Below.refl _ _).alloc (Nat.le_refl _) _
            have hbx : Box w5.heap.size w5.heap.size [] (.slice none 0 0) (w5.alloc (.cells #[.slice none 0 0] 42)) := ⟨Nat.le_refl _, heap_alloc_new _ _, World.ownsRow_nil _ _ _ _, by simp [Value.ownBlock]⟩
            have hq2c : (w5.alloc (.cells #[.slice none 0 0] 42)).cell? ⟨w.heap.size, 0, none⟩ = some (.string a) := (hW.cell (p := ⟨w.heap.size, 0, none⟩) hlt5).trans (cell_of_row _ _ 0 _ _ _ HQ5.out)
            have HAD := Lib.hid (add_any a x w5.heap.size w.heap.size w5.heap.size [] (.slice none 0 0) _ (HV.out.below (HB5.out.trans (hW.mono (by omega)))) (srcE_zero HEZ.out).1 hx0 hx1 hW.size (by simp) hbx hq2c (by omega) (by simp [Value.ownBlock]))
            have HBX := Lib.hid hbx
            have HW := Lib.hid hW
            have HCT := Lib.hid (fun wX => contW_any none 0 0 [] x wX rfl (Nat.le_refl _) (Nat.zero_le _) (.inl rfl))
            clear hbx hW hq2c
            refine (HCT.out _).mono ?_
            rintro e w6 ⟨rfl, rfl⟩
            go_wp2_with fail
            refine HAD.out.mono ?_
            rintro e w8 ⟨rfl, v8, hbx8, hwr8⟩
            have hb8 := HW.out.trans (hwr8.below HBX.out HW.out.size)
            have c8 := hbx8.cell
            have HJ := Lib.hid (joinBox_any hbx8 (x := x) (zs := []) (by simp [srcL]) HEZ.out)
            have HB8 := Lib.hid (HB5.out.trans (hb8.mono (by omega)))
            clear hbx8 hwr8 hb8
            go_wp2_with fail
            refine HJ.out.mono ?_
            rintro e w9 ⟨rfl, hb9⟩
            have HB9 := Lib.hid (HB8.out.trans (hb9.mono HB8.out.size))
            clear hb9
            go_wp2_with fail
            go_ret2
            exact ⟨by rw [HO.out]; rfl, HB9.out⟩
        · subst hA
          have hnews : ∀ j u, (zs.map intV)[j]? = some u → (w1.alloc (.cells #[.int .i64 x] 3)).cell? (ad.add j) = some u := fun j u hj => by
            rw [List.getElem?_map] at hj
            cases hz : zs[j]? with
            | none => rw [hz] at hj; cases hj
            | some z =>
              rw [hz] at hj
              cases hj
              obtain ⟨b, off, hA2, hb, hc⟩ := HRW.out.at (k := j) (by have := (List.getElem?_eq_some_iff.1 hz).1; exact this)
              cases hA2
              have e : (⟨b, off, none⟩ : Addr).add j = ⟨b, off + j, none⟩ := by unfold Addr.add; split <;> simp_all
              rw [e]
              exact (((HB1.out.alloc (by omega) _).cell (p := ⟨b, off + j, none⟩) hb).trans (hc j z hz))
          have HNW := Lib.hid hnews
          clear hnews
          go_upto_region 6 with (at_builtin; go_loud (refine wpList_append_own _ rfl _ _ 30 rfl w.heap.size 3 i0 _ 1 8 Tryd.underlying30 hi hz0 hz1 hz2 rfl (by decide) (.slice (some ⟨w1.heap.size, 0, none⟩) 1 1) 1 [.int .i64 x] rfl HLT.out ad n c (zs.map intV) rfl (by rw [List.length_map, HZ.out]; omega) HNW.out (fun u hu => by obtain ⟨z, _, rfl⟩ := List.mem_map.1 hu; rfl) (by unfold maxLen; omega) (by omega) (by simp; omega) ?_; intro v5 w5 hown5 hgrow5 hiff; clear hiff; obtain ⟨g5, c5, rfl, hg5, hl5⟩ := hown5.form (by omega)))
          have hcl : ∀ j z, (x :: zs)[j]? = some z → w5.cell? ⟨g5, j, none⟩ = some (.int .i64 z) := fun j z hj => by
            have hjl := (List.getElem?_eq_some_iff.1 hj).1
            rw [List.length_cons, HZ.out] at hjl
            rw [hown5.cellAt j (by omega)]
            have e : ([Value.int .i64 x] ++ zs.map intV) = (x :: zs).map intV := rfl
            rw [e, List.getElem?_map, hj]
            rfl
          have hb5 : Below w.heap.size w w5 := (HB1.out.alloc (by omega) _).grown hgrow5 (by simp; omega) (fun q hq => (HLT.out.lt q hq).1)
          have q5 : w5.heap[w.heap.size]? = some (.cells #[.string a] 9) := (hgrow5.block _ (by simp; omega) (by simp [Value.ownBlock]; omega)).trans ((Below.heap_alloc _ _ _ hs1).trans HQ1.out)
          have hlt5 : w.heap.size < w5.heap.size := by have := hgrow5.size; simp at this; omega
          have HB5 := Lib.hid hb5
          have HQ5 := Lib.hid q5
          have HCL := Lib.hid hcl
          clear hb5 q5 hcl hown5 hgrow5 HLT HNW HB1 HQ1
          go_loopw [33] (fun i wr => ∃ k : Nat, k ≤ 1 + n ∧ i = .int .i64 k ∧ ((x :: zs).take k).any noW = false ∧ wr = w5) (fun i _ => 1 + n - (intOf i).toNat)
          case atStart => exact ⟨0, Nat.zero_le _, rfl, rfl, rfl⟩
          case round =>
            obtain ⟨k, hk, rfl, hall, hwr⟩ := hrel
            subst wr
            have HALL := Lib.hid hall
            clear hall
            by_cases hlt : k < 1 + n
            · obtain ⟨z, hzk⟩ : ∃ z, (x :: zs)[k]? = some z := ⟨_, List.getElem?_eq_getElem (by rw [List.length_cons, HZ.out]; omega)⟩
              have z0 := HCL.out k z hzk
              have HZK := Lib.hid hzk
              clear hzk
              cases hnz : noW z with
              | true =>
                have HO := Lib.hid (HFL.out 2 (HE2.out.trans (if_pos (noW_hit HZK.out hnz))) (by decide))
                rcases noW_cases hnz with hz1' | hz1'
                · clear hnz
                  go_wp2_with fail
                  go_ret2
                  exact ⟨by rw [HO.out]; rfl, HB5.out⟩
                · have hz2' : ¬ z < 1 := by omega
                  clear hnz
                  go_wp2_with fail
                  go_ret2
                  exact ⟨by rw [HO.out]; rfl, HB5.out⟩
              | false =>
                obtain ⟨hz1', hz2'⟩ := noW_inv hnz
                have hz3 : ¬ z < 1 := by omega
                have hz4 : ¬ 10000 < z := by omega
                have HNZ := Lib.hid hnz
                clear hnz
                go_wp2_with fail
                go_roundw
                case rel => exact ⟨k + 1, by omega, by go_num, noW_step HZK.out HALL.out HNZ.out, by first | rfl | trivial⟩
                case measure => simp [intOf]; omega
            · have ha : (x :: zs).any noW = false := by
                have h := HALL.out
                rwa [List.take_of_length_le (by rw [List.length_cons, HZ.out]; omega)] at h
              have HE3 := Lib.hid (HE2.out.trans (if_neg (by rw [ha]; decide)))
              have hx9 : noW x = false := by rw [List.any_cons, Bool.or_eq_false_iff] at ha; exact ha.1
              obtain ⟨hx0, hx1⟩ := noW_inv hx9
              clear ha hx9
              go_wp2_with fail
              go_loopw [46] (fun i wr => ∃ k : Nat, k ≤ n ∧ i = .int .i64 k ∧ (∀ j a b, j + 1 < k → zs[j]? = some a → zs[j + 1]? = some b → a < b) ∧ wr = w5) (fun i _ => n - (intOf i).toNat)
              case atStart => exact ⟨0, Nat.zero_le _, rfl, fun j a b hj => by omega, rfl⟩
              case round =>
                obtain ⟨k, hk, rfl, hp, hwr⟩ := hrel
                subst wr
                have HP2 := Lib.hid hp
                clear hp
                by_cases hlt : k < n
                · obtain ⟨y, hy⟩ : ∃ y, zs[k]? = some y := ⟨_, List.getElem?_eq_getElem (by rw [HZ.out]; exact hlt)⟩
                  obtain ⟨b, off, hA2, hb, hc⟩ := HRW.out.at (k := k) (by rw [HZ.out]; exact hlt)
                  cases hA2
                  have y0 := (HB5.out.cell (p := ⟨b, off + k, none⟩) hb).trans (hc k y hy)
                  have HY := Lib.hid hy
                  clear hy
                  by_cases hk0 : (0 : Int) < (k : Int)
                  rotate_left
                  · clear hc
                    go_wp2_with fail
                    go_roundw
                    case rel => exact ⟨k + 1, by omega, by go_num, fun j a b hj => by omega, by first | rfl | trivial⟩
                    case measure => simp [intOf]; omega
                  · obtain ⟨m, rfl⟩ : ∃ m, k = m + 1 := ⟨k - 1, by omega⟩
                    obtain ⟨z, hz⟩ : ∃ z, zs[m]? = some z := ⟨_, List.getElem?_eq_getElem (by rw [HZ.out]; omega)⟩
                    have z0 := (HB5.out.cell (p := ⟨b, off + m, none⟩) hb).trans (hc m z hz)
                    have HZ2 := Lib.hid hz
                    clear hz hc
                    have hm0 : (0 : Int) < (m : Int) + 1 := by omega
                    by_cases hle : y ≤ z
                    · have HO := Lib.hid (HFL.out 5 (HE3.out.trans (if_neg (ris_not HZ2.out HY.out hle))) (by decide))
                      go_wp2_with fail
                      go_ret2
                      exact ⟨by rw [HO.out]; rfl, HB5.out⟩
                    · go_wp2_with fail
                      go_roundw
                      case rel =>
                        refine ⟨m + 2, by omega, by go_num, fun j a b hj ha hb => ?_, by first | rfl | trivial⟩
                        by_cases hjm : j = m
                        · subst hjm
                          rw [HZ2.out] at ha; rw [HY.out] at hb
                          cases ha; cases hb
                          omega
                        · exact HP2.out j a b (by omega) ha hb
                      case measure => simp [intOf]; omega
                · have hr : risP zs := ris_of fun j a b ha hb => HP2.out j a b (by have := (List.getElem?_eq_some_iff.1 hb).1; rw [HZ.out] at this; omega) ha hb
                  have hE0 := HE3.out.trans (if_pos hr)
                  have HEZ := Lib.hid hE0
                  have HRIS := Lib.hid hr
                  have HO := Lib.hid (show srcV a x zs = .tuple #[.string (srcO a x zs), .int .i64 0] by unfold srcV; rw [if_pos hE0])
                  have hW : Below w5.heap.size w5 (w5.alloc (.cells #[.slice none 0 0] 42)) := (Below.refl _ _).alloc (Nat.le_refl _) _
                  have hbx : Box w5.heap.size w5.heap.size [] (.slice none 0 0) (w5.alloc (.cells #[.slice none 0 0] 42)) := ⟨Nat.le_refl _, heap_alloc_new _ _, World.ownsRow_nil _ _ _ _, by simp [Value.ownBlock]⟩
                  have HAD := Lib.hid (fun z L v wX (hX : Below w5.heap.size w5 wX) (hbX : Box w5.heap.size w5.heap.size L v wX) (hL : L.length ≤ 13) (g0 : 1 ≤ z) (g1 : z ≤ 10000) => add_any a z w5.heap.size w.heap.size w5.heap.size L v wX (HV.out.below (HB5.out.trans (hX.mono (by omega)))) (srcE_zero HEZ.out).1 g0 g1 hX.size hL hbX ((hX.cell (p := ⟨w.heap.size, 0, none⟩) hlt5).trans (cell_of_row _ _ 0 _ _ _ HQ5.out)) (by omega) (fun e => by have := (hbX.row.lt _ e).1; omega))
                  have HCT := Lib.hid (fun wX (hX : Below w5.heap.size w5 wX) => contW_any (some ad) n c zs x wX HZ.out hn hcm ((HRW.out.below (HB5.out.trans (hX.mono (by omega))) (Nat.le_refl _)).more (HB5.out.trans (hX.mono (by omega))).size))
                  have HBX := Lib.hid hbx
                  have HW := Lib.hid hW
                  clear hE0 hr hbx hW
                  go_wp2_with fail
                  go_loopw [66] (fun i wr => ∃ (k : Nat) (v : Value), k ≤ n ∧ i = .int .i64 k ∧ Box w5.heap.size w5.heap.size (srcQ a x zs k) v wr ∧ Below w5.heap.size w5 wr) (fun i _ => n - (intOf i).toNat)
                  case atStart => exact ⟨0, _, Nat.zero_le _, rfl, HBX.out, HW.out⟩
                  case round =>
                    obtain ⟨k, v, hk, rfl, hbx, hbw⟩ := hrel
                    have hql := srcQ_len a x zs k
                    have HBXr := Lib.hid hbx
                    have HBW := Lib.hid hbw
                    clear hbx hbw
                    by_cases hlt : k < n
                    · obtain ⟨z, hzk⟩ : ∃ z, zs[k]? = some z := ⟨_, List.getElem?_eq_getElem (by rw [HZ.out]; exact hlt)⟩
                      obtain ⟨b, off, hA2, hb, hc⟩ := HRW.out.at (k := k) (by rw [HZ.out]; exact hlt)
                      cases hA2
                      have z0 := ((HB5.out.trans (HBW.out.mono (by omega))).cell (p := ⟨b, off + k, none⟩) hb).trans (hc k z hzk)
                      have HZK := Lib.hid hzk
                      obtain ⟨hr0, hr1⟩ := (srcE_zero HEZ.out).2.2.1 z (List.mem_of_getElem? hzk)
                      clear hzk hc
                      by_cases hzx : z ≤ x
                      · have HN := Lib.hid (srcQ_yes (a := a) HZK.out hzx)
                        go_wp2_with fail
                        refine (HAD.out z _ v wr HBW.out HBXr.out (by omega) hr0 hr1).mono ?_
                        rintro e w8 ⟨rfl, v8, hbx8, hwr8⟩
                        have hb8 := HBW.out.trans ((hwr8.below HBXr.out HBW.out.size))
                        have HX8 := Lib.hid hbx8
                        have HB8 := Lib.hid hb8
                        clear hbx8 hwr8 hb8
                        go_wp2_with fail
                        go_roundw
                        case rel => exact ⟨k + 1, v8, by omega, by go_num, by rw [HN.out]; exact HX8.out, HB8.out⟩
                        case measure => simp [intOf]; omega
                      · have HN := Lib.hid (srcQ_no (a := a) HZK.out hzx)
                        go_wp2_with fail
                        go_roundw
                        case rel => exact ⟨k + 1, v, by omega, by go_num, by rw [HN.out]; exact HBXr.out, HBW.out⟩
                        case measure => simp [intOf]; omega
                    · have hkn : k = zs.length := by rw [HZ.out]; omega
                      have HALLq := Lib.hid (srcQ_all (a := a) (x := x) HRIS.out)
                      have HBXe := Lib.hid (show Box w5.heap.size w5.heap.size (srcQ a x zs zs.length) v wr by rw [← hkn]; exact HBXr.out)
                      have hql2 := srcQ_len a x zs zs.length
                      clear hkn
                      go_wp2_with fail
                      refine (HCT.out _ HBW.out).mono ?_
                      rintro e w6 ⟨rfl, rfl⟩
                      by_cases hmem : x ∈ zs
                      · have hL : srcQ a x zs zs.length = (srcL x zs).map (srcS a) := by
                          have h := HALLq.out
                          rw [if_pos hmem, List.append_nil] at h
                          exact h
                        have HJ := Lib.hid (joinBox_any HBXe.out hL HEZ.out)
                        have c8 := HBXe.out.cell
                        have hdm : decide (x ∈ zs) = true := decide_eq_true hmem
                        rw [hdm]
                        clear hL
                        go_wp2_with fail
                        refine HJ.out.mono ?_
                        rintro e w9 ⟨rfl, hb9⟩
                        have HB9 := Lib.hid (HB5.out.trans ((HBW.out.mono (by omega)).trans (hb9.mono (by have := HBW.out.size; omega))))
                        clear hb9
                        go_wp2_with fail
                        go_ret2
                        exact ⟨by rw [HO.out]; rfl, HB9.out⟩
                      · have hL : srcQ a x zs zs.length ++ [srcS a x] = (srcL x zs).map (srcS a) := by
                          have h := HALLq.out
                          rw [if_neg hmem] at h
                          exact h
                        have HLL := Lib.hid hL
                        have hdm : decide (x ∈ zs) = false := decide_eq_false hmem
                        rw [hdm]
                        clear hL
                        go_wp2_with fail
                        refine (HAD.out x _ v _ HBW.out HBXe.out (by omega) hx0 hx1).mono ?_
                        rintro e w8 ⟨rfl, v8, hbx8, hwr8⟩
                        have hb8 := HBW.out.trans (hwr8.below HBXe.out HBW.out.size)
                        have c8 := hbx8.cell
                        have HJ := Lib.hid (joinBox_any hbx8 HLL.out HEZ.out)
                        have HB8 := Lib.hid hb8
                        clear hbx8 hwr8 hb8
                        go_wp2_with fail
                        refine HJ.out.mono ?_
                        rintro e w9 ⟨rfl, hb9⟩
                        have HB9 := Lib.hid (HB5.out.trans ((HB8.out.mono (by omega)).trans (hb9.mono (by have := HB8.out.size; omega))))
                        clear hb9
                        go_wp2_with fail
                        go_ret2
                        exact ⟨by rw [HO.out]; rfl, HB9.out⟩
end Go.Proofs.YtlifjhglpflplaaDoor
