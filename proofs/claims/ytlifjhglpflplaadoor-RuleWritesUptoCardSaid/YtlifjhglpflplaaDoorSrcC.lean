/- DERIVED. asset.SourceSet. Condition: the library's variables are as the program's text lays them. -/
import Derived.Test.YtlifjhglpflplaaDoorSrcB
import Derived.Deep.AppendLies
import Derived.ChangeAlike
import Derived.Handy
import Derived.Lib.Join
namespace Go.Proofs.YtlifjhglpflplaaDoor
open Go.RowKit
set_option linter.unusedVariables false
set_option linter.unusedSimpArgs false
theorem strInfo : (Tryd.prog.info? 9).map (fun i => (i.zero, i.size, i.bytes)) = some (some (.string .empty), 1, 16) := by kernel_rfl
def srcS (a : ByteArray) (x : Int) : ByteArray := a ++ ⟨#[63, 119, 61]⟩ ++ itoaS x ++ ⟨#[32]⟩ ++ itoaS x ++ ⟨#[119]⟩
theorem srcS_size {a : ByteArray} {x : Int} (ha : a.size ≤ 201) (h0 : 1 ≤ x) (h1 : x ≤ 10000) : (srcS a x).size ≤ 300 := by
  have := itoaS_size x (by omega) (by omega)
  unfold srcS
  rw [ByteArray.size_append, ByteArray.size_append, ByteArray.size_append, ByteArray.size_append, ByteArray.size_append]
  have e1 : (ByteArray.mk #[63, 119, 61]).size = 3 := rfl
  have e2 : (ByteArray.mk #[32]).size = 1 := rfl
  have e3 : (ByteArray.mk #[119]).size = 1 := rfl
  omega
set_option maxRecDepth 100000 in
set_option maxHeartbeats 800000 in
theorem source_any (a : ByteArray) (x : Int) (w : World) (hv : Vars w) (ha : a.size ≤ 201) (h0 : 1 ≤ x) (h1 : x ≤ 10000) :
    Calls Tryd.prog 37 #[.string a, .int .i64 x] w fun e w' => e = .returned (.string (srcS a x)) ∧ Below w.heap.size w w' := by
  have hI := itoaS_any x w hv (by omega) (by omega)
  have hg := itoaS_size x (by omega) (by omega)
  have hS : srcS a x = a ++ ⟨#[63, 119, 61]⟩ ++ itoaS x ++ ⟨#[32]⟩ ++ itoaS x ++ ⟨#[119]⟩ := rfl
  generalize itoaS x = g at hI hg hS
  have HI := Lib.hid hI
  have HS := Lib.hid hS
  clear hI hS hv
  go_enter Tryd.func37, Tryd.ntmps37
  go_wp2_with fail
  refine HI.out.mono ?_
  rintro e w1 ⟨rfl, hb1⟩
  have HB := Lib.hid hb1
  clear hb1
  go_wp2_with fail
  go_ret
  exact ⟨by rw [HS.out]; rfl, HB.out⟩
def srcO (a : ByteArray) (x : Int) (zs : List Int) : ByteArray := ⟨(Lib.join ((srcL x zs).map fun z => (srcS a z).data.toList) [44, 32]).toArray⟩
/-- What is returned. -/
def srcV (a : ByteArray) (x : Int) (zs : List Int) : Value := if srcE a x zs = 0 then .tuple #[.string (srcO a x zs), .int .i64 0] else .tuple #[.string ⟨#[]⟩, .int .i64 (srcE a x zs)]
theorem trim_size {s : ByteArray} (h : Lib.hasPrefix s.data.toList [47] = true) : (⟨(Lib.trimPrefix s.data.toList [47]).toArray⟩ : ByteArray).size + 1 = s.size := by
  unfold Lib.trimPrefix
  rw [if_pos h]
  show ((s.data.toList.drop 1).toArray).size + 1 = s.data.size
  rw [List.size_toArray, List.length_drop]
  unfold Lib.hasPrefix at h
  have hl : s.data.toList.length = s.data.size := Array.length_toList
  cases hd : s.data.toList with
  | nil => rw [hd] at h; simp [List.isPrefixOf] at h
  | cons c r => rw [hd] at hl; simp only [List.length_cons] at hl ⊢; omega
theorem srcE_zero {a : ByteArray} {x : Int} {zs : List Int} (h : srcE a x zs = 0) : a.size ≤ 201 ∧ (1 ≤ x ∧ x ≤ 10000) ∧ (∀ z, z ∈ zs → 1 ≤ z ∧ z ≤ 10000) ∧ zs.length ≤ 12 ∧ risP zs := by
  unfold srcE at h
  split at h
  · omega
  · next h1 =>
    split at h
    · omega
    · next h2 =>
      split at h
      · omega
      · next h3 =>
        split at h
        · next h4 =>
          rw [Bool.not_eq_true, Bool.or_eq_false_iff] at h3
          rw [Bool.not_eq_false] at h1
          unfold rootB at h1
          rw [Bool.and_eq_true] at h1
          have hp := h1.2
          unfold tpathB at hp
          rw [Bool.and_eq_true] at hp
          have h5 := of_decide_eq_true hp.1
          have h6 := trim_size h1.1
          refine ⟨by omega, noW_inv h3.1, fun z hz => noW_inv ?_, by omega, h4⟩
          cases hn : noW z with
          | false => rfl
          | true => rw [List.any_eq_true.2 ⟨z, hz, hn⟩] at h3; exact absurd h3.2 (by decide)
        · omega
def strV (s : ByteArray) : Value := .string s
theorem lens_le {B : Nat} : ∀ {L : List (List UInt8)}, (∀ y, y ∈ L → y.length ≤ B) → Lib.lens L ≤ L.length * B
  | [], _ => by simp [Lib.lens]
  | y :: r, h => by
    have h1 := lens_le (L := r) fun z hz => h z (List.mem_cons_of_mem _ hz)
    have h2 := h y List.mem_cons_self
    have e : Lib.lens (y :: r) = y.length + Lib.lens r := by simp [Lib.lens]
    rw [e, List.length_cons, Nat.add_mul, Nat.one_mul]
    omega
theorem join_small {L : List (List UInt8)} (h : ∀ y, y ∈ L → y.length ≤ 300) (hl : L.length ≤ 13) : (Lib.join L [44, 32]).length ≤ 140737488355328 := by
  cases L with
  | nil => simp [Lib.join_nil]
  | cons x r =>
    rw [Lib.join_length]
    have h1 := lens_le h
    simp only [List.length_cons, List.length_nil] at hl h1 ⊢
    omega
theorem srow_below {w w' : World} {base : Nat} {e : TypeId} {size : Nat} {v : Value} {n : Nat} {xs : List Value} (h : w.ownsRow base e size v n xs) (hb : Below w.heap.size w w') : w'.ownsRow base e size v n xs := by
  refine h.kept (row := none) ⟨hb.os, hb.tape, hb.output, hb.size, fun q hq _ => hb.block q hq⟩ ?_
  cases hv : v.ownBlock with
  | none => exact .inl rfl
  | some g => exact .inr (by simp)
theorem sslice_of_own {w : World} {base : Nat} {e : TypeId} {size : Nat} {v : Value} {n : Nat} {xs : List Value} (h : w.ownsRow base e size v n xs) : ∃ A c, v = .slice A n c := by
  rcases h.2 with ⟨rfl, rfl⟩ | ⟨g, cap, cur, rfl, _⟩
  · exact ⟨_, _, rfl⟩
  · exact ⟨_, _, rfl⟩
/-- The parts up to a place. -/
def srcM (a : ByteArray) (x : Int) (zs : List Int) (k : Nat) : List ByteArray := ((zs.take k).filter (fun z => decide (z < x))).map (srcS a)
theorem srcM_yes {a : ByteArray} {x : Int} {zs : List Int} {k : Nat} {z : Int} (hz : zs[k]? = some z) (h : z < x) : srcM a x zs (k + 1) = srcM a x zs k ++ [srcS a z] := by
  unfold srcM
  rw [List.take_add_one, hz, List.filter_append, List.map_append]
  simp [h]
theorem srcM_no {a : ByteArray} {x : Int} {zs : List Int} {k : Nat} {z : Int} (hz : zs[k]? = some z) (h : ¬ z < x) : srcM a x zs (k + 1) = srcM a x zs k := by
  unfold srcM
  rw [List.take_add_one, hz, List.filter_append, List.map_append]
  simp [h]
theorem srcM_len (a : ByteArray) (x : Int) (zs : List Int) (k : Nat) : (srcM a x zs k).length ≤ zs.length := by
  unfold srcM
  rw [List.length_map]
  exact Nat.le_trans (List.length_filter_le _ _) (by rw [List.length_take]; omega)
theorem srcM_all {a : ByteArray} {x : Int} {zs : List Int} {k : Nat} (h : k = zs.length) : srcM a x zs k ++ [srcS a x] = (srcL x zs).map (srcS a) := by
  unfold srcM srcL
  rw [h, List.take_length, List.map_append]
  rfl
theorem srcO_of {a : ByteArray} {x : Int} {zs : List Int} {L : List ByteArray} (h : L = (srcL x zs).map (srcS a)) : (⟨(Lib.join (L.map (·.data.toList)) [44, 32]).toArray⟩ : ByteArray) = srcO a x zs := by
  unfold srcO
  rw [h, List.map_map]
  rfl
theorem src_small {a : ByteArray} {x : Int} {zs : List Int} {L : List ByteArray} (h : L = (srcL x zs).map (srcS a)) (hE : srcE a x zs = 0) : (Lib.join (L.map (·.data.toList)) [44, 32]).length ≤ 140737488355328 ∧ L.length ≤ 13 := by
  obtain ⟨ha, hx, hz, hl, _⟩ := srcE_zero hE
  have hlen : L.length ≤ 13 := by
    rw [h, List.length_map]
    unfold srcL
    rw [List.length_append]
    have := List.length_filter_le (fun z => decide (z < x)) zs
    simp only [List.length_cons, List.length_nil]
    omega
  refine ⟨join_small (fun y hy => ?_) (by rw [List.length_map]; exact hlen), hlen⟩
  obtain ⟨s, hs, rfl⟩ := List.mem_map.1 hy
  rw [h] at hs
  obtain ⟨z, hzm, rfl⟩ := List.mem_map.1 hs
  have hb : 1 ≤ z ∧ z ≤ 10000 := by
    unfold srcL at hzm
    rcases List.mem_append.1 hzm with hm | hm
    · exact hz z (List.mem_filter.1 hm).1
    · rw [List.mem_singleton] at hm; subst hm; exact hx
  have := srcS_size ha hb.1 hb.2
  rw [Array.length_toList]
  exact this
set_option maxRecDepth 100000 in
set_option maxHeartbeats 2000000 in
theorem sourceSet_any (a : ByteArray) (x : Int) (A : Option Addr) (n c : Nat) (zs : List Int) (w : World) (hv : Vars w) (hz : zs.length = n) (hn : n ≤ c) (hcm : c ≤ 9223372036854775807) (hR : IntRow w w.heap.size A zs) :
    Calls Tryd.prog 14 #[.string a, .int .i64 x, .slice A n c] w fun e w' => e = .returned (srcV a x zs) ∧ Below w.heap.size w w' := by
  have HC := Lib.hid (checkSources_any a x A n c zs w hv hz hn hcm hR)
  by_cases hE : srcE a x zs = 0
  · obtain ⟨i0, hi, hz0, hz1, hz2⟩ := info_parts strInfo
    obtain ⟨ha, ⟨hx0, hx1⟩, hzz, hl, _⟩ := srcE_zero hE
    have HO := Lib.hid (show srcV a x zs = .tuple #[.string (srcO a x zs), .int .i64 0] by unfold srcV; rw [if_pos hE])
    have HEZ := Lib.hid hE
    rw [hE] at HC
    have HRW := Lib.hid hR
    have HZ := Lib.hid hz
    have HZZ := Lib.hid hzz
    have HS := Lib.hid (fun z wX (hX : Below w.heap.size w wX) (g0 : 1 ≤ z) (g1 : z ≤ 10000) => source_any a z wX (hv.below hX) ha g0 g1)
    have hn12 : n ≤ 12 := by omega
    clear hR hz hzz hv hE
    go_enter Tryd.func14, Tryd.ntmps14
    go_wp2_with fail
    refine HC.out.mono ?_
    rintro e w1 ⟨rfl, hb1⟩
    have HB1 := Lib.hid hb1
    clear hb1
    go_wp2_with fail
    go_loopw [9, 21] (fun v i wr => ∃ (k m : Nat), k ≤ n ∧ i = .int .i64 k ∧ (srcM a x zs k).length = m ∧ wr.ownsRow w.heap.size 9 1 v m ((srcM a x zs k).map strV) ∧ Below w.heap.size w wr) (fun _ i _ => n - (intOf i).toNat)
    case atStart => exact ⟨0, 0, Nat.zero_le _, rfl, rfl, World.ownsRow_nil _ _ _ _, HB1.out⟩
    case round =>
      obtain ⟨k, m, hk, rfl, hm, hown, hbw⟩ := hrel
      have hml : m ≤ 12 := by have := srcM_len a x zs k; rw [hm, HZ.out] at this; omega
      have hw := hbw.size
      have HBW := Lib.hid hbw
      obtain ⟨Av, cv, rfl⟩ := sslice_of_own hown
      have HOW := Lib.hid hown
      have HM := Lib.hid hm
      clear hbw hown hm
      by_cases hlt : k < n
      · obtain ⟨z, hzk⟩ : ∃ z, zs[k]? = some z := ⟨_, List.getElem?_eq_getElem (by rw [HZ.out]; exact hlt)⟩
        obtain ⟨b, off, rfl, hb, hc⟩ := HRW.out.at (k := k) (by rw [HZ.out]; exact hlt)
        have z0 := (HBW.out.cell (p := ⟨b, off + k, none⟩) hb).trans (hc k z hzk)
        obtain ⟨g0, g1⟩ := HZZ.out z (List.mem_of_getElem? hzk)
        have HZK := Lib.hid hzk
        clear hzk hc
        by_cases hzx : z < x
        · have HN := Lib.hid (srcM_yes (a := a) HZK.out hzx)
          have HCALL := Lib.hid (HS.out z wr HBW.out g0 g1)
          obtain ⟨sz, hsz⟩ : ∃ s, srcS a z = s := ⟨_, rfl⟩
          rw [hsz] at HCALL HN
          clear hsz
          go_wp2_with fail
          refine HCALL.out.mono ?_
          rintro e w2 ⟨rfl, hb2⟩
          have hw2 := hb2.size
          have HB2 := Lib.hid (HBW.out.trans (hb2.mono hw))
          have HO2 := Lib.hid (srow_below HOW.out hb2)
          have HNW := Lib.hid (World.news_of_block (heap_alloc_new w2 (.cells #[.string sz] 9)))
          clear hb2
          go_wp2_with (at_builtin; go_loud (refine wpList_append_lies _ rfl _ _ 42 rfl w.heap.size 9 i0 _ 1 16 Tryd.underlying42 hi hz0 hz1 hz2 rfl (by decide) (.slice Av m cv) m ((srcM a x zs k).map strV) rfl (HO2.out.alloc _) ⟨w2.heap.size, 0, none⟩ 1 1 [.string sz] rfl rfl HNW.out (by simp [Value.oneCell']) (by omega) (by unfold maxLen; omega) (by omega) (by simp; omega) (w2.heap.size + 1) (by simp) ?_; intro gg cap2 w7 hown' hgrow hat3 hlt2))
          go_roundw
          case rel =>
            have hbG : Below w.heap.size w w7 := (HB2.out.alloc (by omega) _).grown hgrow (by simp; omega) (fun q hq => (HO2.out.lt q hq).1)
            refine ⟨k + 1, m + 1, by omega, by go_num, by rw [HN.out, List.length_append, HM.out]; rfl, ?_, hbG⟩
            rw [HN.out, List.map_append]
            exact hown'
          case measure => simp [intOf]; omega
        · have HN := Lib.hid (srcM_no (a := a) HZK.out hzx)
          go_wp2_with fail
          go_roundw
          case rel =>
            refine ⟨k + 1, m, by omega, by go_num, by rw [HN.out, HM.out], ?_, HBW.out⟩
            rw [HN.out]
            exact HOW.out
          case measure => simp [intOf]; omega
      · obtain rfl : k = n := by omega
        have HCALL := Lib.hid (HS.out x wr HBW.out hx0 hx1)
        have HALL := Lib.hid (srcM_all (a := a) (x := x) (zs := zs) (k := k) HZ.out.symm)
        obtain ⟨sz, hsz⟩ : ∃ s, srcS a x = s := ⟨_, rfl⟩
        rw [hsz] at HCALL HALL
        clear hsz
        go_wp2_with fail
        refine HCALL.out.mono ?_
        rintro e w2 ⟨rfl, hb2⟩
        have hw2 := hb2.size
        have HB2 := Lib.hid (HBW.out.trans (hb2.mono hw))
        have HO2 := Lib.hid (srow_below HOW.out hb2)
        have HNW := Lib.hid (World.news_of_block (heap_alloc_new w2 (.cells #[.string sz] 9)))
        clear hb2
        go_wp2_with (at_builtin; go_loud (refine wpList_append_lies _ rfl _ _ 42 rfl w.heap.size 9 i0 _ 1 16 Tryd.underlying42 hi hz0 hz1 hz2 rfl (by decide) (.slice Av m cv) m ((srcM a x zs k).map strV) rfl (HO2.out.alloc _) ⟨w2.heap.size, 0, none⟩ 1 1 [.string sz] rfl rfl HNW.out (by simp [Value.oneCell']) (by omega) (by unfold maxLen; omega) (by omega) (by simp; omega) (w2.heap.size + 1) (by simp) ?_; intro gg cap2 w7 hown' hgrow hat3 hlt2))
        have hbG : Below w.heap.size w w7 := (HB2.out.alloc (by omega) _).grown hgrow (by simp; omega) (fun q hq => (HO2.out.lt q hq).1)
        obtain ⟨L, hL⟩ : ∃ L, srcM a x zs k ++ [sz] = L := ⟨_, rfl⟩
        have hLl : L.length = m + 1 := by rw [← hL, List.length_append, HM.out]; rfl
        have hLa : L = (srcL x zs).map (srcS a) := hL.symm.trans HALL.out
        obtain ⟨hj1, hj2⟩ := src_small hLa HEZ.out
        have hown2 : w7.ownsRow w.heap.size 9 1 (.slice (some ⟨gg, 0, none⟩) (m + 1) cap2) (m + 1) (L.map strV) := by rw [← hL, List.map_append]; exact hown'
        have hcap : m + 1 ≤ cap2 := by
          rcases hown2.2 with ⟨hv, _⟩ | ⟨g', cap', cur, hv, _, _, _, hh, _⟩
          · cases hv
          · cases hv; first | exact hh | omega
        have hJ := Tryd.strings_Join gg 0 cap2 L ⟨#[44, 32]⟩ w7 (fun j y hj => by
          rw [Nat.zero_add, hown2.cellAt j (by have := (List.getElem?_eq_some_iff.1 hj).1; omega), List.getElem?_map, hj]; rfl) (hown2.lt gg rfl).2 (by omega) (by omega) hj1
        rw [hLl, srcO_of hLa] at hJ
        have HJ := Lib.hid hJ
        have HG := Lib.hid hbG
        clear hJ hbG hown2 hown' hgrow hat3 hlt2 hL hLl hLa hj1 hj2 hcap
        go_wp2_with fail
        refine HJ.out.mono ?_
        rintro e w8 ⟨rfl, hb8⟩
        have HB8 := Lib.hid (HG.out.trans (hb8.mono HG.out.size))
        clear hb8
        go_wp2_with fail
        go_ret2
        exact ⟨by rw [HO.out]; rfl, HB8.out⟩
  · have HO := Lib.hid (show srcV a x zs = .tuple #[.string ⟨#[]⟩, .int .i64 (srcE a x zs)] by unfold srcV; rw [if_neg hE])
    obtain ⟨er, her⟩ : ∃ er, srcE a x zs = er := ⟨_, rfl⟩
    rw [her] at HO HC hE
    have hne : (er != 0) = true := by simpa using hE
    clear hR hz hv her
    go_enter Tryd.func14, Tryd.ntmps14
    go_wp2_with fail
    refine HC.out.mono ?_
    rintro e w1 ⟨rfl, hb1⟩
    have HB1 := Lib.hid hb1
    clear hb1
    go_wp2_with fail
    go_ret2
    exact ⟨by rw [HO.out]; rfl, HB1.out⟩
end Go.Proofs.YtlifjhglpflplaaDoor
