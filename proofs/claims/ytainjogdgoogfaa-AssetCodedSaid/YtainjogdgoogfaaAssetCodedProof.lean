/- DERIVED. THE STATEMENT AssetCodedSaid: for every string AssetCoded returns true, and each argument reads afterwards as it read before. No condition of ours. -/
import Derived.Test.YtainjogdgoogfaaCodedP
import Derived.Test.YtainjogdgoogfaaDigD
import Derived.Test.YtainjogdgoogfaaChecked
import Derived.Test.YtainjogdgoogfaaRows
import Derived.ProofKit
import Derived.OpenShut
import Derived.ShutString
import Derived.ChangeOld
namespace Go.Proofs.Ytainjogdgoogfaa.assetCodedDone
open Go.ChangeShapes Go.WideShapes Go.ChangeAt Go.RowKit
open Go.ChangeMaps (open_string shut_string)
set_option linter.unusedVariables false
theorem own : ownKnob Try.prog.godebug = none := by kernel_rfl
theorem laidOut : laidOutB Try.prog = true := by kernel_rfl
theorem back_eq (s : ByteArray) : (⟨(s.data.toList).toArray⟩ : ByteArray) = s := rfl
set_option maxRecDepth 100000 in
set_option maxHeartbeats 1600000 in
theorem walk (s : ByteArray) (w : World) : Calls Try.prog 3 #[.string s] w fun e w' => e = .returned (.bool true) ∧ Below w.heap.size w w' := by
  have HA := Lib.hid (fun wX => awake_any wX)
  by_cases h : 20000 < s.size
  · have hi : (20000 : Int) < (s.size : Int) := by omega
    have h1 := fun wX => encode_any s wX
    rw [show encV s = .tuple #[.string ⟨#[]⟩, .int .i64 4] by unfold encV; rw [if_pos h]] at h1
    have HE := Lib.hid h1
    clear h1
    go_enter Try.func3, Try.ntmps3
    go_wp2_with fail
    refine (HA.out _).mono ?_
    rintro e w1 ⟨rfl, hb1⟩
    go_wp2_with fail
    refine (HE.out _).mono ?_
    rintro e w2 ⟨rfl, hb2⟩
    have hb12 := hb1.trans (hb2.mono hb1.size)
    clear hb2
    go_wp2_with fail
    go_ret
    exact ⟨by first | rfl | simp, hb12⟩
  · have hsz : s.size ≤ 20000 := by omega
    have hi : ¬ (20000 : Int) < (s.size : Int) := by omega
    have hl : s.data.toList.length = s.size := Array.length_toList
    have h1 := fun wX => encode_any s wX
    rw [show encV s = .tuple #[.string ⟨(encO s.data.toList).toArray⟩, .int .i64 0] by unfold encV; rw [if_neg h]] at h1
    have h2 := fun wX => decode_any ⟨(encO s.data.toList).toArray⟩ wX
    obtain ⟨e1, e2⟩ := dec_enc s.data.toList (by rw [hl]; exact hsz)
    have hd : decV ⟨(encO s.data.toList).toArray⟩ = .tuple #[.string s, .int .i64 0] := by
      rw [decV_ok (s := ⟨(encO s.data.toList).toArray⟩) (by exact e1)]
      show Value.tuple #[.string ⟨(decL (encO s.data.toList)).toArray⟩, .int .i64 0] = _
      rw [e2]
    rw [hd] at h2
    have ht : (⟨(encO s.data.toList).toArray⟩ : ByteArray).size = (4 * s.size + 2) / 3 := by
      show (encO s.data.toList).toArray.size = _
      rw [List.size_toArray, encO_len, hl]
    generalize (⟨(encO s.data.toList).toArray⟩ : ByteArray) = t at h1 h2 ht
    have hti : (t.size : Int) = (4 * (s.size : Int) + 2) / 3 := by omega
    have q1 : (s.toList == s.toList) = true := by simp
    have q2 : ((t.size : Int) == (4 * (s.size : Int) + 2) / 3) = true := by simpa using hti
    have HE := Lib.hid h1
    have HD := Lib.hid h2
    clear h1 h2 e1 e2 hd ht hl h hti
    go_enter Try.func3, Try.ntmps3
    go_wp2_with fail
    refine (HA.out _).mono ?_
    rintro e w1 ⟨rfl, hb1⟩
    go_wp2_with fail
    refine (HE.out _).mono ?_
    rintro e w2 ⟨rfl, hb2⟩
    have hb12 := hb1.trans (hb2.mono hb1.size)
    clear hb2
    go_wp2_with fail
    refine (HD.out _).mono ?_
    rintro e w3 ⟨rfl, hb3⟩
    have hb13 := hb12.trans (hb3.mono hb12.size)
    clear hb3
    go_wp2_with fail
    go_ret
    exact ⟨by first | rfl | simp, hb13⟩
set_option maxRecDepth 100000 in
theorem lifted (os : Os) (started : os.Started) (H : Type) (enc : TypeId × Value → H) :
    ReturnsInHanded {} Try.checked os 3 .any (Rows.assetCodedSpec.pre6 enc Try.prog Try.f3 Rows.assetCodedRow.domain false) (Rows.assetCodedSpec.post enc Try.prog Try.f3 false true false false) := by
  refine returnsInHanded_of_change (C := Try.checked) own started (by kernel_rfl) Try.func3
    (ChangeSpec.witness6 (enc := enc) (C := Try.checked) false ⟨#[], #[.string .empty], []⟩ 8 (by kernel_rfl) (by kernel_rfl) (by kernel_rfl) (by kernel_rfl)) ?_
  intro W base args ds gs before hval0 hW hcnd _
  have hval : ∀ (j : Nat) t v, Try.f3.params[j]? = some t → args[j]? = some v → Value.okWide Try.prog W .any base t v := hval0
  have hW' := hW
  obtain ⟨p, q, hA0, hV, rfl, hfz, hnd⟩ := hW
  have hA : DataW.TrodAll enc Try.prog W 0 (fun _ => true) true Try.f3.params.toList args.toList ds p := hA0
  rw [Try.params3] at hA hval
  obtain ⟨v0, vs0, d0, ds0, p0, q0, hargs, rfl, rfl, h0, r0⟩ := trodAll_cons hA
  obtain ⟨rfl, rfl, rfl⟩ := trodAll_nil r0
  obtain rfl : args = #[v0] := by cases args; simp_all
  obtain ⟨rfl, rfl⟩ := trodVars_none hV
  obtain ⟨s, rfl, rfl, rfl, w0⟩ := open_string Try.underlying9 (hval 0 9 v0 rfl rfl) h0
  clear hA0 hval0
  simp only [List.append_nil] at hW'
  refine (walk s W).mono fun e W' ⟨he, bel⟩ => ?_
  subst he
  exact ⟨_, rfl, _, _, _, [], _, [], hW', trodAll_mk1 (shut_bool Try.underlying4 _), (trodAll_cons_mk (shut_string Try.underlying9 w0) trodAll_mk0), rfl, bel.frame _, fun h => by cases h⟩

theorem over : Rows.assetCodedRow.holds Try.pinned (OpenSpec.ofChange Rows.assetCodedSpec) :=
  OpenClaim.holds_of_wide 3 Try.f3 rfl rfl rfl rfl rfl rfl rfl ⟨rfl, rfl, rfl, rfl, rfl⟩ rfl rfl rfl rfl rfl (by kernel_rfl) Try.func3 (by kernel_rfl)
    (of_decide_eq_true (by kernel_rfl)) (by unfold Func.isWrapper; first | (rw [if_pos (by decide +kernel)]; kernel_rfl) | (rw [if_neg (by decide +kernel)]; exact ⟨rfl, rfl⟩))
    (fun os started H enc _ => lifted os started H enc)

theorem proved : Rows.AssetCodedSaid := over
#print axioms proved
end Go.Proofs.Ytainjogdgoogfaa.assetCodedDone
