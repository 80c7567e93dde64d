/- DERIVED. What mark.sameFields returns for every two nodes. No condition. -/
import Derived.Test.YtmaahkonjpcgiabRows
import Derived.WalkKit
import Derived.WalkSpells
import Derived.WalkLawsBesides
import Derived.Lib.Hide
namespace Go.Proofs.Ytmaahkonjpcgiab.Fld
open Go.RowKit
theorem ret_bool {a b : Bool} (h : a = b) : Ending.returned (.bool b) = .returned (.bool a) := by rw [h]
def fieldsB (k l : Int) (t d i : ByteArray) (k' l' : Int) (t' d' i' : ByteArray) : Bool := k == k' && l == l' && t.toList == t'.toList && d.toList == d'.toList && i.toList == i'.toList

set_option maxRecDepth 100000 in
set_option maxHeartbeats 800000 in
theorem sameFields_any (k l : Int) (t d i : ByteArray) (A : Option Addr) (n c : Nat) (k' l' : Int) (t' d' i' : ByteArray) (A' : Option Addr) (n' c' : Nat) (w : World) :
    Calls Try.prog 29 #[.agg #[.int .i64 k, .int .i64 l, .string t, .string d, .string i, .slice A n c], .agg #[.int .i64 k', .int .i64 l', .string t', .string d', .string i', .slice A' n' c']] w
      fun e w' => e = .returned (.bool (fieldsB k l t d i k' l' t' d' i')) ∧ Below w.heap.size w w' := by
  have hbl : ∀ o1 o2 : Obj, Below w.heap.size w ((w.alloc o1).alloc o2) := fun o1 o2 => ((Below.refl _ _).alloc (Nat.le_refl _) o1).alloc (by simp) o2
  have HBL := Lib.hid hbl; clear hbl
  by_cases f0 : k = k'
  · subst f0
    by_cases f1 : l = l'
    · subst f1
      by_cases f2 : (t.toList == t'.toList) = false
      · go_enter Try.func29, Try.ntmps29
        go_wp2_with fail
        go_ret
        exact ⟨ret_bool (by simp [fieldsB, f2]), HBL.out _ _⟩
      · have h2 : (t.toList == t'.toList) = true := by simpa using f2
        clear f2
        by_cases f3 : (d.toList == d'.toList) = false
        · go_enter Try.func29, Try.ntmps29
          go_wp2_with fail
          go_ret
          exact ⟨ret_bool (by simp [fieldsB, f3]), HBL.out _ _⟩
        · have h3 : (d.toList == d'.toList) = true := by simpa using f3
          clear f3
          by_cases f4 : (i.toList == i'.toList) = false
          · go_enter Try.func29, Try.ntmps29
            go_wp2_with fail
            go_ret
            exact ⟨ret_bool (by simp [fieldsB, f4]), HBL.out _ _⟩
          · have h4 : (i.toList == i'.toList) = true := by simpa using f4
            clear f4
            go_enter Try.func29, Try.ntmps29
            go_wp2_with fail
            go_ret
            exact ⟨ret_bool (by simp [fieldsB, h2, h3, h4]), HBL.out _ _⟩
    · go_enter Try.func29, Try.ntmps29
      go_wp2_with fail
      go_ret
      exact ⟨ret_bool (by simp [fieldsB, f1]), HBL.out _ _⟩
  · go_enter Try.func29, Try.ntmps29
    go_wp2_with fail
    go_ret
    exact ⟨ret_bool (by simp [fieldsB, f0]), HBL.out _ _⟩

end Go.Proofs.Ytmaahkonjpcgiab.Fld
