/- DERIVED. The part of HTML that belongs to an entry of a table of contents: plain facts. No condition. -/
import Derived.Lib.IndexMore
import Derived.Lib.IndexLaws
import Derived.Lib.ItoaLen
import Derived.Lib.Strings
namespace Go.Proofs.YtfmmpfoecjehiaaDoor
/-- An entry: its level, its id, its text. -/
abbrev Ent := Int × ByteArray × ByteArray
def itoaT (x : Int) : ByteArray := ⟨(Lib.itoa x).toArray⟩
def tagB (lv : Int) (id : ByteArray) : ByteArray := (((ByteArray.mk #[60, 104] ++ itoaT lv) ++ ByteArray.mk #[32, 105, 100, 61, 34]) ++ id) ++ ByteArray.mk #[34, 62]
def etag (e : Ent) : ByteArray := tagB e.1 e.2.1
def idx (s t : ByteArray) : Int := Lib.index s.data.toList t.data.toList
theorem itoaT_size (x : Int) (h0 : -9223372036854775808 ≤ x) (h1 : x ≤ 9223372036854775807) : (itoaT x).size ≤ 21 := by
  have := Lib.itoa_length_le x h0 h1
  show (Lib.itoa x).toArray.size ≤ 21
  simpa using this
theorem tagB_size (lv : Int) (id : ByteArray) : (tagB lv id).size = (itoaT lv).size + id.size + 9 := by
  unfold tagB
  rw [ByteArray.size_append, ByteArray.size_append, ByteArray.size_append, ByteArray.size_append]
  have h2 : (ByteArray.mk #[60, 104]).size = 2 := rfl
  have h3 : (ByteArray.mk #[32, 105, 100, 61, 34]).size = 5 := rfl
  have h4 : (ByteArray.mk #[34, 62]).size = 2 := rfl
  omega
theorem etag_pos (e : Ent) : 0 < (etag e).size := by
  unfold etag
  rw [tagB_size]
  omega
theorem idx_room (s t : ByteArray) (h : 0 ≤ idx s t) : idx s t + t.size ≤ s.size := by
  have := Lib.index_room s.data.toList t.data.toList h
  simpa [idx] using this
theorem idx_ge (s t : ByteArray) : -1 ≤ idx s t := Lib.index_ge _ _
theorem idx_le (s t : ByteArray) : idx s t ≤ s.size := by
  by_cases h : 0 ≤ idx s t
  · have := idx_room s t h; omega
  · omega
/-- The place of a string, and what is from there on. -/
def restO (html tag : ByteArray) : Option ByteArray := if idx html tag < 0 then none else some (html.extract (idx html tag).toNat html.size)
/-- What is before the place of the next one, looked for behind the first one. -/
def cutO (h tag to : ByteArray) : Option ByteArray :=
  if idx (h.extract tag.size h.size) to < 0 then none else some (h.extract 0 (tag.size + (idx (h.extract tag.size h.size) to).toNat))
def endO (h : ByteArray) (tag : ByteArray) : Option Ent → Option ByteArray
  | none => some h
  | some n => cutO h tag (etag n)
def nextE (lv : Int) (l : List Ent) : Option Ent := l.find? fun n => decide (n.1 ≤ lv)
def cutSect (html : ByteArray) (e : Ent) (r : List Ent) : Option ByteArray := (restO html (etag e)).bind fun h => endO h (etag e) (nextE e.1 r)
def sectO (html id : ByteArray) : List Ent → Option ByteArray
  | [] => none
  | e :: r => if (e.2.1.toList == id.toList) = true then cutSect html e r else sectO html id r
/-- What is returned: the part, and whether there is one. -/
def outO : Option ByteArray → Value
  | none => .tuple #[.string ⟨#[]⟩, .bool false]
  | some s => .tuple #[.string s, .bool true]
theorem sectO_drop {html id : ByteArray} {l : List Ent} {k : Nat} {e : Ent} (h : l[k]? = some e) : sectO html id (l.drop k) = if (e.2.1.toList == id.toList) = true then cutSect html e (l.drop (k + 1)) else sectO html id (l.drop (k + 1)) := by
  obtain ⟨hk, rfl⟩ := List.getElem?_eq_some_iff.1 h
  rw [List.drop_eq_getElem_cons hk]
  rfl
theorem nextE_drop {lv : Int} {l : List Ent} {k : Nat} {e : Ent} (h : l[k]? = some e) : nextE lv (l.drop k) = if e.1 ≤ lv then some e else nextE lv (l.drop (k + 1)) := by
  obtain ⟨hk, rfl⟩ := List.getElem?_eq_some_iff.1 h
  rw [List.drop_eq_getElem_cons hk]
  unfold nextE
  rw [List.find?_cons]
  by_cases h : (l[k]).1 ≤ lv
  · rw [decide_eq_true h, if_pos h]
  · rw [decide_eq_false h, if_neg h]
/-- The statement's own reckoning: the first tag, the second one, the level. -/
structure Sst where
  fr : ByteArray
  to : ByteArray
  lv : Int
def stepT (id : ByteArray) (st : Sst) (e : Ent) : Sst :=
  if st.fr.size = 0 ∧ (e.2.1.toList == id.toList) = true then ⟨etag e, st.to, e.1⟩ else if st.fr.size ≠ 0 ∧ st.to.size = 0 ∧ e.1 ≤ st.lv then ⟨st.fr, etag e, st.lv⟩ else st
def st0 : Sst := ⟨⟨#[]⟩, ⟨#[]⟩, 0⟩
def lawEnd (h : ByteArray) (st : Sst) : Option ByteArray := if st.to.size = 0 then some h else cutO h st.fr st.to
def lawO (html : ByteArray) (st : Sst) : Option ByteArray := if st.fr.size = 0 then none else (restO html st.fr).bind fun h => lawEnd h st
theorem fold_done (id : ByteArray) (fr to : ByteArray) (lv : Int) (h1 : fr.size ≠ 0) (h2 : to.size ≠ 0) : ∀ l : List Ent, l.foldl (stepT id) ⟨fr, to, lv⟩ = ⟨fr, to, lv⟩
  | [] => rfl
  | e :: r => by
    have : stepT id ⟨fr, to, lv⟩ e = ⟨fr, to, lv⟩ := by
      unfold stepT
      rw [if_neg (by rintro ⟨h, _⟩; exact h1 h), if_neg (by rintro ⟨_, h, _⟩; exact h2 h)]
    rw [List.foldl_cons, this]
    exact fold_done id fr to lv h1 h2 r
theorem fold_to (id : ByteArray) (fr : ByteArray) (lv : Int) (h1 : fr.size ≠ 0) : ∀ l : List Ent, l.foldl (stepT id) ⟨fr, ⟨#[]⟩, lv⟩ = ⟨fr, (nextE lv l).elim ⟨#[]⟩ etag, lv⟩
  | [] => rfl
  | e :: r => by
    by_cases h : e.1 ≤ lv
    · have h3 : stepT id ⟨fr, ⟨#[]⟩, lv⟩ e = ⟨fr, etag e, lv⟩ := by
        unfold stepT
        rw [if_neg (by rintro ⟨h, _⟩; exact h1 h), if_pos ⟨h1, rfl, h⟩]
      have h4 : nextE lv (e :: r) = some e := by unfold nextE; rw [List.find?_cons, decide_eq_true h]
      have := etag_pos e
      rw [List.foldl_cons, h3, h4, fold_done id fr _ lv h1 (by omega) r]
      rfl
    · have h3 : stepT id ⟨fr, ⟨#[]⟩, lv⟩ e = ⟨fr, ⟨#[]⟩, lv⟩ := by
        unfold stepT
        rw [if_neg (by rintro ⟨h, _⟩; exact h1 h), if_neg (by rintro ⟨_, _, h'⟩; exact h h')]
      have h4 : nextE lv (e :: r) = nextE lv r := by unfold nextE; rw [List.find?_cons, decide_eq_false h]
      rw [List.foldl_cons, h3, h4]
      exact fold_to id fr lv h1 r
theorem lawEnd_next (h : ByteArray) (tg : ByteArray) (lv : Int) (o : Option Ent) : lawEnd h ⟨tg, o.elim ⟨#[]⟩ etag, lv⟩ = endO h tg o := by
  cases o with
  | none => rfl
  | some n =>
    have := etag_pos n
    show (if (etag n).size = 0 then _ else _) = _
    rw [if_neg (by omega)]
    rfl
theorem law_eq (html id : ByteArray) : ∀ l : List Ent, lawO html (l.foldl (stepT id) st0) = sectO html id l
  | [] => rfl
  | e :: r => by
    by_cases h : (e.2.1.toList == id.toList) = true
    · have h3 : stepT id st0 e = ⟨etag e, ⟨#[]⟩, e.1⟩ := by
        unfold stepT
        rw [if_pos ⟨rfl, h⟩]
        rfl
      have hp := etag_pos e
      rw [List.foldl_cons, h3, fold_to id _ _ (by omega)]
      have h4 : sectO html id (e :: r) = cutSect html e r := by unfold sectO; rw [if_pos h]
      rw [h4]
      unfold lawO cutSect
      rw [if_neg (by show ¬ (etag e).size = 0; omega)]
      show (restO html (etag e)).bind _ = (restO html (etag e)).bind _
      congr 1
      funext g
      exact lawEnd_next g _ _ _
    · have h3 : stepT id st0 e = st0 := by
        unfold stepT
        rw [if_neg (by rintro ⟨_, h'⟩; exact h h'), if_neg (by rintro ⟨h', _⟩; exact h' rfl)]
      have h4 : sectO html id (e :: r) = sectO html id r := by
        show (if _ then _ else _) = _
        rw [if_neg h]
      rw [List.foldl_cons, h3, h4]
      exact law_eq html id r
theorem fold_snoc {id : ByteArray} {l : List Ent} {k : Nat} {e : Ent} (h : l[k]? = some e) : (l.take (k + 1)).foldl (stepT id) st0 = stepT id ((l.take k).foldl (stepT id) st0) e := by
  obtain ⟨hk, rfl⟩ := List.getElem?_eq_some_iff.1 h
  rw [List.take_succ_eq_append_getElem hk, List.foldl_append]
  rfl
end Go.Proofs.YtfmmpfoecjehiaaDoor
