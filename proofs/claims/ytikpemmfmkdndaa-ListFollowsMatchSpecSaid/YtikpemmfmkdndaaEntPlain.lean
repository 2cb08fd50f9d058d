/- Plain facts of playlists: entries, their faults; what is right. -/
import Derived.Test.YtikpemmfmkdndaaRungPlain
import Derived.Lib.Strings
namespace Go.Proofs.Ytikpemmfmkdndaa
set_option linter.unusedVariables false
set_option linter.unusedSimpArgs false
open Go.RowKit

/-- An entry of a playlist. -/
structure Ent where
  uri : ByteArray
  mi : Int
  br : Bool
  da : Int
  key : ByteArray
  gap : Bool
  ex : List ByteArray
def ent0 : Ent := ⟨⟨#[]⟩, 0, false, 0, ⟨#[]⟩, false, []⟩
instance : Inhabited Ent := ⟨ent0⟩
def byteAt (s : ByteArray) (i : Nat) : Nat := (s.data.toList.getD i 0).toNat
/-- All bytes are from lo to 126. -/
def printB (lo : Nat) (s : ByteArray) : Bool := (List.range s.size).all (fun i => decide (lo ≤ byteAt s i) && decide (byteAt s i ≤ 126))
def wordB (s : ByteArray) : Bool := printB 33 s && decide (0 < s.size)
def uriB (s : ByteArray) : Bool := wordB s && (decide (s.size ≤ 200) && byteAt s 0 != 35)
def furB (s : ByteArray) : Bool := Lib.hasPrefix s.data.toList [35, 88]
/-- What is wrong with a further line. -/
def exE (s : ByteArray) : Int := fstF [fIf (!furB s || !printB 32 s) 3, fIf (decide (300 < s.size)) 2]
def exsF (xs : List ByteArray) : Int := fstF (xs.map exE)
def secs (mi : Int) : Int := (mi + 500) / 1000
def entH (e : Ent) (t : Int) : Int :=
  fstF [fIf (!uriB e.uri) 3, fIf (!inB e.mi 1 3600000) 1, fIf (decide (t < secs e.mi)) 2, fIf (!inB e.da (-1) 253402300799999) 1, fIf (decide (0 < e.key.size) && !nameB e.key) 5, fIf (decide (20 < e.ex.length)) 2]
/-- What is wrong with an entry of at most t seconds. -/
def entE (e : Ent) (t : Int) : Int := if entH e t = 0 then exsF e.ex else entH e t
/-- A playlist. -/
structure Lst where
  tg : Int
  fi : Int
  bk : Int
  es : List Ent
  en : Bool
def stB (l : Lst) : Bool := inB l.fi 0 999999999999000 && inB l.bk 0 1000000000000000
def lstH (l : Lst) : Int := fstF [fIf (!inB l.tg 1 3600) 1, fIf (!stB l) 1, fIf (decide (1000 < l.es.length)) 2]
def entsF (t : Int) (es : List Ent) : Int := fstF (es.map (fun e => entE e t))
/-- What is wrong with a playlist. -/
def lstF (l : Lst) : Int := if lstH l = 0 then entsF l.tg l.es else lstH l
/-- An entry that is right. -/
structure OkE (e : Ent) (t : Int) : Prop where
  uri : uriB e.uri = true
  mi : 1 ≤ e.mi ∧ e.mi ≤ 3600000
  sec : secs e.mi ≤ t
  da : -1 ≤ e.da ∧ e.da ≤ 253402300799999
  key : 0 < e.key.size → nameB e.key = true
  exl : e.ex.length ≤ 20
  ex : ∀ s ∈ e.ex, exE s = 0
theorem entH_zero (e : Ent) (t : Int) : entH e t = 0 ↔ uriB e.uri = true ∧ (1 ≤ e.mi ∧ e.mi ≤ 3600000) ∧ secs e.mi ≤ t ∧ (-1 ≤ e.da ∧ e.da ≤ 253402300799999) ∧ (0 < e.key.size → nameB e.key = true) ∧ e.ex.length ≤ 20 := by
  unfold entH
  rw [fstF_zero]
  simp only [List.mem_cons, List.not_mem_nil, or_false, forall_eq_or_imp, forall_eq]
  rw [fIf_zero (by decide), fIf_zero (by decide), fIf_zero (by decide), fIf_zero (by decide), fIf_zero (by decide), fIf_zero (by decide)]
  simp only [Bool.not_eq_false', inB_iff, decide_eq_false_iff_not, Bool.and_eq_false_iff]
  constructor
  · rintro ⟨a, b, c, d, e, f⟩
    refine ⟨a, b, by omega, d, fun h => ?_, by omega⟩
    rcases e with e | e
    · exact absurd h e
    · exact e
  · rintro ⟨a, b, c, d, e, f⟩
    refine ⟨a, b, by omega, d, ?_, by omega⟩
    rename_i x
    by_cases h : 0 < x.key.size
    · exact .inr (e h)
    · exact .inl h
theorem exsF_zero (xs : List ByteArray) : exsF xs = 0 ↔ ∀ s ∈ xs, exE s = 0 := by
  unfold exsF
  rw [fstF_zero]
  simp [List.mem_map]
theorem entE_zero (e : Ent) (t : Int) : entE e t = 0 ↔ OkE e t := by
  unfold entE
  constructor
  · intro h
    by_cases h0 : entH e t = 0
    · rw [if_pos h0, exsF_zero] at h
      obtain ⟨a, b, c, d, k, f⟩ := (entH_zero e t).1 h0
      exact ⟨a, b, c, d, k, f, h⟩
    · rw [if_neg h0] at h; exact absurd h h0
  · intro g
    have h0 : entH e t = 0 := (entH_zero e t).2 ⟨g.uri, g.mi, g.sec, g.da, g.key, g.exl⟩
    rw [if_pos h0, exsF_zero]
    exact g.ex
theorem entsF_zero (t : Int) (es : List Ent) : entsF t es = 0 ↔ ∀ e ∈ es, OkE e t := by
  unfold entsF
  rw [fstF_zero]
  simp only [List.mem_map, forall_exists_index, and_imp, forall_apply_eq_imp_iff₂]
  constructor
  · intro h e he; exact (entE_zero e t).1 (h e he)
  · intro h e he; exact (entE_zero e t).2 (h e he)
theorem entsF_drop (t : Int) (es : List Ent) (k : Nat) (h : k < es.length) : entsF t (es.drop k) = if entE (es.getD k ent0) t = 0 then entsF t (es.drop (k + 1)) else entE (es.getD k ent0) t := by
  unfold entsF
  rw [List.map_drop, List.map_drop, fstF_drop _ _ (by simpa using h)]
  have e : (es.map (fun e => entE e t)).getD k 0 = entE (es.getD k ent0) t := by simp [List.getD_eq_getElem?_getD, h]
  rw [e]
def str0 : ByteArray := ⟨#[]⟩
theorem exsF_drop (xs : List ByteArray) (k : Nat) (h : k < xs.length) : exsF (xs.drop k) = if exE (xs.getD k str0) = 0 then exsF (xs.drop (k + 1)) else exE (xs.getD k str0) := by
  unfold exsF
  rw [List.map_drop, List.map_drop, fstF_drop _ _ (by simpa using h)]
  have e : (xs.map exE).getD k 0 = exE (xs.getD k str0) := by simp [List.getD_eq_getElem?_getD, h]
  rw [e]
/-- A playlist that is right. -/
structure OkL (l : Lst) : Prop where
  tg : 1 ≤ l.tg ∧ l.tg ≤ 3600
  fi : 0 ≤ l.fi ∧ l.fi ≤ 999999999999000
  bk : 0 ≤ l.bk ∧ l.bk ≤ 1000000000000000
  len : l.es.length ≤ 1000
  ok : ∀ e ∈ l.es, OkE e l.tg
theorem lstH_zero (l : Lst) : lstH l = 0 ↔ (1 ≤ l.tg ∧ l.tg ≤ 3600) ∧ ((0 ≤ l.fi ∧ l.fi ≤ 999999999999000) ∧ (0 ≤ l.bk ∧ l.bk ≤ 1000000000000000)) ∧ l.es.length ≤ 1000 := by
  unfold lstH stB
  rw [fstF_zero]
  simp only [List.mem_cons, List.not_mem_nil, or_false, forall_eq_or_imp, forall_eq]
  rw [fIf_zero (by decide), fIf_zero (by decide), fIf_zero (by decide)]
  simp only [Bool.not_eq_false', inB_iff, decide_eq_false_iff_not, Bool.and_eq_true, Nat.not_lt]
theorem lstF_zero (l : Lst) : lstF l = 0 ↔ OkL l := by
  unfold lstF
  constructor
  · intro h
    by_cases h0 : lstH l = 0
    · rw [if_pos h0, entsF_zero] at h
      obtain ⟨a, ⟨b, c⟩, d⟩ := (lstH_zero l).1 h0
      exact ⟨a, b, c, d, h⟩
    · rw [if_neg h0] at h; exact absurd h h0
  · intro g
    have h0 : lstH l = 0 := (lstH_zero l).2 ⟨g.tg, ⟨g.fi, g.bk⟩, g.len⟩
    rw [if_pos h0, entsF_zero]
    exact g.ok
theorem OkL.at {l : Lst} (g : OkL l) (i : Nat) (h : i < l.es.length) : OkE (l.es.getD i ent0) l.tg := by
  have e : l.es.getD i ent0 = l.es[i] := by rw [List.getD_eq_getElem?_getD, List.getElem?_eq_getElem h]; rfl
  rw [e]
  exact g.ok _ (List.getElem_mem h)

end Go.Proofs.Ytikpemmfmkdndaa
