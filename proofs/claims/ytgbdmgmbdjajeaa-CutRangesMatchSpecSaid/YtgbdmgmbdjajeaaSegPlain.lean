/- Plain facts of segments: what is wrong with their times and ranges; which ones touch a span. -/
import Derived.Test.YtgbdmgmbdjajeaaBoxPlain
namespace Go.Proofs.Ytgbdmgmbdjajeaa
set_option linter.unusedVariables false
set_option linter.unusedSimpArgs false
open Go.RowKit

/-- A segment. -/
structure Seg where
  no : Int
  fr : Int
  te : Int
  bg : Int
  ln : Int
  by_ : Int
  ld : Int
deriving DecidableEq
def seg0 : Seg := ⟨0, 0, 0, 0, 0, 0, 0⟩
instance : Inhabited Seg := ⟨seg0⟩
abbrev isT (n : Int) : Prop := -1000000000000000 ≤ n ∧ n ≤ 1000000000000000
/-- The boundary with which a segment begins, and its end. -/
def bndV (s : Seg) : Int := IntKind.i64.wrap (s.bg + s.ld)
def endS (s : Seg) : Int := IntKind.i64.wrap (bndV s + s.ln)
def timB (s : Seg) : Bool := inB s.bg (-1000000000000000) 1000000000000000 && inB s.ld (-1000000000000000) 1000000000000000 && inB s.ln (-1000000000000000) 1000000000000000
/-- What is wrong with the times of segment number i. -/
def timE (ls : List Seg) (i : Nat) : Int :=
  fstF [fIf (!timB (ls.getD i seg0) || !inB (endS (ls.getD i seg0)) (-1000000000000000) 1000000000000000) 1, fIf (decide (0 < i) && decide (bndV (ls.getD i seg0) < bndV (ls.getD (i - 1) seg0))) 8, fIf (decide ((ls.getD i seg0).ln < 0)) 8]
def timsF (ls : List Seg) : Int := fstF ((List.range ls.length).map (timE ls))
/-- What is wrong with the times of segments. -/
def timF (ls : List Seg) : Int := if 1000 < ls.length then 2 else timsF ls
theorem timsF_drop (ls : List Seg) (k : Nat) (h : k < ls.length) : fstF (((List.range ls.length).map (timE ls)).drop k) = if timE ls k = 0 then fstF (((List.range ls.length).map (timE ls)).drop (k + 1)) else timE ls k := by
  rw [fstF_drop _ _ (by simpa using h)]
  have e : ((List.range ls.length).map (timE ls)).getD k 0 = timE ls k := by simp [List.getD_eq_getElem?_getD, h]
  rw [e]
/-- A segment whose times are right. -/
structure OkT (s : Seg) : Prop where
  bg : isT s.bg
  ld : isT s.ld
  ln : 0 ≤ s.ln ∧ s.ln ≤ 1000000000000000
  en : isT (s.bg + s.ld + s.ln)
theorem OkT.bnd {s : Seg} (h : OkT s) : bndV s = s.bg + s.ld := by
  obtain ⟨⟨a, b⟩, ⟨c, d⟩, -, -⟩ := h
  exact IntWalk.i64_in _ ⟨by omega, by omega⟩
theorem OkT.endS {s : Seg} (h : OkT s) : endS s = s.bg + s.ld + s.ln := by
  have := h.bnd
  obtain ⟨⟨a, b⟩, ⟨c, d⟩, ⟨e, f⟩, -⟩ := h
  unfold Proofs.Ytgbdmgmbdjajeaa.endS
  rw [this]
  exact IntWalk.i64_in _ ⟨by omega, by omega⟩
theorem timE_ok (ls : List Seg) (i : Nat) (h : timE ls i = 0) : OkT (ls.getD i seg0) := by
  unfold timE at h
  rw [fstF_zero] at h
  simp only [List.mem_cons, List.not_mem_nil, or_false, forall_eq_or_imp, forall_eq] at h
  rw [fIf_zero (by decide), fIf_zero (by decide), fIf_zero (by decide)] at h
  obtain ⟨h1, -, h3⟩ := h
  simp only [Bool.or_eq_false_iff, Bool.not_eq_false', timB, Bool.and_eq_true, inB_iff, decide_eq_false_iff_not] at h1 h3
  obtain ⟨⟨⟨⟨a, b⟩, ⟨c, d⟩⟩, ⟨e, f⟩⟩, g1, g2⟩ := h1
  have hb : bndV (ls.getD i seg0) = (ls.getD i seg0).bg + (ls.getD i seg0).ld := IntWalk.i64_in _ ⟨by omega, by omega⟩
  have he : Proofs.Ytgbdmgmbdjajeaa.endS (ls.getD i seg0) = (ls.getD i seg0).bg + (ls.getD i seg0).ld + (ls.getD i seg0).ln := by
    unfold Proofs.Ytgbdmgmbdjajeaa.endS
    rw [hb]
    exact IntWalk.i64_in _ ⟨by omega, by omega⟩
  rw [he] at g1 g2
  exact ⟨⟨a, b⟩, ⟨c, d⟩, ⟨by omega, f⟩, ⟨g1, g2⟩⟩
theorem timE_zero (ls : List Seg) (i : Nat) : timE ls i = 0 ↔ OkT (ls.getD i seg0) ∧ (0 < i → bndV (ls.getD (i - 1) seg0) ≤ bndV (ls.getD i seg0)) := by
  constructor
  · intro h
    refine ⟨timE_ok ls i h, fun h0 => ?_⟩
    unfold timE at h
    rw [fstF_zero] at h
    simp only [List.mem_cons, List.not_mem_nil, or_false, forall_eq_or_imp, forall_eq] at h
    rw [fIf_zero (by decide), fIf_zero (by decide), fIf_zero (by decide)] at h
    have := h.2.1
    simp only [Bool.and_eq_false_iff, decide_eq_false_iff_not] at this
    rcases this with h | h <;> omega
  · rintro ⟨h, h2⟩
    have he := h.endS
    unfold timE
    rw [fstF_zero]
    simp only [List.mem_cons, List.not_mem_nil, or_false, forall_eq_or_imp, forall_eq]
    rw [fIf_zero (by decide), fIf_zero (by decide), fIf_zero (by decide), he]
    obtain ⟨a, b, c, d⟩ := h
    simp only [Bool.or_eq_false_iff, Bool.not_eq_false', timB, Bool.and_eq_true, inB_iff, decide_eq_false_iff_not, Bool.and_eq_false_iff]
    refine ⟨⟨⟨⟨a, b⟩, by omega⟩, d⟩, ?_, by omega⟩
    by_cases h0 : 0 < i
    · exact .inr (by have := h2 h0; omega)
    · exact .inl h0
theorem timsF_zero (ls : List Seg) : timsF ls = 0 ↔ ∀ i, i < ls.length → timE ls i = 0 := by
  unfold timsF
  rw [fstF_zero]
  simp [List.mem_map]
/-- Segments whose times are right. -/
structure Timed (ls : List Seg) : Prop where
  len : ls.length ≤ 1000
  ok : ∀ i, i < ls.length → OkT (ls.getD i seg0)
  next : ∀ i, 0 < i → i < ls.length → bndV (ls.getD (i - 1) seg0) ≤ bndV (ls.getD i seg0)
theorem timF_zero (ls : List Seg) : timF ls = 0 ↔ Timed ls := by
  unfold timF
  constructor
  · intro h
    split at h
    · omega
    · rw [timsF_zero] at h
      exact ⟨by omega, fun i hi => ((timE_zero ls i).1 (h i hi)).1, fun i h0 hi => ((timE_zero ls i).1 (h i hi)).2 h0⟩
  · intro g
    have h2 := g.len
    rw [if_neg (by omega), timsF_zero]
    exact fun i hi => (timE_zero ls i).2 ⟨g.ok i hi, fun h => g.next i h hi⟩

/-- Segment s has a tick in common with the span from f up to t. -/
def meets (s : Seg) (f t : Int) : Prop := max (bndV s) f < min (endS s) t
instance (s : Seg) (f t : Int) : Decidable (meets s f t) := inferInstanceAs (Decidable (_ < _))
/-- The first and the last one of the first k segments that meet a span, and whether there is one. -/
def tchTo (ls : List Seg) (f t : Int) : Nat → Nat × Nat × Bool
  | 0 => (0, 0, false)
  | k + 1 => if meets (ls.getD k seg0) f t then (if (tchTo ls f t k).2.2 = true then (tchTo ls f t k).1 else k, k, true) else tchTo ls f t k
theorem tchTo_none (ls : List Seg) (f t : Int) (k : Nat) (h : (tchTo ls f t k).2.2 = false) : ∀ i, i < k → ¬ meets (ls.getD i seg0) f t := by
  induction k with
  | zero => intro i hi; omega
  | succ k ih =>
    rw [tchTo] at h
    split at h
    · simp at h
    · rename_i hm
      intro i hi
      by_cases e : i = k
      · subst e; exact hm
      · exact ih h i (by omega)
theorem tchTo_some (ls : List Seg) (f t : Int) (k : Nat) (h : (tchTo ls f t k).2.2 = true) :
    (tchTo ls f t k).1 < k ∧ (tchTo ls f t k).2.1 < k ∧ meets (ls.getD (tchTo ls f t k).1 seg0) f t ∧ meets (ls.getD (tchTo ls f t k).2.1 seg0) f t ∧ ∀ i, i < k → meets (ls.getD i seg0) f t → (tchTo ls f t k).1 ≤ i ∧ i ≤ (tchTo ls f t k).2.1 := by
  induction k with
  | zero => simp [tchTo] at h
  | succ k ih =>
    rw [tchTo] at h ⊢
    split
    · rename_i hm
      by_cases hf : (tchTo ls f t k).2.2 = true
      · obtain ⟨a, b, c, d, e⟩ := ih hf
        simp only [hf, if_true]
        refine ⟨by omega, by omega, c, hm, fun i hi hmi => ?_⟩
        by_cases e2 : i = k
        · subst e2; exact ⟨by omega, Nat.le_refl _⟩
        · have := e i (by omega) hmi; exact ⟨this.1, by omega⟩
      · simp only [hf, if_false]
        refine ⟨by simp, by omega, by simpa using hm, hm, fun i hi hmi => ?_⟩
        have hn := tchTo_none ls f t k (by simpa using hf)
        by_cases e2 : i = k
        · subst e2; simp
        · exact absurd hmi (hn i (by omega))
    · rename_i hm
      rw [if_neg hm] at h
      obtain ⟨a, b, c, d, e⟩ := ih h
      refine ⟨by omega, by omega, c, d, fun i hi hmi => ?_⟩
      by_cases e2 : i = k
      · subst e2; exact absurd hmi hm
      · exact e i (by omega) hmi

/-- Where segments lie, from s on. -/
def rngL (s : Int) : List Seg → List (Int × Int)
  | [] => []
  | x :: r => (s, s + x.by_) :: rngL (s + x.by_) r
/-- What is wrong with the bytes of segments, from s on. -/
def rngE (s : Int) : List Seg → Int
  | [] => 0
  | x :: r => if inB x.by_ 0 (1000000000000000 - s) = true then rngE (s + x.by_) r else 1
def rngF (ls : List Seg) (s : Int) : Int := if inB s 0 1000000000000000 = true then (if 1000 < ls.length then 2 else rngE s ls) else 1
def rngR (ls : List Seg) (s : Int) : List (Int × Int) := if rngF ls s = 0 then rngL s ls else []
/-- Where segment k lies. -/
def rngS (s : Int) (ls : List Seg) : Nat → Int
  | 0 => s
  | k + 1 => rngS s ls k + (ls.getD k seg0).by_
theorem rngS_cons (s : Int) (x : Seg) (r : List Seg) (k : Nat) : rngS s (x :: r) (k + 1) = rngS (s + x.by_) r k := by
  induction k with
  | zero => simp [rngS]
  | succ k ih =>
    rw [rngS, ih, rngS]
    simp
theorem rngE_drop (s : Int) (ls : List Seg) (k : Nat) (h : k < ls.length) :
    rngE (rngS s ls k) (ls.drop k) = if inB (ls.getD k seg0).by_ 0 (1000000000000000 - rngS s ls k) = true then rngE (rngS s ls (k + 1)) (ls.drop (k + 1)) else 1 := by
  rw [List.drop_eq_getElem_cons h, rngE, rngS]
  simp [List.getD_eq_getElem?_getD, h]
theorem rngL_drop (s : Int) (ls : List Seg) (k : Nat) (h : k < ls.length) :
    rngL (rngS s ls k) (ls.drop k) = (rngS s ls k, rngS s ls k + (ls.getD k seg0).by_) :: rngL (rngS s ls (k + 1)) (ls.drop (k + 1)) := by
  rw [List.drop_eq_getElem_cons h, rngL, rngS]
  simp [List.getD_eq_getElem?_getD, h]
/-- The ranges of the first k segments. -/
def rngTo (s : Int) (ls : List Seg) (k : Nat) : List (Int × Int) := (List.range k).map fun i => (rngS s ls i, rngS s ls (i + 1))
theorem rngL_eq (s : Int) (ls : List Seg) : rngL s ls = rngTo s ls ls.length := by
  have h : ∀ k, k ≤ ls.length → rngL s ls = rngTo s ls k ++ rngL (rngS s ls k) (ls.drop k) := by
    intro k
    induction k with
    | zero => intro _; simp [rngTo, rngS]
    | succ k ih =>
      intro hk
      rw [ih (by omega), rngL_drop s ls k (by omega)]
      have : rngTo s ls (k + 1) = rngTo s ls k ++ [(rngS s ls k, rngS s ls k + (ls.getD k seg0).by_)] := by
        simp [rngTo, List.range_succ, rngS]
      rw [this]
      simp
  have := h ls.length (Nat.le_refl _)
  rw [this, List.drop_length]
  simp [rngL]
theorem rngTo_len (s : Int) (ls : List Seg) (k : Nat) : (rngTo s ls k).length = k := by simp [rngTo]
theorem rngTo_at (s : Int) (ls : List Seg) (k i : Nat) (h : i < k) : (rngTo s ls k).getD i (0, 0) = (rngS s ls i, rngS s ls (i + 1)) := by
  simp [rngTo, List.getD_eq_getElem?_getD, h]
/-- If nothing is wrong, each place is one from 0 to 10^15, none before the one before it. -/
theorem rngE_ok (s : Int) (ls : List Seg) (h0 : 0 ≤ s) (h1 : s ≤ 1000000000000000) (h : rngE s ls = 0) : ∀ k, k ≤ ls.length → rngE (rngS s ls k) (ls.drop k) = 0 ∧ 0 ≤ rngS s ls k ∧ rngS s ls k ≤ 1000000000000000 ∧ ∀ i, i ≤ k → rngS s ls i ≤ rngS s ls k := by
  intro k
  induction k with
  | zero => intro _; exact ⟨by simpa [rngS] using h, h0, h1, fun i hi => by rw [show i = 0 by omega]; exact Int.le_refl _⟩
  | succ k ih =>
    intro hk
    obtain ⟨a, b, c, d⟩ := ih (by omega)
    rw [rngE_drop s ls k (by omega)] at a
    split at a
    · rename_i hi
      rw [inB_iff] at hi
      refine ⟨a, by rw [rngS]; omega, by rw [rngS]; omega, fun i hik => ?_⟩
      by_cases e : i = k + 1
      · subst e; exact Int.le_refl _
      · have := d i (by omega)
        rw [rngS]; omega
    · omega

end Go.Proofs.Ytgbdmgmbdjajeaa
