/- Plain facts of timelines: their faults. -/
import Derived.Test.YtiphipgheadakaaRungPlain
namespace Go.Proofs.Ytiphipgheadakaa
set_option linter.unusedVariables false
set_option linter.unusedSimpArgs false
open Go.RowKit

/-- A part of a timeline. -/
structure Prt where
  ad : ByteArray
  fr : Int
  ln : Int
def prt0 : Prt := ⟨⟨#[]⟩, 0, 0⟩
instance : Inhabited Prt := ⟨prt0⟩
def isAd (p : Prt) : Bool := decide (0 < p.ad.size)
/-- Where the programme is behind the first k parts. -/
def enTo (ps : List Prt) : Nat → Int
  | 0 => 0
  | k + 1 => if isAd (ps.getD k prt0) = true then enTo ps k else (ps.getD k prt0).fr + (ps.getD k prt0).ln
/-- The ticks of the first k parts. -/
def alTo (ps : List Prt) : Nat → Int
  | 0 => 0
  | k + 1 => alTo ps k + (ps.getD k prt0).ln
/-- What is wrong with a part, the programme being at en. -/
def ptE (en : Int) (p : Prt) : Int :=
  fstF [fIf (isAd p && !nameB p.ad) 5, fIf (!inB p.ln 1 1000000000000000 || (!inB p.fr 0 1000000000000000 || decide (1000000000000000 - p.ln < p.fr))) 1, fIf (isAd p && (p.fr != 0)) 3, fIf (!isAd p && decide (p.fr < en)) 8]
def ptsE (ps : List Prt) (i : Nat) : Int := ptE (enTo ps i) (ps.getD i prt0)
def ptsF (ps : List Prt) : Int := fstF ((List.range ps.length).map (ptsE ps))
/-- What is wrong with a timeline. -/
def ptF (ps : List Prt) : Int := if 1000 < ps.length then 2 else if ptsF ps = 0 then fIf (decide (1000000000000000 < alTo ps ps.length)) 1 else ptsF ps
theorem ptsF_drop (ps : List Prt) (k : Nat) (h : k < ps.length) : fstF (((List.range ps.length).map (ptsE ps)).drop k) = if ptsE ps k = 0 then fstF (((List.range ps.length).map (ptsE ps)).drop (k + 1)) else ptsE ps k := by
  rw [fstF_drop _ _ (by simpa using h)]
  have e : ((List.range ps.length).map (ptsE ps)).getD k 0 = ptsE ps k := by simp [List.getD_eq_getElem?_getD, h]
  rw [e]
theorem ptsF_zero (ps : List Prt) : ptsF ps = 0 ↔ ∀ i, i < ps.length → ptsE ps i = 0 := by
  unfold ptsF
  rw [fstF_zero]
  simp [List.mem_map]
/-- A part that is right alone. -/
structure OkP (p : Prt) : Prop where
  nm : isAd p = true → nameB p.ad = true
  ln : 1 ≤ p.ln ∧ p.ln ≤ 1000000000000000
  fr : 0 ≤ p.fr ∧ p.fr ≤ 1000000000000000
  sm : p.fr + p.ln ≤ 1000000000000000
  zr : isAd p = true → p.fr = 0
theorem ptE_zero {en : Int} {p : Prt} : ptE en p = 0 ↔ OkP p ∧ (isAd p = false → en ≤ p.fr) := by
  unfold ptE
  rw [fstF_zero]
  simp only [List.mem_cons, List.not_mem_nil, or_false, forall_eq_or_imp, forall_eq]
  rw [fIf_zero (by decide), fIf_zero (by decide), fIf_zero (by decide), fIf_zero (by decide)]
  simp only [Bool.or_eq_false_iff, Bool.not_eq_false', inB_iff, decide_eq_false_iff_not, Bool.and_eq_false_iff, bne_eq_false_iff_eq]
  constructor
  · rintro ⟨a, ⟨b, c, d⟩, e, f⟩
    refine ⟨⟨fun h => ?_, b, c, by omega, fun h => ?_⟩, fun h => ?_⟩
    · rcases a with a | a
      · rw [h] at a; cases a
      · exact a
    · rcases e with e | e
      · rw [h] at e; cases e
      · exact e
    · rcases f with f | f
      · rw [h] at f; cases f
      · omega
  · rintro ⟨⟨a, b, c, d, e⟩, f⟩
    refine ⟨?_, ⟨b, c, by omega⟩, ?_, ?_⟩
    all_goals
      cases hA : isAd p
      · first
          | exact .inl rfl
          | exact .inr (by have := f hA; omega)
      · first
          | exact .inl rfl
          | exact .inr (a hA)
          | exact .inr (e hA)
/-- A timeline that is right. -/
structure OkPs (ps : List Prt) : Prop where
  len : ps.length ≤ 1000
  ok : ∀ i, i < ps.length → OkP (ps.getD i prt0)
  ord : ∀ i, i < ps.length → isAd (ps.getD i prt0) = false → enTo ps i ≤ (ps.getD i prt0).fr
  sum : alTo ps ps.length ≤ 1000000000000000
theorem ptF_zero (ps : List Prt) : ptF ps = 0 ↔ OkPs ps := by
  unfold ptF
  constructor
  · intro h
    split at h
    · omega
    · split at h
      · rename_i h1 h2
        rw [ptsF_zero] at h2
        rw [fIf_zero (by decide), decide_eq_false_iff_not] at h
        exact ⟨by omega, fun i hi => (ptE_zero.1 (h2 i hi)).1, fun i hi => (ptE_zero.1 (h2 i hi)).2, by omega⟩
      · contradiction
  · intro g
    have h2 : ptsF ps = 0 := (ptsF_zero ps).2 fun i hi => ptE_zero.2 ⟨g.ok i hi, g.ord i hi⟩
    have := g.len
    have := g.sum
    rw [if_neg (by omega), if_pos h2, fIf_zero (by decide), decide_eq_false_iff_not]
    omega
theorem ptF_large (ps : List Prt) (h : 1000 < ps.length) : ptF ps = 2 := by rw [ptF, if_pos h]
theorem ptF_few (ps : List Prt) (h : ps.length ≤ 1000) : ptF ps = if ptsF ps = 0 then fIf (decide (1000000000000000 < alTo ps ps.length)) 1 else ptsF ps := by rw [ptF, if_neg (by omega)]
/-- What is behind the first k parts, if none of them is wrong. -/
theorem to_bd {ps : List Prt} {k : Nat} (h : ∀ i, i < k → ptsE ps i = 0) : (0 ≤ enTo ps k ∧ enTo ps k ≤ 1000000000000000) ∧ (k : Int) ≤ alTo ps k ∧ alTo ps k ≤ 1000000000000000 * (k : Int) := by
  induction k with
  | zero => simp [enTo, alTo]
  | succ k ih =>
    obtain ⟨h1, h2⟩ := ih (fun i hi => h i (by omega))
    have g := (ptE_zero.1 (h k (by omega))).1
    obtain ⟨-, g1, g2, g3, -⟩ := g
    rw [enTo, alTo]
    refine ⟨?_, by omega⟩
    split <;> omega
theorem OkPs.bd {ps : List Prt} (g : OkPs ps) (k : Nat) (hk : k ≤ ps.length) : (0 ≤ enTo ps k ∧ enTo ps k ≤ 1000000000000000) ∧ (k : Int) ≤ alTo ps k ∧ alTo ps k ≤ 1000000000000000 := by
  have h := to_bd (ps := ps) (k := k) fun i hi => ptE_zero.2 ⟨g.ok i (by omega), g.ord i (by omega)⟩
  refine ⟨h.1, h.2.1, ?_⟩
  have hm : ∀ n, n ≤ ps.length → ∀ k, k ≤ n → alTo ps k ≤ alTo ps n := by
    intro n
    induction n with
    | zero => intro _ k hk; have : k = 0 := by omega
              subst this; exact Int.le_refl _
    | succ n ih =>
      intro hn k hk
      by_cases e : k = n + 1
      · subst e; exact Int.le_refl _
      · have := ih (by omega) k (by omega)
        have := (g.ok n (by omega)).ln
        rw [alTo]; omega
  have := hm ps.length (Nat.le_refl _) k hk
  have := g.sum
  omega

end Go.Proofs.Ytiphipgheadakaa
