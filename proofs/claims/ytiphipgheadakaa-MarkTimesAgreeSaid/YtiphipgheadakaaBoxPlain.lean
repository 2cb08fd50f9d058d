/- Plain facts of package box: the faults of samples. -/
import Derived.WalkKit
import Derived.Handy
import Derived.Lib.Hide
namespace Go.Proofs.Ytiphipgheadakaa
set_option linter.unusedVariables false
set_option linter.unusedSimpArgs false
open Go.RowKit

def inB (n a b : Int) : Bool := decide (a ≤ n) && decide (n ≤ b)
theorem inB_yes {n a b : Int} (h1 : a ≤ n) (h2 : n ≤ b) : inB n a b = true := by simp [inB, h1, h2]
theorem inB_iff {n a b : Int} : inB n a b = true ↔ a ≤ n ∧ n ≤ b := by simp [inB]
def fIf (b : Bool) (f : Int) : Int := if b = true then f else 0
/-- The first of faults that is one. -/
def fstF : List Int → Int
  | [] => 0
  | f :: r => if f = 0 then fstF r else f
theorem fstF_drop (zs : List Int) (k : Nat) (h : k < zs.length) : fstF (zs.drop k) = if zs.getD k 0 = 0 then fstF (zs.drop (k + 1)) else zs.getD k 0 := by
  rw [List.drop_eq_getElem_cons h, fstF]
  simp [List.getD_eq_getElem?_getD, h]
theorem fstF_zero (zs : List Int) : fstF zs = 0 ↔ ∀ z ∈ zs, z = 0 := by
  induction zs with
  | nil => simp [fstF]
  | cons f r ih =>
    rw [fstF]
    split
    · rename_i h; simp [h, ih]
    · rename_i h; simp [h]

/-- A sample. -/
structure Smp where
  t : Int
  s : Int
  h : Int
  z : Int
  k : Bool
deriving DecidableEq
def smp0 : Smp := ⟨0, 0, 0, 0, false⟩
instance : Inhabited Smp := ⟨smp0⟩

/-- The time after the last sample, 0 if there is none. -/
def endV (ss : List Smp) : Int := if ss.length = 0 then 0 else (ss.getD (ss.length - 1) smp0).t + (ss.getD (ss.length - 1) smp0).s
/-- What is wrong with sample number i. -/
def smpF (ss : List Smp) (i : Nat) : Int :=
  fstF [fIf (!inB (ss.getD i smp0).t (-1000000000000000) 1000000000000000) 1, fIf (!inB (ss.getD i smp0).s 0 1000000000) 1, fIf (!inB (ss.getD i smp0).h (-1000000000) 1000000000) 1, fIf (!inB (ss.getD i smp0).z 0 100000) 1,
    fIf (decide (0 < i) && decide ((ss.getD i smp0).t ≠ endV (ss.take i))) 8]
def smpsF (ss : List Smp) : Int := fstF ((List.range ss.length).map (smpF ss))
/-- What is wrong with samples. -/
def chkF (ss : List Smp) : Int := if 5000 < ss.length then 2 else if smpsF ss = 0 then fIf (!inB (endV ss) (-1000000000000000) 1000000000000000) 1 else smpsF ss

def OkS (y : Smp) : Prop := (-1000000000000000 ≤ y.t ∧ y.t ≤ 1000000000000000) ∧ (0 ≤ y.s ∧ y.s ≤ 1000000000) ∧ (-1000000000 ≤ y.h ∧ y.h ≤ 1000000000) ∧ (0 ≤ y.z ∧ y.z ≤ 100000)
theorem fIf_zero {b : Bool} {f : Int} (hf : f ≠ 0) : fIf b f = 0 ↔ b = false := by cases b <;> simp [fIf, hf]
theorem smpF_zero (ss : List Smp) (i : Nat) : smpF ss i = 0 ↔ OkS (ss.getD i smp0) ∧ (0 < i → (ss.getD i smp0).t = endV (ss.take i)) := by
  unfold smpF OkS
  rw [fstF_zero]
  simp only [List.mem_cons, List.not_mem_nil, or_false, forall_eq_or_imp, forall_eq]
  rw [fIf_zero (by decide), fIf_zero (by decide), fIf_zero (by decide), fIf_zero (by decide), fIf_zero (by decide)]
  simp only [Bool.not_eq_false', inB_iff, Bool.and_eq_false_iff, decide_eq_false_iff_not, Decidable.not_not]
  constructor
  · rintro ⟨a, b, c, d, e⟩
    exact ⟨⟨a, b, c, d⟩, fun h => by rcases e with e | e; exact absurd h e; exact e⟩
  · rintro ⟨⟨a, b, c, d⟩, e⟩
    refine ⟨a, b, c, d, ?_⟩
    by_cases h : 0 < i
    · exact .inr (e h)
    · exact .inl h
theorem endV_take (ss : List Smp) (i : Nat) (h0 : 0 < i) (hi : i ≤ ss.length) : endV (ss.take i) = (ss.getD (i - 1) smp0).t + (ss.getD (i - 1) smp0).s := by
  unfold endV
  have hl : (ss.take i).length = i := by rw [List.length_take]; omega
  have e : (ss.take i).getD (i - 1) smp0 = ss.getD (i - 1) smp0 := by
    simp [List.getD_eq_getElem?_getD, List.getElem?_take, show i - 1 < i by omega]
  rw [hl, if_neg (by omega), e]
theorem smpsF_zero (ss : List Smp) : smpsF ss = 0 ↔ ∀ i, i < ss.length → smpF ss i = 0 := by
  unfold smpsF
  rw [fstF_zero]
  simp [List.mem_map]
theorem smpsF_drop (ss : List Smp) (k : Nat) (h : k < ss.length) : fstF (((List.range ss.length).map (smpF ss)).drop k) = if smpF ss k = 0 then fstF (((List.range ss.length).map (smpF ss)).drop (k + 1)) else smpF ss k := by
  rw [fstF_drop _ _ (by simpa using h)]
  have e : ((List.range ss.length).map (smpF ss)).getD k 0 = smpF ss k := by simp [List.getD_eq_getElem?_getD, h]
  rw [e]
/-- Samples that are right. -/
structure Good (ss : List Smp) : Prop where
  len : ss.length ≤ 5000
  ok : ∀ i, i < ss.length → OkS (ss.getD i smp0)
  next : ∀ i, 0 < i → i < ss.length → (ss.getD i smp0).t = (ss.getD (i - 1) smp0).t + (ss.getD (i - 1) smp0).s
  fin : -1000000000000000 ≤ endV ss ∧ endV ss ≤ 1000000000000000
theorem chkF_zero (ss : List Smp) : chkF ss = 0 ↔ Good ss := by
  unfold chkF
  constructor
  · intro h
    split at h
    · omega
    · rename_i h5
      split at h
      · rename_i hs
        rw [smpsF_zero] at hs
        rw [fIf_zero (by decide)] at h
        simp only [Bool.not_eq_false', inB_iff] at h
        refine ⟨by omega, fun i hi => ((smpF_zero ss i).1 (hs i hi)).1, fun i h0 hi => ?_, h⟩
        rw [((smpF_zero ss i).1 (hs i hi)).2 h0, endV_take ss i h0 (by omega)]
      · rename_i hs; exact absurd h hs
  · intro g
    have hs : smpsF ss = 0 := (smpsF_zero ss).2 fun i hi => (smpF_zero ss i).2 ⟨g.ok i hi, fun h0 => by rw [g.next i h0 hi, endV_take ss i h0 (by omega)]⟩
    rw [if_neg (by have := g.len; omega), if_pos hs, fIf_zero (by decide)]
    simp only [Bool.not_eq_false', inB_iff]
    exact g.fin
theorem chkF_large (ss : List Smp) (h : 5000 < ss.length) : chkF ss = 2 := by rw [chkF, if_pos h]
theorem chkF_bad (ss : List Smp) (h : ss.length ≤ 5000) (hs : smpsF ss ≠ 0) : chkF ss = smpsF ss := by rw [chkF, if_neg (by omega), if_neg hs]
theorem chkF_end (ss : List Smp) (h : ss.length ≤ 5000) (hs : smpsF ss = 0) : chkF ss = fIf (!inB (endV ss) (-1000000000000000) 1000000000000000) 1 := by rw [chkF, if_neg (by omega), if_pos hs]
theorem Good.nil : Good [] := ⟨by simp, fun i hi => by simp at hi, fun i _ hi => by simp at hi, by simp [endV]⟩
theorem Good.step {ss : List Smp} (g : Good ss) (i : Nat) (h : i + 1 < ss.length) : (ss.getD (i + 1) smp0).t = (ss.getD i smp0).t + (ss.getD i smp0).s := by
  have := g.next (i + 1) (by omega) h
  rwa [Nat.add_sub_cancel] at this
theorem Good.rise {ss : List Smp} (g : Good ss) : ∀ i j, i ≤ j → j < ss.length → (ss.getD i smp0).t ≤ (ss.getD j smp0).t := by
  intro i j hij
  induction j with
  | zero => intro _; have : i = 0 := by omega
            subst this; exact Int.le_refl _
  | succ j ih =>
    intro hj
    by_cases e : i = j + 1
    · subst e; exact Int.le_refl _
    · have a := ih (by omega) (by omega)
      have b := g.step j hj
      have c := (g.ok j (by omega)).2.1.1
      omega

end Go.Proofs.Ytiphipgheadakaa
