/- Plain facts of package cut: what is wrong with places and a wish; the grid. -/
import Derived.Test.YtgbdmgmbdjajeaaBoxPlain
namespace Go.Proofs.Ytgbdmgmbdjajeaa
set_option linter.unusedVariables false
set_option linter.unusedSimpArgs false
open Go.RowKit

/-- What is wrong with number i of rising times. -/
def riseE (zs : List Int) (i : Nat) : Int := fstF [fIf (!inB (zs.getD i 0) (-1000000000000000) 1000000000000000) 1, fIf (decide (0 < i) && decide (zs.getD i 0 ≤ zs.getD (i - 1) 0)) 8]
def risesF (zs : List Int) : Int := fstF ((List.range zs.length).map (riseE zs))
/-- What is wrong with rising times. -/
def riseF (zs : List Int) : Int := if zs.length = 0 then 9 else if 1000 < zs.length then 2 else risesF zs
theorem risesF_drop (zs : List Int) (k : Nat) (h : k < zs.length) : fstF (((List.range zs.length).map (riseE zs)).drop k) = if riseE zs k = 0 then fstF (((List.range zs.length).map (riseE zs)).drop (k + 1)) else riseE zs k := by
  rw [fstF_drop _ _ (by simpa using h)]
  have e : ((List.range zs.length).map (riseE zs)).getD k 0 = riseE zs k := by simp [List.getD_eq_getElem?_getD, h]
  rw [e]
/-- Rising times. -/
structure Rises (zs : List Int) : Prop where
  pos : 0 < zs.length
  len : zs.length ≤ 1000
  time : ∀ i, i < zs.length → -1000000000000000 ≤ zs.getD i 0 ∧ zs.getD i 0 ≤ 1000000000000000
  next : ∀ i, 0 < i → i < zs.length → zs.getD (i - 1) 0 < zs.getD i 0
theorem riseE_zero (zs : List Int) (i : Nat) : riseE zs i = 0 ↔ (-1000000000000000 ≤ zs.getD i 0 ∧ zs.getD i 0 ≤ 1000000000000000) ∧ (0 < i → zs.getD (i - 1) 0 < zs.getD i 0) := by
  unfold riseE
  rw [fstF_zero]
  simp only [List.mem_cons, List.not_mem_nil, or_false, forall_eq_or_imp, forall_eq]
  rw [fIf_zero (by decide), fIf_zero (by decide)]
  simp only [Bool.not_eq_false', inB_iff, Bool.and_eq_false_iff, decide_eq_false_iff_not]
  constructor
  · rintro ⟨a, b⟩
    exact ⟨a, fun h => by rcases b with b | b <;> omega⟩
  · rintro ⟨a, b⟩
    refine ⟨a, ?_⟩
    by_cases h : 0 < i
    · exact .inr (by have := b h; omega)
    · exact .inl h
theorem risesF_zero (zs : List Int) : risesF zs = 0 ↔ ∀ i, i < zs.length → riseE zs i = 0 := by
  unfold risesF
  rw [fstF_zero]
  simp [List.mem_map]
theorem riseF_zero (zs : List Int) : riseF zs = 0 ↔ Rises zs := by
  unfold riseF
  constructor
  · intro h
    split at h
    · omega
    · split at h
      · omega
      · rw [risesF_zero] at h
        exact ⟨by omega, by omega, fun i hi => ((riseE_zero zs i).1 (h i hi)).1, fun i h0 hi => ((riseE_zero zs i).1 (h i hi)).2 h0⟩
  · intro g
    have h1 := g.pos
    have h2 := g.len
    rw [if_neg (by omega), if_neg (by omega), risesF_zero]
    exact fun i hi => (riseE_zero zs i).2 ⟨g.time i hi, fun h => g.next i h hi⟩
theorem Rises.lt {zs : List Int} (g : Rises zs) : ∀ i j, i < j → j < zs.length → zs.getD i 0 < zs.getD j 0 := by
  intro i j hij
  induction j with
  | zero => omega
  | succ j ih =>
    intro hj
    have h := g.next (j + 1) (by omega) hj
    rw [Nat.add_sub_cancel] at h
    by_cases e : i = j
    · subst e; exact h
    · have := ih (by omega) (by omega); omega

/-- What is wrong with places and a wish. -/
def placesF (zs : List Int) (sc ta mo : Int) : Int := fstF [fIf (!inB sc 1 1000000000) 1, fIf (!inB ta 1 50000000) 1, fIf (!inB mo ta 50000000) 1, riseF zs]
theorem placesF_zero (zs : List Int) (sc ta mo : Int) : placesF zs sc ta mo = 0 ↔ (1 ≤ sc ∧ sc ≤ 1000000000) ∧ (1 ≤ ta ∧ ta ≤ 50000000) ∧ (ta ≤ mo ∧ mo ≤ 50000000) ∧ Rises zs := by
  unfold placesF
  rw [fstF_zero]
  simp only [List.mem_cons, List.not_mem_nil, or_false, forall_eq_or_imp, forall_eq]
  rw [fIf_zero (by decide), fIf_zero (by decide), fIf_zero (by decide), riseF_zero]
  simp only [Bool.not_eq_false', inB_iff]

/-- The grid out of the first k + 1 places. -/
def gridTo (zs : List Int) (T : Int) : Nat → List Int
  | 0 => [zs.getD 0 0]
  | k + 1 => if zs.getD 0 0 + ((gridTo zs T k).length : Int) * T ≤ zs.getD (k + 1) 0 then gridTo zs T k ++ [zs.getD (k + 1) 0] else gridTo zs T k
/-- What Grid returns. -/
def gridR (zs : List Int) (sc ta mo : Int) : List Int := if placesF zs sc ta mo = 0 then gridTo zs ta (zs.length - 1) else []
theorem gridTo_len (zs : List Int) (T : Int) (k : Nat) : 1 ≤ (gridTo zs T k).length ∧ (gridTo zs T k).length ≤ k + 1 := by
  induction k with
  | zero => simp [gridTo]
  | succ k ih =>
    rw [gridTo]
    split
    · simp; omega
    · omega
theorem getD_snoc_lt (l : List Int) (x : Int) (i : Nat) (h : i < l.length) : (l ++ [x]).getD i 0 = l.getD i 0 := by simp [List.getD_eq_getElem?_getD, List.getElem?_append_left h]
theorem gridTo_zero (zs : List Int) (T : Int) (k : Nat) : (gridTo zs T k).getD 0 0 = zs.getD 0 0 := by
  induction k with
  | zero => simp [gridTo]
  | succ k ih =>
    have := (gridTo_len zs T k).1
    rw [gridTo]
    split
    · rw [getD_snoc_lt _ _ _ (by omega)]; exact ih
    · exact ih
theorem getD_snoc_eq (l : List Int) (x : Int) (i : Nat) (h : i = l.length) : (l ++ [x]).getD i 0 = x := by subst h; simp [List.getD_eq_getElem?_getD]
theorem getD_mem' (l : List Int) (i : Nat) (h : i < l.length) : l.getD i 0 ∈ l := by
  simp [List.getD_eq_getElem?_getD, h]
/-- What is true of a grid: its numbers are places up to number k, rising, none before its multiple. -/
theorem gridTo_ok {zs : List Int} (g : Rises zs) (T : Int) (k : Nat) (hk : k < zs.length) :
    ∀ i, i < (gridTo zs T k).length → (∃ j, j ≤ k ∧ zs.getD j 0 = (gridTo zs T k).getD i 0) ∧ (i : Int) * T ≤ (gridTo zs T k).getD i 0 - zs.getD 0 0 ∧ (0 < i → (gridTo zs T k).getD (i - 1) 0 < (gridTo zs T k).getD i 0) := by
  induction k with
  | zero =>
    intro i hi
    have : i = 0 := by simp [gridTo] at hi; exact hi
    subst this
    refine ⟨⟨0, Nat.le_refl _, by simp [gridTo]⟩, by simp [gridTo], fun h => by omega⟩
  | succ k ih =>
    intro i hi
    have ihk := ih (by omega)
    rw [gridTo] at hi ⊢
    split
    · rename_i hc
      rw [if_pos hc] at hi
      by_cases e : i < (gridTo zs T k).length
      · obtain ⟨⟨j, hj, e1⟩, h2, h3⟩ := ihk i e
        rw [getD_snoc_lt _ _ _ e]
        refine ⟨⟨j, by omega, e1⟩, h2, fun h0 => ?_⟩
        rw [getD_snoc_lt _ _ _ (by omega)]
        exact h3 h0
      · have e2 : i = (gridTo zs T k).length := by simp at hi; omega
        rw [getD_snoc_eq _ _ _ e2]
        refine ⟨⟨k + 1, Nat.le_refl _, rfl⟩, by rw [e2]; omega, fun h0 => ?_⟩
        rw [getD_snoc_lt _ _ _ (by omega)]
        obtain ⟨⟨j, hj, e1⟩, -, -⟩ := ihk (i - 1) (by omega)
        rw [← e1]
        exact g.lt j (k + 1) (by omega) hk
    · rename_i hc
      rw [if_neg hc] at hi
      obtain ⟨⟨j, hj, e1⟩, h2, h3⟩ := ihk i hi
      exact ⟨⟨j, by omega, e1⟩, h2, h3⟩
/-- Numbers that are too near to the last boundary add none. -/
theorem gridTo_skip (zs : List Int) (T : Int) (j m : Nat) (h : j ≤ m) (hs : ∀ i, j < i → i ≤ m → ¬ zs.getD 0 0 + ((gridTo zs T j).length : Int) * T ≤ zs.getD i 0) : gridTo zs T m = gridTo zs T j := by
  induction m with
  | zero => rw [show j = 0 by omega]
  | succ m ih =>
    by_cases e : j = m + 1
    · rw [e]
    · have := ih (by omega) (fun i h1 h2 => hs i h1 (by omega))
      rw [gridTo, this, if_neg (hs (m + 1) (by omega) (Nat.le_refl _))]
theorem gridTo_next (zs : List Int) (T : Int) (j i : Nat) (h : j < i) (hs : ∀ m, j < m → m < i → ¬ zs.getD 0 0 + ((gridTo zs T j).length : Int) * T ≤ zs.getD m 0) (hi : zs.getD 0 0 + ((gridTo zs T j).length : Int) * T ≤ zs.getD i 0) :
    gridTo zs T i = gridTo zs T j ++ [zs.getD i 0] := by
  cases i with
  | zero => omega
  | succ i =>
    have := gridTo_skip zs T j i (by omega) (fun m h1 h2 => hs m h1 (by omega))
    rw [gridTo, this, if_pos hi]

end Go.Proofs.Ytgbdmgmbdjajeaa
