/- Plain facts on numbers as rows of limbs of four digits, the least ones first. No program in it. -/
import Derived.Test.YtppaklifacadpaaGreatDoorNum
namespace Go.Proofs.YtppaklifacadpaaGreatDoor
set_option linter.unusedVariables false
set_option linter.unusedSimpArgs false

/-- The value of limbs. -/
def lval : List Int → Int
  | [] => 0
  | d :: r => d + 10000 * lval r

/-- Each limb is one. -/
def Digs (zs : List Int) : Prop := ∀ j, j < zs.length → 0 ≤ zs.getD j 0 ∧ zs.getD j 0 < 10000
/-- No limb too many. -/
def Canon (zs : List Int) : Prop := Digs zs ∧ (0 < zs.length → zs.getD (zs.length - 1) 0 ≠ 0)

theorem lgetD (zs : List Int) (j : Nat) (h : j < zs.length) : zs.getD j 0 = zs[j] := by simp [List.getD_eq_getElem?_getD, h]
theorem lget_past (zs : List Int) (j : Nat) (h : zs.length ≤ j) : zs.getD j 0 = 0 := by simp [List.getD_eq_getElem?_getD, h]
theorem lget_old (ts e : List Int) (j : Nat) (h : j < ts.length) : (ts ++ e).getD j 0 = ts.getD j 0 := by
  rw [List.getD_eq_getElem?_getD, List.getElem?_append_left h, ← List.getD_eq_getElem?_getD]
theorem lget_new (ts : List Int) (x : Int) (j : Nat) (h : j = ts.length) : (ts ++ [x]).getD j 0 = x := by
  subst h
  rw [List.getD_eq_getElem?_getD, List.getElem?_append_right (Nat.le_refl _), Nat.sub_self]
  rfl
theorem lget_take (zs : List Int) (k j : Nat) (h : j < k) : (zs.take k).getD j 0 = zs.getD j 0 := by
  simp [List.getD_eq_getElem?_getD, List.getElem?_take, h]
theorem lget_set (zs : List Int) (k j : Nat) (x : Int) (h : k < zs.length) : (zs.set k x).getD j 0 = if j = k then x else zs.getD j 0 := by
  rw [List.getD_eq_getElem?_getD, List.getElem?_set]
  split
  · rename_i h1; subst h1; simp [h]
  · rename_i h1; rw [if_neg (fun hx => h1 hx.symm), ← List.getD_eq_getElem?_getD]

theorem lpow (n : Nat) : (0 : Int) < 10000 ^ n := Int.pow_pos (by omega)
theorem lpow_succ (n : Nat) : (10000 : Int) ^ (n + 1) = 10000 * 10000 ^ n := by rw [Int.pow_succ, Int.mul_comm]

theorem lval_append (a b : List Int) : lval (a ++ b) = lval a + 10000 ^ a.length * lval b := by
  induction a with
  | nil => simp [lval]
  | cons d r ih =>
    rw [List.cons_append, lval, lval, ih, List.length_cons, lpow_succ, Int.mul_add, Int.mul_assoc]; omega
theorem lval_snoc (a : List Int) (x : Int) : lval (a ++ [x]) = lval a + 10000 ^ a.length * x := by rw [lval_append]; simp [lval]

theorem lval_take_succ (a : List Int) (k : Nat) : lval (a.take (k + 1)) = lval (a.take k) + 10000 ^ k * a.getD k 0 := by
  by_cases h : k < a.length
  · rw [List.take_succ_eq_append_getElem h, lval_snoc, lgetD _ _ h, List.length_take, Nat.min_eq_left (by omega)]
  · rw [List.take_of_length_le (by omega), List.take_of_length_le (by omega), lget_past _ _ (by omega)]; simp
theorem lval_drop (a : List Int) (k : Nat) (h : k < a.length) : lval (a.drop k) = a.getD k 0 + 10000 * lval (a.drop (k + 1)) := by
  rw [List.drop_eq_getElem_cons h, lval, lgetD _ _ h]

theorem lval_set (a : List Int) (k : Nat) (x : Int) (h : k < a.length) : lval (a.set k x) = lval a + 10000 ^ k * (x - a.getD k 0) := by
  induction a generalizing k with
  | nil => simp at h
  | cons d r ih =>
    cases k with
    | zero => simp [lval]; omega
    | succ k =>
      have := ih k (by simpa using h)
      rw [List.set_cons_succ, lval, this, lval, lpow_succ]
      have e : (d :: r).getD (k + 1) 0 = r.getD k 0 := by simp
      rw [e, Int.mul_add, Int.mul_assoc]; omega

theorem Digs.tail {d : Int} {r : List Int} (h : Digs (d :: r)) : 0 ≤ d ∧ d < 10000 ∧ Digs r := by
  have h0 := h 0 (by simp)
  refine ⟨by simpa using h0.1, by simpa using h0.2, fun j hj => ?_⟩
  have := h (j + 1) (by simpa using hj)
  simpa using this
theorem Digs.nil : Digs [] := fun j hj => by simp at hj
theorem Digs.snoc {a : List Int} {x : Int} (h : Digs a) (h0 : 0 ≤ x) (h1 : x < 10000) : Digs (a ++ [x]) := by
  intro j hj
  by_cases hjk : j < a.length
  · rw [lget_old _ _ _ hjk]; exact h j hjk
  · rw [lget_new _ _ _ (by simp at hj; omega)]; exact ⟨h0, h1⟩
theorem Digs.take {a : List Int} (h : Digs a) (k : Nat) : Digs (a.take k) := by
  intro j hj
  rw [List.length_take] at hj
  rw [lget_take _ _ _ (by omega)]; exact h j (by omega)
theorem Digs.set {a : List Int} (h : Digs a) (k : Nat) (x : Int) (hk : k < a.length) (h0 : 0 ≤ x) (h1 : x < 10000) : Digs (a.set k x) := by
  intro j hj
  rw [lget_set _ _ _ _ hk]
  split
  · exact ⟨h0, h1⟩
  · exact h j (by simpa using hj)

theorem lval_bd : ∀ (a : List Int), Digs a → 0 ≤ lval a ∧ lval a < 10000 ^ a.length
  | [], _ => by simp [lval]
  | d :: r, h => by
    obtain ⟨h0, h1, h2⟩ := h.tail
    obtain ⟨i0, i1⟩ := lval_bd r h2
    rw [lval, List.length_cons, lpow_succ]
    omega

theorem Canon.nil : Canon [] := ⟨Digs.nil, fun h => by simp at h⟩
theorem canon_low (a : List Int) (h : Canon a) (h0 : 0 < a.length) : 10000 ^ (a.length - 1) ≤ lval a := by
  obtain ⟨k, hk⟩ : ∃ k, a.length = k + 1 := ⟨a.length - 1, by omega⟩
  have h1 := lval_take_succ a k
  rw [List.take_of_length_le (by omega)] at h1
  have h2 := lval_bd (a.take k) (h.1.take k)
  have h3 := h.2 h0
  have h4 := h.1 k (by omega)
  rw [hk, Nat.add_sub_cancel] at h3 ⊢
  have h5 := Int.mul_le_mul_of_nonneg_left (show 1 ≤ a.getD k 0 by omega) (Int.le_of_lt (lpow k))
  omega
theorem canon_zero (a : List Int) (h : Canon a) : lval a = 0 ↔ a = [] := by
  constructor
  · intro h0
    apply Decidable.byContradiction; intro hne
    have := canon_low a h (List.length_pos_iff.2 hne)
    have := lpow (a.length - 1)
    omega
  · rintro rfl; rfl

theorem lpow_mono {m n : Nat} (h : m ≤ n) : (10000 : Int) ^ m ≤ 10000 ^ n := by
  induction n with
  | zero => rw [show m = 0 by omega]; exact Int.le_refl _
  | succ n ih =>
    by_cases hm : m = n + 1
    · rw [hm]; exact Int.le_refl _
    · have := ih (by omega)
      have := lpow n
      rw [lpow_succ]; omega

/-- The shorter one is less. -/
theorem canon_short (a b : List Int) (ha : Canon a) (hb : Canon b) (h : a.length < b.length) : lval a < lval b := by
  have h1 := (lval_bd a ha.1).2
  have h2 := canon_low b hb (by omega)
  have h3 := lpow_mono (show a.length ≤ b.length - 1 by omega)
  omega

/-- What is alike above, and less at a place, is less. -/
theorem lval_alike (a b : List Int) (ha : Digs a) (hb : Digs b) (hl : a.length = b.length) (k : Nat) (hk : k < a.length) (hu : ∀ j, k < j → j < a.length → a.getD j 0 = b.getD j 0) (h : a.getD k 0 < b.getD k 0) : lval a < lval b := by
  have key : ∀ d, k + 1 + d ≤ a.length → lval (a.take (k + 1 + d)) < lval (b.take (k + 1 + d)) := by
    intro d
    induction d with
    | zero =>
      intro _
      rw [Nat.add_zero, lval_take_succ, lval_take_succ]
      have h1 := lval_bd (a.take k) (ha.take k)
      have h2 := lval_bd (b.take k) (hb.take k)
      rw [List.length_take, Nat.min_eq_left (by omega)] at h1 h2
      have h3 := Int.mul_le_mul_of_nonneg_left (show a.getD k 0 + 1 ≤ b.getD k 0 by omega) (Int.le_of_lt (lpow k))
      rw [Int.mul_add] at h3
      omega
    | succ d ih =>
      intro hd
      have := ih (by omega)
      rw [show k + 1 + (d + 1) = (k + 1 + d) + 1 by omega, lval_take_succ, lval_take_succ, hu (k + 1 + d) (by omega) (by omega)]
      omega
  have := key (a.length - (k + 1)) (by omega)
  rw [show k + 1 + (a.length - (k + 1)) = a.length by omega, List.take_of_length_le (Nat.le_refl _), List.take_of_length_le (by omega)] at this
  exact this

theorem lext (a b : List Int) (hl : a.length = b.length) (h : ∀ j, j < a.length → a.getD j 0 = b.getD j 0) : a = b := by
  apply List.ext_getElem hl
  intro j h1 h2
  have := h j h1
  rwa [lgetD _ _ h1, lgetD _ _ h2] at this

/-- How many limbs stay when those that are 0 at the top go. -/
def trimN (zs : List Int) : Nat → Nat
  | 0 => 0
  | k + 1 => if zs.getD k 0 = 0 then trimN zs k else k + 1
def trimL (zs : List Int) : List Int := zs.take (trimN zs zs.length)
theorem trimN_le (zs : List Int) : ∀ k, trimN zs k ≤ k
  | 0 => Nat.le_refl _
  | k + 1 => by
    rw [trimN]; split
    · have := trimN_le zs k; omega
    · exact Nat.le_refl _
theorem trimN_val (zs : List Int) : ∀ k, lval (zs.take (trimN zs k)) = lval (zs.take k)
  | 0 => rfl
  | k + 1 => by
    rw [trimN]; split
    · rename_i h; rw [trimN_val zs k, lval_take_succ, h]; simp
    · rfl
theorem trimN_top (zs : List Int) : ∀ k, 0 < trimN zs k → zs.getD (trimN zs k - 1) 0 ≠ 0
  | 0, h => by simp [trimN] at h
  | k + 1, h => by
    rw [trimN] at h ⊢
    split at h
    · rename_i h1; rw [if_pos h1]; exact trimN_top zs k h
    · rename_i h1; rw [if_neg h1, Nat.add_sub_cancel]; exact h1
theorem trimL_len (zs : List Int) : (trimL zs).length = trimN zs zs.length := by
  have := trimN_le zs zs.length
  simp [trimL]; omega
theorem trimL_val (zs : List Int) : lval (trimL zs) = lval zs := by
  rw [trimL, trimN_val, List.take_of_length_le (Nat.le_refl _)]
theorem trimL_canon (zs : List Int) (h : Digs zs) : Canon (trimL zs) := by
  refine ⟨h.take _, fun h0 => ?_⟩
  rw [trimL_len] at h0 ⊢
  rw [trimL, lget_take _ _ _ (by omega)]
  exact trimN_top _ _ h0

/-- Two rows without limbs too many that have one value are one. -/
theorem canon_inj (a b : List Int) (ha : Canon a) (hb : Canon b) (h : lval a = lval b) : a = b := by
  have hl : a.length = b.length := by
    apply Decidable.byContradiction; intro hne
    rcases Nat.lt_or_gt_of_ne hne with h1 | h1
    · have := canon_short a b ha hb h1; omega
    · have := canon_short b a hb ha h1; omega
  refine lext a b hl fun j hj => ?_
  apply Decidable.byContradiction; intro hne
  have key : ∀ d, d ≤ a.length → (∀ j, a.length - d ≤ j → j < a.length → a.getD j 0 = b.getD j 0) := by
    intro d
    induction d with
    | zero => intro _ j h1 h2; omega
    | succ d ih =>
      intro hd j h1 h2
      by_cases hj : j = a.length - (d + 1)
      · have hu := ih (by omega)
        apply Decidable.byContradiction; intro hx
        rcases Int.lt_or_gt_of_ne hx with h3 | h3
        · have := lval_alike a b ha.1 hb.1 hl j h2 (fun i h4 h5 => hu i (by omega) h5) h3; omega
        · have := lval_alike b a hb.1 ha.1 hl.symm j (by omega) (fun i h4 h5 => (hu i (by omega) (by omega)).symm) h3; omega
      · exact ih (by omega) j (by omega) h2
  exact hne (key a.length (Nat.le_refl _) j (by omega) hj)

end Go.Proofs.YtppaklifacadpaaGreatDoor
