/- Plain facts for dividing rows of limbs, digit by digit from the top. No program in it. -/
import Derived.Test.YtppaklifacadpaaGreatDoorTimesPlain
namespace Go.Proofs.YtppaklifacadpaaGreatDoor
set_option linter.unusedVariables false
set_option linter.unusedSimpArgs false

/-- From place k on the quotient's limbs are found, and R is left. -/
structure DivT (xs : List Int) (B : Int) (k : Nat) (zs : List Int) (R : Int) : Prop where
  len : zs.length = xs.length
  digs : Digs zs
  le : k ≤ xs.length
  eq : lval (xs.drop k) = lval (zs.drop k) * B + R
  r0 : 0 ≤ R
  r1 : R < B

theorem lval_replicate_zero (n : Nat) : lval (List.replicate n 0) = 0 := by
  induction n with
  | zero => rfl
  | succ n ih => rw [List.replicate_succ, lval, ih]; rfl
theorem digs_replicate_zero (n : Nat) : Digs (List.replicate n 0) := by
  intro j hj
  rw [List.length_replicate] at hj
  rw [lgetD _ _ (by rw [List.length_replicate]; exact hj), List.getElem_replicate]
  omega

theorem div_start (xs : List Int) (B : Int) (hB : 0 < B) : DivT xs B xs.length (List.replicate xs.length 0) 0 := by
  refine ⟨by simp, digs_replicate_zero _, Nat.le_refl _, ?_, Int.le_refl _, hB⟩
  rw [List.drop_of_length_le (Nat.le_refl _), List.drop_of_length_le (by simp)]
  simp [lval]

theorem drop_set_past (zs : List Int) (k : Nat) (x : Int) : (zs.set k x).drop (k + 1) = zs.drop (k + 1) := by
  rw [List.drop_set, if_pos (by omega)]

theorem div_step {xs zs : List Int} {B R q : Int} {k : Nat} (h : DivT xs B (k + 1) zs R) (q0 : 0 ≤ q) (q1 : q < 10000)
    (h0 : B * q ≤ xs.getD k 0 + 10000 * R) (h1 : xs.getD k 0 + 10000 * R < B * (q + 1)) :
    DivT xs B k (zs.set k q) (xs.getD k 0 + 10000 * R - B * q) := by
  have hk : k < xs.length := by have := h.le; omega
  have hkz : k < zs.length := by rw [h.len]; exact hk
  refine ⟨by rw [List.length_set, h.len], h.digs.set k q hkz q0 q1, by omega, ?_, by omega, ?_⟩
  · rw [lval_drop xs k hk, h.eq, lval_drop (zs.set k q) k (by rw [List.length_set]; exact hkz), drop_set_past, lget_set _ _ _ _ hkz, if_pos rfl, Int.add_mul, Int.mul_comm q B]
    generalize lval (zs.drop (k + 1)) = Z
    rw [Int.mul_add, Int.mul_assoc]
    omega
  · rw [Int.mul_add] at h1; omega

theorem div_room {xs zs : List Int} {B R : Int} {k : Nat} (h : DivT xs B (k + 1) zs R) (hx : Digs xs) :
    0 ≤ xs.getD k 0 + 10000 * R ∧ xs.getD k 0 + 10000 * R < B * 10000 := by
  have hd := hx k (by have := h.le; omega)
  have := h.r0; have := h.r1
  omega

theorem div_end {xs zs : List Int} {B R : Int} (h : DivT xs B 0 zs R) : Canon (trimL zs) ∧ lval (trimL zs) = lval xs / B ∧ R = lval xs % B ∧ (trimL zs).length ≤ xs.length := by
  have he := h.eq
  rw [List.drop_zero, List.drop_zero] at he
  refine ⟨trimL_canon _ h.digs, ?_, ?_, ?_⟩
  · rw [trimL_val, he, Int.add_comm, Int.add_mul_ediv_right _ _ (by have := h.r0; have := h.r1; omega), Int.ediv_eq_zero_of_lt h.r0 h.r1]; simp
  · rw [he, Int.add_comm, Int.add_mul_emod_self_right, Int.emod_eq_of_lt h.r0 h.r1]
  · rw [trimL_len]; have := trimN_le zs zs.length; have := h.len; omega

/-- What is left has no more limbs than what it was divided by. -/
theorem canon_len_lt (a b : List Int) (ha : Canon a) (hb : Canon b) (h : lval a < lval b) : a.length ≤ b.length := by
  apply Decidable.byContradiction; intro hne
  have := canon_short b a hb ha (by omega)
  omega
theorem canon_pos (a : List Int) (ha : Canon a) : 0 < lval a ↔ a ≠ [] := by
  have h0 := canon_zero a ha
  have h1 := (lval_bd a ha.1).1
  constructor
  · intro h hx; rw [h0.2 hx] at h; omega
  · intro h
    have : lval a ≠ 0 := fun hx => h (h0.1 hx)
    omega
theorem digs_cons {x : Int} {r : List Int} (h : Digs r) (h0 : 0 ≤ x) (h1 : x < 10000) : Digs (x :: r) := by
  intro j hj
  cases j with
  | zero => simpa using ⟨h0, h1⟩
  | succ j => simpa using h j (by simpa using hj)
theorem lval_cons (x : Int) (r : List Int) : lval (x :: r) = x + 10000 * lval r := rfl
theorem trimL_le (zs : List Int) : (trimL zs).length ≤ zs.length := by rw [trimL_len]; exact trimN_le _ _

/-- The middle of a search. -/
theorem mid_bd {lo hi : Int} (h : lo < hi) : lo < (lo + hi + 1) / 2 ∧ (lo + hi + 1) / 2 ≤ hi := by omega

theorem cmpI_le {x y : Int} : x ≤ y ↔ ¬ (y < x) := by omega

end Go.Proofs.YtppaklifacadpaaGreatDoor
