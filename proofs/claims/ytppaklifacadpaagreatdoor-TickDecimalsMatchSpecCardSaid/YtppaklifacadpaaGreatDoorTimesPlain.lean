/- Plain facts on the product of limbs. No program in it. -/
import Derived.Test.YtppaklifacadpaaGreatDoorLval
namespace Go.Proofs.YtppaklifacadpaaGreatDoor
set_option linter.unusedVariables false
set_option linter.unusedSimpArgs false

theorem digit_prod (o x y C : Int) (o0 : 0 ≤ o) (o1 : o < 10000) (x0 : 0 ≤ x) (x1 : x < 10000) (y0 : 0 ≤ y) (y1 : y < 10000) (c0 : 0 ≤ C) (c1 : C < 10000) :
    0 ≤ x * y ∧ x * y ≤ 99980001 ∧ 0 ≤ (o + x * y + C) / 10000 ∧ (o + x * y + C) / 10000 < 10000 ∧ 0 ≤ (o + x * y + C) % 10000 ∧ (o + x * y + C) % 10000 < 10000 := by
  have h1 : 0 ≤ x * y := Int.mul_nonneg x0 y0
  have h2 : x * y ≤ 9999 * 9999 := Int.mul_le_mul (by omega) (by omega) y0 (by omega)
  refine ⟨h1, by omega, by omega, by omega, by omega, by omega⟩

/-- What a round of the inner loop keeps. -/
structure InnerT (xs bs : List Int) (i k : Nat) (C : Int) (out : List Int) : Prop where
  len : out.length = xs.length + bs.length
  digs : Digs out
  c0 : 0 ≤ C
  c1 : C < 10000
  high : ∀ j, i + bs.length ≤ j → out.getD j 0 = 0
  val : lval out + 10000 ^ (i + k) * C = lval (xs.take i) * lval bs + 10000 ^ i * (xs.getD i 0 * lval (bs.take k))

/-- What a round of the outer loop keeps. -/
structure OuterT (xs bs : List Int) (i : Nat) (out : List Int) : Prop where
  len : out.length = xs.length + bs.length
  digs : Digs out
  high : ∀ j, i + bs.length ≤ j → out.getD j 0 = 0
  val : lval out = lval (xs.take i) * lval bs

theorem lval_zeros : ∀ n, lval (List.replicate n 0) = 0
  | 0 => rfl
  | n + 1 => by rw [List.replicate_succ, lval, lval_zeros n]; rfl

theorem outer_start (xs bs : List Int) : OuterT xs bs 0 (List.replicate (xs.length + bs.length) 0) := by
  have hz : ∀ j, (List.replicate (xs.length + bs.length) (0 : Int)).getD j 0 = 0 := by
    intro j
    by_cases h : j < xs.length + bs.length
    · rw [lgetD _ _ (by simpa using h)]; simp
    · exact lget_past _ _ (by simp; omega)
  refine ⟨by simp, fun j hj => by rw [hz j]; omega, fun j _ => hz j, ?_⟩
  rw [lval_zeros]; simp [lval]

theorem inner_start {xs bs : List Int} {i : Nat} {out : List Int} (h : OuterT xs bs i out) : InnerT xs bs i 0 0 out :=
  ⟨h.len, h.digs, by omega, by omega, h.high, by rw [h.val]; simp [lval]⟩

theorem inner_step {xs bs : List Int} {i k : Nat} {C : Int} {out : List Int} (h : InnerT xs bs i k C out) (dx : Digs xs) (db : Digs bs) (hi : i < xs.length) (hk : k < bs.length) :
    InnerT xs bs i (k + 1) ((out.getD (i + k) 0 + xs.getD i 0 * bs.getD k 0 + C) / 10000) (out.set (i + k) ((out.getD (i + k) 0 + xs.getD i 0 * bs.getD k 0 + C) % 10000)) := by
  have hl : i + k < out.length := by have := h.len; omega
  have ho := h.digs (i + k) hl
  have hx := dx i hi
  have hy := db k hk
  have hp := digit_prod _ _ _ C ho.1 ho.2 hx.1 hx.2 hy.1 hy.2 h.c0 h.c1
  refine ⟨by rw [List.length_set]; exact h.len, h.digs.set _ _ hl hp.2.2.2.2.1 hp.2.2.2.2.2, hp.2.2.1, hp.2.2.2.1, fun j hj => ?_, ?_⟩
  · rw [lget_set _ _ _ _ hl, if_neg (by omega)]; exact h.high j hj
  · have hv := h.val
    rw [lval_set _ _ _ hl, lval_take_succ]
    have e := Int.emod_add_mul_ediv (out.getD (i + k) 0 + xs.getD i 0 * bs.getD k 0 + C) 10000
    generalize (out.getD (i + k) 0 + xs.getD i 0 * bs.getD k 0 + C) % 10000 = r at e
    generalize (out.getD (i + k) 0 + xs.getD i 0 * bs.getD k 0 + C) / 10000 = q at e
    generalize out.getD (i + k) 0 = o at e
    generalize xs.getD i 0 = x at e hv
    generalize bs.getD k 0 = y at e
    have e2 : (10000 : Int) ^ (i + k) * (r + 10000 * q) = 10000 ^ (i + k) * (o + x * y + C) := by rw [e]
    rw [Int.mul_add, Int.mul_add, Int.mul_add] at e2
    have e3 : (10000 : Int) ^ (i + (k + 1)) * q = 10000 ^ (i + k) * (10000 * q) := by
      rw [show i + (k + 1) = (i + k) + 1 by omega, lpow_succ, ← Int.mul_assoc, Int.mul_comm 10000 (10000 ^ (i + k))]
    have e4 : (10000 : Int) ^ i * (x * (lval (bs.take k) + 10000 ^ k * y)) = 10000 ^ i * (x * lval (bs.take k)) + 10000 ^ (i + k) * (x * y) := by
      rw [Int.mul_add, Int.mul_add, Int.pow_add, Int.mul_assoc]
      congr 2
      rw [← Int.mul_assoc, Int.mul_comm x (10000 ^ k), Int.mul_assoc]
    rw [e3, e4, Int.mul_sub]
    omega

theorem inner_end {xs bs : List Int} {i : Nat} {C : Int} {out : List Int} (h : InnerT xs bs i bs.length C out) (hi : i < xs.length) :
    OuterT xs bs (i + 1) (out.set (i + bs.length) (out.getD (i + bs.length) 0 + C)) ∧ out.getD (i + bs.length) 0 = 0 := by
  have hl : i + bs.length < out.length := by have := h.len; omega
  have h0 := h.high (i + bs.length) (Nat.le_refl _)
  refine ⟨⟨by rw [List.length_set]; exact h.len, h.digs.set _ _ hl (by rw [h0]; have := h.c0; omega) (by rw [h0]; have := h.c1; omega), fun j hj => ?_, ?_⟩, h0⟩
  · rw [lget_set _ _ _ _ hl, if_neg (by omega)]; exact h.high j (by omega)
  · have hv := h.val
    rw [List.take_of_length_le (Nat.le_refl _)] at hv
    rw [lval_set _ _ _ hl, h0, lval_take_succ, Int.add_mul, show (0 : Int) + C - 0 = C by omega, hv, Int.mul_assoc]

theorem outer_end {xs bs : List Int} {out : List Int} (h : OuterT xs bs xs.length out) : Canon (trimL out) ∧ lval (trimL out) = lval xs * lval bs ∧ (trimL out).length ≤ xs.length + bs.length := by
  refine ⟨trimL_canon _ h.digs, ?_, ?_⟩
  · rw [trimL_val, h.val, List.take_of_length_le (Nat.le_refl _)]
  · rw [trimL_len, ← h.len]; exact trimN_le _ _

end Go.Proofs.YtppaklifacadpaaGreatDoor
