/- Plain facts on the comparison of ratios by their whole parts and what is left, turned over. -/
namespace Go.Proofs.Ytfjgpafcdkodmaa
set_option linter.unusedVariables false
set_option linter.unusedSimpArgs false

theorem less_lt {a b c d : Int} (hb : 0 < b) (hd : 0 < d) (h : a / b < c / d) : a * d < c * b := by
  have e1 := Int.mul_ediv_add_emod a b
  have e2 := Int.mul_ediv_add_emod c d
  have a0 := Int.emod_lt_of_pos a hb
  have c0 := Int.emod_nonneg c (show d ≠ 0 by omega)
  generalize a / b = p at *
  generalize c / d = q at *
  have k1 : a * d < b * (p + 1) * d := Int.mul_lt_mul_of_pos_right (by rw [Int.mul_add]; omega) hd
  have k2 : d * q * b ≤ c * b := Int.mul_le_mul_of_nonneg_right (by omega) (by omega)
  have k3 : b * d * (p + 1) ≤ b * d * q := Int.mul_le_mul_of_nonneg_left (by omega) (Int.le_of_lt (Int.mul_pos hb hd))
  have e3 : b * (p + 1) * d = b * d * (p + 1) := by ac_rfl
  have e4 : d * q * b = b * d * q := by ac_rfl
  omega
theorem less_whole {a b c d : Int} (hb : 0 < b) (hd : 0 < d) (h : a / b ≠ c / d) : decide (a * d < c * b) = decide (a / b < c / d) := by
  rcases Int.lt_trichotomy (a / b) (c / d) with h1 | h1 | h1
  · simp [h1, less_lt hb hd h1]
  · exact absurd h1 h
  · have := less_lt hd hb h1
    rw [decide_eq_false (by omega), decide_eq_false (by omega)]
theorem less_rest {a b c d : Int} (h : a / b = c / d) : a * d < c * b ↔ a % b * d < c % d * b := by
  have e1 := Int.mul_ediv_add_emod a b
  have e2 := Int.mul_ediv_add_emod c d
  rw [h] at e1
  generalize c / d = q at *
  have k1 : a * d = b * q * d + a % b * d := by rw [← Int.add_mul, e1]
  have k2 : c * b = d * q * b + c % d * b := by rw [← Int.add_mul, e2]
  have e3 : b * q * d = d * q * b := by ac_rfl
  omega
theorem less_zero {a b c d : Int} (hb : 0 < b) (hd : 0 < d) (h : a / b = c / d) (h0 : a % b = 0 ∨ c % d = 0) : decide (a * d < c * b) = (a % b == 0 && c % d != 0) := by
  have a0 := Int.emod_nonneg a (show b ≠ 0 by omega)
  have c0 := Int.emod_nonneg c (show d ≠ 0 by omega)
  rw [show decide (a * d < c * b) = decide (a % b * d < c % d * b) from decide_eq_decide.2 (less_rest h)]
  generalize a % b = x at *
  generalize c % d = y at *
  by_cases hx : x = 0
  · subst hx
    by_cases hy : y = 0
    · subst hy; simp
    · have := Int.mul_pos (show 0 < y by omega) hb
      simp [hy, this]
  · have hy : y = 0 := by omega
    subst hy
    have := Int.mul_pos (show 0 < x by omega) hd
    rw [decide_eq_false (by omega)]
    simp [hx]
theorem less_turn {a b c d : Int} (hb : 0 < b) (hd : 0 < d) (h : a / b = c / d) : decide (d * (a % b) < b * (c % d)) = decide (a * d < c * b) := by
  refine decide_eq_decide.2 ?_
  rw [less_rest h, Int.mul_comm d, Int.mul_comm b]

end Go.Proofs.Ytfjgpafcdkodmaa
