/- Plain facts on the long division of a number of two digits, used for math/bits.Div64. B is 2^32. -/
import Derived.Laws.MathBits
import Derived.Laws.BitsAllLaws
namespace Go.Proofs.Ytikpemmfmkdndaa.DivMath
set_option linter.unusedVariables false
set_option linter.unusedSimpArgs false

theorem digit_lt {u y d : Int} (h0 : 0 ≤ u) (hu : u < y) (hd : d < 4294967296) : (u * 4294967296 + d) / y < 4294967296 := by
  rw [Int.ediv_lt_iff_lt_mul (by omega)]
  have h1 : (u + 1) * 4294967296 ≤ y * 4294967296 := Int.mul_le_mul_of_nonneg_right hu (by omega)
  rw [Int.mul_comm 4294967296 y]
  omega

theorem digit_nonneg {u y d : Int} (h0 : 0 ≤ u) (hu : u < y) (hd : 0 ≤ d) : 0 ≤ (u * 4294967296 + d) / y :=
  Int.ediv_nonneg (by omega) (by omega)

theorem prod_split (q y1 y0 : Int) : q * (y1 * 4294967296 + y0) = q * y1 * 4294967296 + q * y0 := by
  rw [Int.mul_add, Int.mul_assoc]

theorem too_great {u y y1 y0 d q r : Int} (hy : y = y1 * 4294967296 + y0) (hpos : 0 < y) (hq : q * y1 + r = u) (h : 4294967296 * r + d < q * y0) : (u * 4294967296 + d) / y < q := by
  rw [Int.ediv_lt_iff_lt_mul hpos, hy, prod_split]
  omega

theorem not_too_great {u y y1 y0 d q r : Int} (hy : y = y1 * 4294967296 + y0) (hpos : 0 < y) (hq : q * y1 + r = u) (h : q * y0 ≤ 4294967296 * r + d) : q ≤ (u * 4294967296 + d) / y := by
  rw [Int.le_ediv_iff_mul_le hpos, hy, prod_split]
  omega

theorem first_ge {u y y1 y0 d : Int} (hy : y = y1 * 4294967296 + y0) (h1 : 0 < y1) (h0 : 0 ≤ y0) (hu : 0 ≤ u) (hd : d < 4294967296) : (u * 4294967296 + d) / y ≤ u / y1 := by
  have hpos : 0 < y := by rw [hy]; omega
  have h3 : u < (u / y1 + 1) * y1 := by
    have := Int.lt_ediv_add_one_mul_self u h1
    exact this
  have hq : 0 ≤ u / y1 := Int.ediv_nonneg hu (by omega)
  rw [← Int.lt_add_one_iff, Int.ediv_lt_iff_lt_mul hpos, hy, prod_split]
  have h4 : 0 ≤ (u / y1 + 1) * y0 := Int.mul_nonneg (by omega) h0
  omega

theorem first_le {u y y1 y0 : Int} (hy : y = y1 * 4294967296 + y0) (h0 : y0 < 4294967296) (h1 : 2147483648 ≤ y1) (hu : u < y) : u / y1 ≤ 4294967297 := by
  rw [← Int.lt_add_one_iff, Int.ediv_lt_iff_lt_mul (by omega)]
  omega

theorem break_le {u y y1 y0 d q r : Int} (hy : y = y1 * 4294967296 + y0) (hpos : 0 < y) (hq : q * y1 + r = u) (h0 : 0 ≤ y0) (h1 : y0 < 4294967296) (hq0 : 0 ≤ q) (hq1 : q ≤ 4294967296) (hr : 4294967296 ≤ r) (hd : 0 ≤ d) : q ≤ (u * 4294967296 + d) / y := by
  refine not_too_great hy hpos hq ?_
  have h2 : q * y0 ≤ 4294967296 * y0 := Int.mul_le_mul_of_nonneg_right hq1 h0
  omega

theorem rem_eq (u y d : Int) : u * 4294967296 + d - (u * 4294967296 + d) / y * y = (u * 4294967296 + d) % y := by
  have := Int.emod_def (u * 4294967296 + d) y
  rw [this, Int.mul_comm y]

/-- What is computed round 2^64 is the rest. -/
theorem rem_wrap (u y d : Int) (hy : 0 < y) (hy2 : y < 18446744073709551616) :
    ((u * 4294967296 % 18446744073709551616 + d) % 18446744073709551616 - (u * 4294967296 + d) / y * y % 18446744073709551616) % 18446744073709551616 = (u * 4294967296 + d) % y := by
  have h1 := rem_eq u y d
  have h2 := Int.emod_nonneg (u * 4294967296 + d) (show y ≠ 0 by omega)
  have h3 := Int.emod_lt_of_pos (u * 4294967296 + d) hy
  generalize (u * 4294967296 + d) / y * y = t at *
  omega

/-- Two digits make the quotient and the rest. -/
theorem two_digits {u y d1 d0 : Int} (hy : 0 < y) :
    (u * 4294967296 * 4294967296 + d1 * 4294967296 + d0) / y = (u * 4294967296 + d1) / y * 4294967296 + ((u * 4294967296 + d1) % y * 4294967296 + d0) / y ∧
    (u * 4294967296 * 4294967296 + d1 * 4294967296 + d0) % y = ((u * 4294967296 + d1) % y * 4294967296 + d0) % y := by
  have h1 := rem_eq u y d1
  have e : u * 4294967296 * 4294967296 + d1 * 4294967296 + d0 = ((u * 4294967296 + d1) % y * 4294967296 + d0) + y * ((u * 4294967296 + d1) / y * 4294967296) := by
    rw [← h1]
    have : y * ((u * 4294967296 + d1) / y * 4294967296) = (u * 4294967296 + d1) / y * y * 4294967296 := by
      rw [← Int.mul_assoc, Int.mul_comm y]
    rw [this]
    omega
  constructor
  · rw [e, Int.add_mul_ediv_left _ _ (by omega)]; omega
  · rw [e, Int.add_mul_emod_self_left]

/-- A quotient and a rest of numbers that are both multiplied by 2^s. -/
theorem shifted (n y p : Int) (hp : 0 < p) : (n * p) / (y * p) = n / y ∧ (n * p) % (y * p) / p = n % y := by
  refine ⟨Int.mul_ediv_mul_of_pos_left n y hp, ?_⟩
  rw [Int.mul_comm n, Int.mul_comm y, Int.mul_emod_mul_of_pos _ _ hp, Int.mul_comm, Int.mul_ediv_cancel _ (by omega)]

/-- The leading digit of a shifted number of two words. -/
theorem high_word (hi lo : Int) (s : Nat) (hs : s ≤ 63) (h0 : 0 ≤ hi) (hh : hi * 2 ^ s < 18446744073709551616) (l0 : 0 ≤ lo) (l1 : lo < 18446744073709551616) :
    bits BinOp.or IntKind.u64 (hi * 2 ^ s) (lo / 2 ^ (64 - s)) * 18446744073709551616 + lo * 2 ^ s % 18446744073709551616 = (hi * 18446744073709551616 + lo) * 2 ^ s := by
  have hp : (0 : Int) < 2 ^ s := Int.pow_pos (by omega)
  have hp2 : (0 : Int) < 2 ^ (64 - s) := Int.pow_pos (by omega)
  have hpp : (2 : Int) ^ s * 2 ^ (64 - s) = 18446744073709551616 := by
    rw [← Int.pow_add, show s + (64 - s) = 64 by omega]; rfl
  have hq0 : 0 ≤ lo / 2 ^ (64 - s) := Int.ediv_nonneg l0 (by omega)
  have hq1 : lo / 2 ^ (64 - s) < 2 ^ s := by
    rw [Int.ediv_lt_iff_lt_mul hp2, hpp]; exact l1
  have hs64 : (2 : Int) ^ s < 18446744073709551616 := by
    have : (1 : Int) < 2 ^ (64 - s) := by
      obtain ⟨k, hk⟩ : ∃ k, 64 - s = k + 1 := ⟨63 - s, by omega⟩
      have h1 : (0 : Int) < 2 ^ k := Int.pow_pos (by omega)
      rw [hk, Int.pow_succ]
      omega
    rw [← hpp]
    have := Int.mul_lt_mul_of_pos_left this hp
    omega
  have hor : bits BinOp.or IntKind.u64 (hi * 2 ^ s) (lo / 2 ^ (64 - s)) = hi * 2 ^ s + lo / 2 ^ (64 - s) := by
    rw [u64_or _ _ (Int.mul_nonneg h0 (by omega)) hh hq0 (by omega)]
    rw [nat_join s]
    · have : 0 ≤ hi * 2 ^ s := Int.mul_nonneg h0 (by omega)
      omega
    · have e : (hi * 2 ^ s).toNat = hi.toNat * 2 ^ s := by
        obtain ⟨n, rfl⟩ := Int.eq_ofNat_of_zero_le h0
        have : ((n : Int) * 2 ^ s) = ((n * 2 ^ s : Nat) : Int) := by simp
        rw [this, Int.toNat_natCast, Int.toNat_natCast]
      rw [e, Nat.mul_mod_left]
    · have e : ((2 ^ s : Nat) : Int) = (2 : Int) ^ s := by simp
      omega
  rw [hor]
  have hd := Int.mul_ediv_add_emod lo (2 ^ (64 - s))
  have hm0 := Int.emod_nonneg lo (show (2 : Int) ^ (64 - s) ≠ 0 by omega)
  have hm1 := Int.emod_lt_of_pos lo hp2
  have e2 : lo * 2 ^ s = lo / 2 ^ (64 - s) * 18446744073709551616 + lo % 2 ^ (64 - s) * 2 ^ s := by
    rw [← hpp]
    conv => lhs; rw [← hd]
    rw [Int.add_mul, Int.mul_comm (2 ^ (64 - s)) (lo / 2 ^ (64 - s)), Int.mul_assoc, Int.mul_comm (2 ^ (64 - s)) (2 ^ s)]
  have e3 : lo % 2 ^ (64 - s) * 2 ^ s < 18446744073709551616 := by
    rw [← hpp, Int.mul_comm]
    exact Int.mul_lt_mul_of_pos_left hm1 hp
  have e4 : 0 ≤ lo % 2 ^ (64 - s) * 2 ^ s := Int.mul_nonneg hm0 (by omega)
  rw [Int.add_mul (hi * 18446744073709551616), Int.add_mul, e2]
  have e5 : hi * 18446744073709551616 * 2 ^ s = hi * 2 ^ s * 18446744073709551616 := by
    rw [Int.mul_assoc, Int.mul_comm 18446744073709551616, ← Int.mul_assoc]
  rw [e5]
  omega
end Go.Proofs.Ytikpemmfmkdndaa.DivMath
