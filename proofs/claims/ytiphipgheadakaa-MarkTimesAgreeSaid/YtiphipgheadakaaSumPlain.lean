/- Plain facts of check sums (no program): what Sum of package mark answers, and that bytes with their sum behind them have the sum 0. -/
import Derived.Laws.BitsAllLaws
import Derived.RowKit
namespace Go.Proofs.Ytiphipgheadakaa
set_option linter.unusedVariables false
set_option linter.unusedSimpArgs false

/-- One bit. -/
def crcB (n : Nat) : Nat := if 2147483648 ≤ n then (n * 2 % 4294967296) ^^^ 79764919 else n * 2 % 4294967296
def crcK : Nat → Nat → Nat
  | 0, n => n
  | k + 1, n => crcB (crcK k n)
/-- One byte. -/
def crcX (n x : Nat) : Nat := crcK 8 (n ^^^ (x * 16777216))
/-- The sum of the first k bytes. -/
def sumTo (xs : List Int) : Nat → Nat
  | 0 => 4294967295
  | k + 1 => crcX (sumTo xs k) (xs.getD k 0).toNat

theorem crcB_lt (n : Nat) : crcB n < 4294967296 := by
  unfold crcB
  split
  · exact Nat.xor_lt_two_pow (n := 32) (by omega) (by omega)
  · omega
theorem crcK_lt (k n : Nat) (h : n < 4294967296) : crcK k n < 4294967296 := by
  cases k
  · exact h
  · exact crcB_lt _
theorem xor_lt32 (n x : Nat) (h : n < 4294967296) (hx : x < 256) : n ^^^ (x * 16777216) < 4294967296 := Nat.xor_lt_two_pow (n := 32) (by omega) (by omega)
theorem crcX_lt (n x : Nat) : crcX n x < 4294967296 := crcB_lt _
theorem sumTo_lt (xs : List Int) : ∀ k, sumTo xs k < 4294967296
  | 0 => by simp [sumTo]
  | k + 1 => crcX_lt _ _

theorem xor_top (A : Nat) : A ^^^ (A / 16777216 * 16777216) = A % 16777216 := by
  have h1 : (A ^^^ (A / 16777216 * 16777216)) % 2 ^ 24 = A % 16777216 := by
    rw [Nat.xor_mod_two_pow]
    have : A / 16777216 * 16777216 % 2 ^ 24 = 0 := by omega
    rw [this, Nat.xor_zero]
  have h2 : (A ^^^ (A / 16777216 * 16777216)) / 2 ^ 24 = 0 := by
    rw [Nat.xor_div_two_pow]
    have : A / 16777216 * 16777216 / 2 ^ 24 = A / 2 ^ 24 := by omega
    rw [this, Nat.xor_self]
  omega
theorem crcK_small (M : Nat) (h : M < 16777216) : ∀ j, j ≤ 8 → crcK j M = M * 2 ^ j
  | 0, _ => by simp [crcK]
  | j + 1, hj => by
    rw [crcK, crcK_small M h j (by omega)]
    have hp : 2 ^ j ≤ 2 ^ 7 := Nat.pow_le_pow_right (by omega) (by omega)
    have hq : M * 2 ^ j ≤ M * 2 ^ 7 := Nat.mul_le_mul_left _ hp
    have e : M * 2 ^ (j + 1) = M * 2 ^ j * 2 := by rw [Nat.pow_succ, Nat.mul_assoc]
    rw [e, crcB, if_neg (by omega), Nat.mod_eq_of_lt (by omega)]
theorem crcX_top (A : Nat) : crcX A (A / 16777216) = A % 16777216 * 256 := by
  rw [crcX, xor_top, crcK_small _ (Nat.mod_lt _ (by omega)) 8 (by omega)]

theorem sumTo_left (xs ys : List Int) : ∀ k, k ≤ xs.length → sumTo (xs ++ ys) k = sumTo xs k
  | 0, _ => rfl
  | k + 1, h => by
    have e : (xs ++ ys).getD k 0 = xs.getD k 0 := by rw [List.getD_eq_getElem?_getD, List.getElem?_append_left (by omega), ← List.getD_eq_getElem?_getD]
    rw [sumTo, sumTo, sumTo_left xs ys k (by omega), e]
/-- The four bytes of a sum. -/
def four (n : Nat) : List Int := [((n / 16777216 : Nat) : Int), ((n / 65536 % 256 : Nat) : Int), ((n / 256 % 256 : Nat) : Int), ((n % 256 : Nat) : Int)]
theorem four_at (xs : List Int) (n i : Nat) : (xs ++ four n).getD (xs.length + i) 0 = (four n).getD i 0 := by
  rw [List.getD_eq_getElem?_getD, List.getElem?_append_right (by omega), ← List.getD_eq_getElem?_getD]
  congr 1; omega
theorem sum_zero (xs : List Int) : sumTo (xs ++ four (sumTo xs xs.length)) (xs.length + 4) = 0 := by
  obtain ⟨N, hN⟩ : ∃ N, sumTo xs xs.length = N := ⟨_, rfl⟩
  have hlt := sumTo_lt xs xs.length
  have h0 := sumTo_left xs (four N) xs.length (Nat.le_refl _)
  rw [hN] at h0 hlt ⊢
  have e0 : ((xs ++ four N).getD xs.length 0).toNat = N / 16777216 := by have := four_at xs N 0; rw [Nat.add_zero] at this; rw [this]; rfl
  have e1 : ((xs ++ four N).getD (xs.length + 1) 0).toNat = N / 65536 % 256 := by rw [four_at]; rfl
  have e2 : ((xs ++ four N).getD (xs.length + 2) 0).toNat = N / 256 % 256 := by rw [four_at]; rfl
  have e3 : ((xs ++ four N).getD (xs.length + 3) 0).toNat = N % 256 := by rw [four_at]; rfl
  rw [show xs.length + 4 = (xs.length + 3) + 1 from rfl, sumTo, show xs.length + 3 = (xs.length + 2) + 1 from rfl, sumTo, show xs.length + 2 = (xs.length + 1) + 1 from rfl, sumTo, sumTo]
  rw [h0, e0, e1, e2, e3, crcX_top]
  have a1 : N / 65536 % 256 = N % 16777216 * 256 / 16777216 := by omega
  rw [a1, crcX_top]
  have a2 : N / 256 % 256 = N % 16777216 * 256 % 16777216 * 256 / 16777216 := by omega
  rw [a2, crcX_top]
  have a3 : N % 256 = N % 16777216 * 256 % 16777216 * 256 % 16777216 * 256 / 16777216 := by omega
  rw [a3, crcX_top]
  omega
theorem sum_awake : sumTo [49, 50, 51, 52, 53, 54, 55, 56, 57] 9 = 58124007 := by decide +kernel
/-- What the walk leaves of the step, as integers. -/
theorem crcB_hi (n : Nat) (h : 2147483648 ≤ n) (hn : n < 4294967296) : bits .xor .u32 ((n : Int) * 2 % 4294967296) 79764919 = ((crcB n : Nat) : Int) := by
  have e : ((n : Int) * 2 % 4294967296) = ((n * 2 % 4294967296 : Nat) : Int) := by omega
  rw [e, crcB, if_pos h]
  exact u32_xor_nat _ 79764919 (by omega) (by omega)
theorem crcB_lo (n : Nat) (h : ¬ 2147483648 ≤ n) : (n : Int) * 2 % 4294967296 = ((crcB n : Nat) : Int) := by
  rw [crcB, if_neg h]; omega
theorem crcX_in (n x : Nat) (hn : n < 4294967296) (hx : x < 256) : bits .xor .u32 (n : Int) ((x : Int) * 16777216) = ((n ^^^ (x * 16777216) : Nat) : Int) := by
  have e : (x : Int) * 16777216 = ((x * 16777216 : Nat) : Int) := by omega
  rw [e]; exact u32_xor_nat _ _ hn (by omega)

end Go.Proofs.Ytiphipgheadakaa
