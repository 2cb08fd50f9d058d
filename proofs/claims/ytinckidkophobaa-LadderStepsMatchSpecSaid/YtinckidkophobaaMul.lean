/- math/bits.Mul64: the two words of a product. -/
import Derived.Test.YtinckidkophobaaBox0
import Derived.Test.YtinckidkophobaaShelf
namespace Go.Proofs.Ytinckidkophobaa
set_option linter.unusedVariables false
set_option linter.unusedSimpArgs false
open Go.RowKit

theorem mul64_ex (x y : Int) (w : World) (hx : 0 ≤ x) (hx2 : x < 18446744073709551616) (hy : 0 ≤ y) (hy2 : y < 18446744073709551616) :
    Calls Try.prog 94 #[.int .u64 x, .int .u64 y] w fun e w' => (∃ h l : Int, 0 ≤ h ∧ h < 18446744073709551616 ∧ 0 ≤ l ∧ l ≤ 18446744073709551615 ∧ Hid (h * 18446744073709551616 + l = x * y) ∧ e = .returned (.tuple #[.int .u64 h, .int .u64 l])) ∧ w = w' := by
  obtain ⟨a, rfl⟩ := Int.eq_ofNat_of_zero_le hx
  obtain ⟨b, rfl⟩ := Int.eq_ofNat_of_zero_le hy
  refine (Try.bits_Mul64 a b (by omega) (by omega) w).mono ?_
  rintro e w' ⟨rfl, rfl⟩
  have h1 : a * b < 18446744073709551616 * 18446744073709551616 := Nat.mul_lt_mul_of_lt_of_le (by omega) (by omega) (by omega)
  refine ⟨⟨_, _, by omega, by omega, by omega, by omega, Lib.hid ?_, rfl⟩, rfl⟩
  have : ((a * b : Nat) : Int) = (a : Int) * b := by simp
  omega

end Go.Proofs.Ytinckidkophobaa
