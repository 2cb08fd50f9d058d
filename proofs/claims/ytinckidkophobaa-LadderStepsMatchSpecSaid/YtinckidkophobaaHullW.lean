/- isAbove, staysCorner (program). -/
import Derived.Test.YtinckidkophobaaChkR
import Derived.Test.YtinckidkophobaaHullPlain
import Derived.Test.YtinckidkophobaaIntsC
import Derived.Deep.AppendLies
namespace Go.Proofs.Ytinckidkophobaa
set_option linter.unusedVariables false
set_option linter.unusedSimpArgs false
open Go.RowKit Go.Shelf Go.Deep

theorem mul_bd {x y : Int} (h1 : -1000000 ≤ x) (h2 : x ≤ 1000000) (h3 : -1000000000 ≤ y) (h4 : y ≤ 1000000000) : -1000000000000000 ≤ x * y ∧ x * y ≤ 1000000000000000 := by
  have e : (x * y).natAbs ≤ 1000000 * 1000000000 := by rw [Int.natAbs_mul]; exact Nat.mul_le_mul (by omega) (by omega)
  omega
end Go.Proofs.Ytinckidkophobaa
