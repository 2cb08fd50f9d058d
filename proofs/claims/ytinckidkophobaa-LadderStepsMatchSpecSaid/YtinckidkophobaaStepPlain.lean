/- Plain facts of steps: gaps, what checkStep answers. -/
import Derived.Test.YtinckidkophobaaMixPlain
namespace Go.Proofs.Ytinckidkophobaa
set_option linter.unusedVariables false
set_option linter.unusedSimpArgs false

/-- r is too dear to come after a. -/
def gapB (a r : Rung) (p q : Int) : Bool := decide (a.ra * p < r.ra * q)
def gapAt (rs : List Rung) (p q : Int) (i : Nat) : Bool := decide (0 < i) && gapB (rs.getD (i - 1) rung0) (rs.getD i rung0) p q
def stF (rs : List Rung) (p q : Int) : Int := fstF [rgF rs, fIf (!inB p 1 1000000000) 1, fIf (!inB q 1 1000000000) 1, fIf (decide (p < q)) 1]
structure StOk (rs : List Rung) (p q : Int) : Prop where
  ok : OkRs rs
  hp : 1 ≤ p ∧ p ≤ 1000000000
  hq : 1 ≤ q ∧ q ≤ 1000000000
  le : q ≤ p
theorem stF_zero (rs : List Rung) (p q : Int) : stF rs p q = 0 ↔ StOk rs p q := by
  unfold stF
  rw [fstF_zero]
  simp only [List.mem_cons, List.not_mem_nil, or_false, forall_eq_or_imp, forall_eq]
  rw [rgF_zero, fIf_zero (by decide), fIf_zero (by decide), fIf_zero (by decide)]
  simp only [Bool.not_eq_false', inB_iff, decide_eq_false_iff_not]
  constructor
  · rintro ⟨a, b, c, d⟩
    exact ⟨a, b, c, by omega⟩
  · rintro ⟨a, b, c, d⟩
    exact ⟨a, b, c, by omega⟩

end Go.Proofs.Ytinckidkophobaa
