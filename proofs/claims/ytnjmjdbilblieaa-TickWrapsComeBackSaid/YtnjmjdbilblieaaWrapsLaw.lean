/- TickWrapsMatchSpec and TickWrapsComeBack: whatever the input, the law returns true. No conditions. -/
import Derived.Test.YtnjmjdbilblieaaUnwrap
namespace Go.Proofs.Ytnjmjdbilblieaa
set_option linter.unusedVariables false
set_option linter.unusedSimpArgs false
open Go.RowKit

theorem beq_refl_list (l : List Int) : (l == l) = true := by simp

set_option maxHeartbeats 1000000 in
theorem wraps_match (v : Value) (zs : List Int) (bits : Int) (w : World) (h : Nums w v zs) :
    Calls Try.prog 4 #[v, .int .i64 bits] w fun e w' => e = .returned (.bool true) ∧ Below w.heap.size w w' := by
  go_enter Try.func4, Try.ntmps4
  go_wp2_with fail
  refine (wrap_any _ zs _ _ h).mono ?_; rintro e w1 ⟨⟨u1, rfl, n1⟩, b1⟩
  go_wp2_with fail
  have h1 := h.below b1 (Nat.le_refl _)
  refine (rwrap_any _ zs _ _ h1).mono ?_; rintro e w2 ⟨⟨u2, rfl, n2⟩, b2⟩
  go_wp2_with fail
  have h2 := h1.below b2 (Nat.le_refl _)
  refine (unwrap_any _ zs _ _ h2).mono ?_; rintro e w3 ⟨⟨u3, rfl, n3⟩, b3⟩
  go_wp2_with fail
  have h3 := h2.below b3 (Nat.le_refl _)
  refine (runwrap_any _ zs _ _ h3).mono ?_; rintro e w4 ⟨⟨u4, rfl, n4⟩, b4⟩
  have n1' := ((n1.below b2 (Nat.le_refl _)).below b3 (Nat.le_refl _)).below b4 (Nat.le_refl _)
  have n2' := (n2.below b3 (Nat.le_refl _)).below b4 (Nat.le_refl _)
  have n3' := n3.below b4 (Nat.le_refl _)
  have bel : Below w.heap.size w w4 := ((b1.trans (b2.mono b1.size)).trans (b3.mono (Nat.le_trans b1.size b2.size))).trans (b4.mono (Nat.le_trans (Nat.le_trans b1.size b2.size) b3.size))
  clear h h1 h2 h3 n1 n2 n3 b1 b2 b3 b4
  go_wp2_with fail
  refine (equal_any _ _ _ _ _ n1' n2').mono ?_; rintro e w' ⟨rfl, q1, rfl⟩
  rw [beq_refl_list]
  go_wp2_with fail
  refine (equal_any _ _ _ _ _ (n3'.drewN q1) (n4.drewN q1)).mono ?_; rintro e w' ⟨rfl, q2, rfl⟩
  rw [beq_refl_list]
  go_wp2_with fail
  refine (awake_any _).mono ?_; rintro e w' ⟨rfl, q3, rfl⟩
  go_wp2_with fail
  go_ret
  exact ⟨rfl, by repeat (first | exact bel | apply below_drewN)⟩

end Go.Proofs.Ytnjmjdbilblieaa
