/- The reference's corner, Hull; LadderHullsMatchSpec. -/
import Derived.Test.YtinckidkophobaaRHull
import Derived.Test.YtinckidkophobaaMean5
namespace Go.Proofs.Ytinckidkophobaa
set_option linter.unusedVariables false
set_option linter.unusedSimpArgs false
open Go.RowKit Go.Shelf Go.Deep

def pB (rs : List Rung) (i : Nat) : Bool := fsB rs i && coB rs i
theorem pB_iff (rs : List Rung) (i : Nat) : pB rs i = true ↔ Fst rs i ∧ Cor rs i := by
  unfold pB; rw [Bool.and_eq_true, fsB_iff, coB_iff]
theorem rhTo_len (rs : List Rung) (p : Nat → Bool) : ∀ k, (rhTo rs p k).length ≤ k
  | 0 => by simp [rhTo]
  | k + 1 => by
    have := rhTo_len rs p k
    rw [rhTo]
    split
    · rw [List.length_cons]; omega
    · omega
theorem rhTo_lt (rs : List Rung) (p : Nat → Bool) : ∀ k, ∀ a ∈ rhTo rs p k, a < k
  | 0, a, h => by simp [rhTo] at h
  | k + 1, a, h => by
    rw [rhTo] at h
    split at h
    · rcases List.mem_cons.1 h with rfl | h
      · omega
      · have := rhTo_lt rs p k a h; omega
    · have := rhTo_lt rs p k a h; omega
/-- slices.Equal at one list of numbers twice. -/
theorem equalI_same (u v : Value) (xs : List Int) (w : World) (hx : NumsC w u xs) (hy : NumsC w v xs) :
    Calls Try.prog 8 #[u, v] w fun e w' => e = .returned (.bool true) ∧ Below w.heap.size w w' := by
  rcases hx with ⟨a, c, rfl, hx0⟩ | ⟨b, o, c, rfl, hne, hlt, hl, hmm, hc⟩
  · rcases hy with ⟨a', c', rfl, hy0⟩ | ⟨b', o', c', rfl, hne', hlt', hl', hm', hc'⟩
    · refine (Try.slices_Equal_int_empty a a' c 0 c' w (by omega)).mono ?_
      rintro e w' ⟨rfl, rfl⟩
      exact ⟨rfl, Below.refl _ _⟩
    · exact absurd hx0 hne'
  · rcases hy with ⟨a', c', rfl, hy0⟩ | ⟨b', o', c', rfl, hne', hlt', hl', hm', hc'⟩
    · exact absurd hy0 hne
    · unfold maxLen at hmm
      refine (Try.slices_Equal_int b o xs.length c b' o' xs.length c' xs xs w (Nat.le_refl _) (Nat.le_refl _) (by omega) (by omega) hc hc').mono ?_
      rintro e w' ⟨rfl, q, rfl⟩
      exact ⟨by simp, below_drewN (Below.refl _ w) q⟩
end Go.Proofs.Ytinckidkophobaa
