/- Plain facts of playlists: break numbers. -/
import Derived.Test.YtikpemmfmkdndaaAtPlain
namespace Go.Proofs.Ytikpemmfmkdndaa
set_option linter.unusedVariables false
set_option linter.unusedSimpArgs false

/-- How many breaks there were behind the first k entries. -/
def bkTo (bk : Int) (es : List Ent) : Nat → Int
  | 0 => bk
  | k + 1 => if (es.getD k ent0).br = true then bkTo bk es k + 1 else bkTo bk es k
theorem bkTo_bd (bk : Int) (es : List Ent) : ∀ k, bk ≤ bkTo bk es k ∧ bkTo bk es k ≤ bk + k
  | 0 => by simp [bkTo]
  | k + 1 => by
    have := bkTo_bd bk es k
    rw [bkTo]
    split <;> omega
theorem bkTo_mono (bk : Int) (es : List Ent) {i j : Nat} (h : i ≤ j) : bkTo bk es i ≤ bkTo bk es j := by
  induction j with
  | zero => obtain rfl : i = 0 := by omega
            exact Int.le_refl _
  | succ j ih =>
    by_cases e : i = j + 1
    · subst e; exact Int.le_refl _
    · have := ih (by omega)
      rw [bkTo]
      split <;> omega
def bkL (bk : Int) (es : List Ent) (k : Nat) : List Int := (List.range k).map (fun i => bkTo bk es (i + 1))
theorem bkL_len (bk : Int) (es : List Ent) (k : Nat) : (bkL bk es k).length = k := by simp [bkL]
theorem bkL_snoc (bk : Int) (es : List Ent) (k : Nat) : bkL bk es (k + 1) = bkL bk es k ++ [bkTo bk es (k + 1)] := by unfold bkL; rw [List.range_succ, List.map_append]; rfl
theorem bkL_at (bk : Int) (es : List Ent) (k i : Nat) (h : i < k) : (bkL bk es k).getD i 0 = bkTo bk es (i + 1) := by
  unfold bkL
  rw [List.getD_eq_getElem?_getD, List.getElem?_map, List.getElem?_range h]
  rfl

end Go.Proofs.Ytikpemmfmkdndaa
