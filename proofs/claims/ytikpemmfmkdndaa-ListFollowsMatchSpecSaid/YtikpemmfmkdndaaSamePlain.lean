/- Plain facts of playlists: what is the same. -/
import Derived.Test.YtikpemmfmkdndaaEntPlain
import Derived.Lib.SlBy2
namespace Go.Proofs.Ytikpemmfmkdndaa
set_option linter.unusedVariables false
set_option linter.unusedSimpArgs false

def sEq (s t : ByteArray) : Bool := s.toList == t.toList
def sameX (xs ys : List ByteArray) : Bool := Go.Lib.allEq sEq xs ys
def sameE (x y : Ent) : Bool := (x.mi == y.mi && (x.br == y.br && x.da == y.da)) && ((sEq x.uri y.uri && (sEq x.key y.key && x.gap == y.gap)) && sameX x.ex y.ex)
def sameEs (xs ys : List Ent) : Bool := decide (xs.length = ys.length) && (List.range xs.length).all (fun i => sameE (xs.getD i ent0) (ys.getD i ent0))
def sameH (a b : Lst) : Bool := a.tg == b.tg && (a.fi == b.fi && (a.bk == b.bk && a.en == b.en))
def sameL (a b : Lst) : Bool := sameH a b && sameEs a.es b.es
theorem sEq_comm (s t : ByteArray) : sEq s t = sEq t s := by unfold sEq; exact Bool.eq_iff_iff.2 ⟨fun h => by rw [beq_iff_eq] at h ⊢; exact h.symm, fun h => by rw [beq_iff_eq] at h ⊢; exact h.symm⟩
theorem sEq_refl (s : ByteArray) : sEq s s = true := by unfold sEq; simp
theorem sameX_comm : ∀ xs ys : List ByteArray, sameX xs ys = sameX ys xs
  | [], [] => rfl
  | [], _ :: _ => rfl
  | _ :: _, [] => rfl
  | x :: xs, y :: ys => by
    have := sameX_comm xs ys
    unfold sameX at this ⊢
    rw [Go.Lib.allEq, Go.Lib.allEq, sEq_comm, this]
theorem sameX_len : ∀ {xs ys : List ByteArray}, sameX xs ys = true → xs.length = ys.length
  | [], [], _ => rfl
  | [], _ :: _, h => by cases h
  | _ :: _, [], h => by cases h
  | x :: xs, y :: ys, h => by
    unfold sameX at h
    rw [Go.Lib.allEq, Bool.and_eq_true] at h
    have := sameX_len (xs := xs) (ys := ys) h.2
    simp [this]
theorem sameX_iff : ∀ {xs ys : List ByteArray}, xs.length = ys.length → (sameX xs ys = true ↔ ∀ i, i < xs.length → sEq (xs.getD i str0) (ys.getD i str0) = true)
  | [], [], _ => by simp [sameX, Go.Lib.allEq]
  | [], _ :: _, h => by simp at h
  | _ :: _, [], h => by simp at h
  | x :: xs, y :: ys, h => by
    have ih := sameX_iff (xs := xs) (ys := ys) (by simpa using h)
    unfold sameX at ih ⊢
    rw [Go.Lib.allEq, Bool.and_eq_true, ih]
    constructor
    · rintro ⟨h1, h2⟩ i hi
      cases i with
      | zero => exact h1
      | succ i => exact h2 i (by simpa using hi)
    · intro g
      exact ⟨g 0 (by simp), fun i hi => g (i + 1) (by simpa using hi)⟩
theorem beqI_comm (a b : Int) : (a == b) = (b == a) := Bool.eq_iff_iff.2 ⟨fun h => by rw [beq_iff_eq] at h ⊢; exact h.symm, fun h => by rw [beq_iff_eq] at h ⊢; exact h.symm⟩
theorem beqB_comm (a b : Bool) : (a == b) = (b == a) := by cases a <;> cases b <;> rfl
theorem sameE_comm (x y : Ent) : sameE x y = sameE y x := by
  unfold sameE
  rw [beqI_comm x.mi, beqB_comm x.br, beqI_comm x.da, sEq_comm x.uri, sEq_comm x.key, beqB_comm x.gap, sameX_comm x.ex]
theorem sameEs_len {xs ys : List Ent} (h : xs.length ≠ ys.length) : sameEs xs ys = false := by unfold sameEs; rw [decide_eq_false h]; rfl
theorem sameEs_bad {xs ys : List Ent} {i : Nat} (hi : i < xs.length) (h : sameE (xs.getD i ent0) (ys.getD i ent0) = false) : sameEs xs ys = false := by
  unfold sameEs
  have : (List.range xs.length).all (fun i => sameE (xs.getD i ent0) (ys.getD i ent0)) = false := by
    rw [List.all_eq_false]
    exact ⟨i, by simpa using hi, by rw [h]; exact Bool.false_ne_true⟩
  rw [this, Bool.and_false]
theorem sameEs_good {xs ys : List Ent} (hl : xs.length = ys.length) (h : ∀ i, i < xs.length → sameE (xs.getD i ent0) (ys.getD i ent0) = true) : sameEs xs ys = true := by
  unfold sameEs
  rw [decide_eq_true hl, Bool.true_and, List.all_eq_true]
  intro i hi
  exact h i (by simpa using hi)

end Go.Proofs.Ytikpemmfmkdndaa
