/- staysCorner (program). -/
import Derived.Test.YtinckidkophobaaHullW
namespace Go.Proofs.Ytinckidkophobaa
set_option linter.unusedVariables false
set_option linter.unusedSimpArgs false
open Go.RowKit Go.Shelf Go.Deep

/-- Corners as the program keeps them: the last one last. -/
def cornI (st : List Nat) : List Int := st.reverse.map (fun n : Nat => (n : Int))
theorem cornI_len (st : List Nat) : (cornI st).length = st.length := by simp [cornI]
theorem cornI_top (a : Nat) (t : List Nat) : (cornI (a :: t)).getD (t.length) 0 = (a : Int) := by
  unfold cornI
  rw [List.getD_eq_getElem?_getD, List.getElem?_map, List.reverse_cons, List.getElem?_append_right (by simp)]
  simp
theorem cornI_next (a b : Nat) (t : List Nat) : (cornI (a :: b :: t)).getD (t.length) 0 = (b : Int) := by
  unfold cornI
  rw [List.getD_eq_getElem?_getD, List.getElem?_map, List.reverse_cons, List.getElem?_append_left (by simp), List.reverse_cons, List.getElem?_append_right (by simp)]
  simp
theorem cornI_cons (a : Nat) (t : List Nat) : cornI (a :: t) = cornI t ++ [(a : Int)] := by simp [cornI]
end Go.Proofs.Ytinckidkophobaa
