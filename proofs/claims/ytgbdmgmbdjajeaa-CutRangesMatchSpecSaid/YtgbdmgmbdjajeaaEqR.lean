/- slices.Equal at ranges. -/
import Derived.Test.YtgbdmgmbdjajeaaPairs
import Derived.Shelf.SlicesQ.Equal
import Derived.Laws.StructEq
namespace Go.Proofs.Ytgbdmgmbdjajeaa
set_option linter.unusedVariables false
set_option linter.unusedSimpArgs false
open Go.RowKit Go.Shelf Go.Deep

def equalRRen : Go.Shelf.Ren := ⟨fun | 8 => 16 | n => n, fun | 0 => 0 | 3 => 3 | 4 => 4 | 22 => 34 | 24 => 38 | n => n, fun | n => n⟩
theorem equalRLays : Go.Proofs.SlLaysQ.n8 Try.prog equalRRen := {
  mixed := by kernel_rfl
  f8 := ⟨"slices.Equal[[]headend/api.Range,headend/api.Range]", by kernel_rfl, Try.func16.trans (congrArg some (by kernel_rfl))⟩
  t0 := Try.underlying0
  a0 := Try.isAgg0
  z0 := Try.sizeOf0
  v0 := Try.zeroValue0
  t3 := Try.underlying3
  a3 := Try.isAgg3
  z3 := Try.sizeOf3
  v3 := Try.zeroValue3
  t4 := Try.underlying4
  a4 := Try.isAgg4
  z4 := Try.sizeOf4
  v4 := Try.zeroValue4
  t22 := Try.underlying34
  a22 := Try.isAgg34
  z22 := Try.sizeOf34
  v22 := Try.zeroValue34 }
def prEnc (y : Pr) : List Value := [.int .i64 y.1, .int .i64 y.2]
def prEq (x y : Pr) : Bool := x.1 == y.1 && x.2 == y.2
theorem prEq_iff (x y : Pr) : prEq x y = true ↔ x = y := by
  obtain ⟨a, b⟩ := x; obtain ⟨a', b'⟩ := y
  simp [prEq]
theorem prNeq : NeqAt Try.prog 38 (fun x => .agg (prEnc x).toArray) prEq := by
  refine ⟨fun x y w => ?_, GuardAt.agg _ (by kernel_rfl)⟩
  have u3 := Try.underlying3
  have a3 := Try.isAgg3
  have z3 := Try.sizeOf3
  have hS : Try.prog.underlying 38 = some (.struct (Try.prog.fieldsOf 38)) := by kernel_rfl
  have hp : Try.prog.stoodInHeld 38 = false := by kernel_rfl
  obtain ⟨a, b⟩ := x; obtain ⟨a', b'⟩ := y
  simp only [prEnc, prEq]
  rw [run_neq_struct, show (10000 : Nat) = 9999 + 1 from rfl, run_equalIn_agg w 9999 38 _ _ hS hp]
  simp only [Program.fieldsOf, Try.underlying38]
  go_simp
  by_cases h1 : a = a' <;> by_cases h2 : b = b' <;> simp [h1, h2]
set_option maxHeartbeats 1000000 in
theorem equalR_lens (a1 a2 : Option Addr) (n m c d : Nat) (w : World) (h : n ≠ m) (hm : n ≤ 9223372036854775807) (hm2 : m ≤ 9223372036854775807) :
    Calls Try.prog 16 #[.slice a1 n c, .slice a2 m d] w fun e w' => e = .returned (.bool false) ∧ w = w' := by
  have e1 : ((n : Int) == (m : Int)) = false := by simp; omega
  have e2 : ((n : Int) != (m : Int)) = true := by simp; omega
  go_enter Try.func16, Try.ntmps16
  go_wp2
  go_ret
  exact ⟨rfl, rfl⟩
set_option maxHeartbeats 1000000 in
theorem equalR_empty (a1 a2 : Option Addr) (c d : Nat) (w : World) :
    Calls Try.prog 16 #[.slice a1 0 c, .slice a2 0 d] w fun e w' => e = .returned (.bool true) ∧ w = w' := by
  go_enter Try.func16, Try.ntmps16
  go_wp2_with fail
  refine wp_loop_rounds 1 ?_
  rw [rounds_succ]
  go_wp2_with fail
  go_ret
  exact ⟨rfl, rfl⟩
theorem allEq_prs : ∀ (xs ys : List Pr), Lib.allEq prEq xs ys = decide (xs = ys) := by
  intro xs
  induction xs with
  | nil => intro ys; cases ys <;> simp [Lib.allEq]
  | cons x xs ih =>
    intro ys
    cases ys with
    | nil => simp [Lib.allEq]
    | cons y ys =>
      have := ih ys
      by_cases h : x = y
      · subst h
        have e : prEq x x = true := (prEq_iff x x).2 rfl
        simp [Lib.allEq, e, this] at *
        try simp [this]
      · have e : prEq x y = false := by rw [Bool.eq_false_iff]; intro hh; exact h ((prEq_iff x y).1 hh)
        simp [Lib.allEq, e, h]
/-- slices.Equal at one list of ranges twice. -/
theorem equalR_same (u v : Value) (xs : List Pr) (w : World) (hx : Pairs w u xs) (hy : Pairs w v xs) :
    Calls Try.prog 16 #[u, v] w fun e w' => e = .returned (.bool true) ∧ ∃ q, w' = w.drewN q := by
  have mx : ∀ {u : Value}, Pairs w u xs → xs.length ≤ 9223372036854775807 := fun h => by
    obtain ⟨a, c, -, h2⟩ := h.parts
    unfold maxLen at h2; omega
  have hm := mx hx
  rcases hx with ⟨a, c, rfl, hx0⟩ | ⟨b, o, c, rfl, hne, hlt, hl, hmm, hc⟩
  · rcases hy with ⟨a', c', rfl, hy0⟩ | ⟨b', o', c', rfl, hne', hlt', hl', hm', hc'⟩
    · refine (equalR_empty _ _ _ _ w).mono ?_
      rintro e w' ⟨rfl, rfl⟩
      exact ⟨rfl, 0, rfl⟩
    · exact absurd hx0 hne'
  · rcases hy with ⟨a', c', rfl, hy0⟩ | ⟨b', o', c', rfl, hne', hlt', hl', hm', hc'⟩
    · exact absurd hy0 hne
    · have cellsOf : ∀ {b o : Nat}, (∀ j, j < xs.length → w.cell? ⟨b, o + j * 2, none⟩ = some (.int .i64 (xs.getD j (0, 0)).1) ∧ w.cell? ⟨b, o + j * 2 + 1, none⟩ = some (.int .i64 (xs.getD j (0, 0)).2)) → ∀ j, j < xs.length → ∀ i v, (prEnc xs[j]!)[i]? = some v → w.cell? ⟨b, o + j * 2 + i, none⟩ = some v := by
        intro b o hh j hj i v hv
        rw [show xs[j]! = xs.getD j (0, 0) by rw [List.getElem!_eq_getElem?_getD, List.getD_eq_getElem?_getD]; rfl] at hv
        have hi : i < 2 := by
          have := (List.getElem?_eq_some_iff.1 hv).1
          simpa [prEnc] using this
        have : i = 0 ∨ i = 1 := by omega
        rcases this with rfl | rfl
        · rw [← hv]; exact (hh j hj).1
        · rw [← hv]; exact (hh j hj).2
      have := Go.Proofs.AnyQ.slices_Equal equalRLays 2 Try.isAgg38 Try.sizeOf38 prEnc (fun _ => rfl) prEq prNeq b o xs.length c b' o' xs.length c' xs xs w (Nat.le_refl _) (Nat.le_refl _) hm hm (cellsOf hc) (cellsOf hc')
      rw [List.take_of_length_le (Nat.le_refl _), allEq_prs] at this
      have e : decide (xs = xs) = true := by simp
      rw [e] at this
      exact this

end Go.Proofs.Ytgbdmgmbdjajeaa
