/- cut.betterThan, cut.checkEnd and cut.plansOf. -/
import Derived.Test.YtgbdmgmbdjajeaaGrid
import Derived.Test.YtgbdmgmbdjajeaaPlanPlain
import Derived.Test.YtgbdmgmbdjajeaaTimes4
namespace Go.Proofs.Ytgbdmgmbdjajeaa
set_option linter.unusedVariables false
set_option linter.unusedSimpArgs false
open Go.RowKit Go.Deep

theorem Try.infoPlan : (Try.prog.info? 87).map (fun i => (i.zero, i.size, i.bytes)) = some (some (.agg #[.int .i64 0, .int .i64 0, .int .i64 0]), 3, 24) := by kernel_rfl
abbrev planA (p : Plan) : Value := .agg #[.int .i64 p.sum, .int .i64 (p.many : Int), .int .i64 (p.next : Int)]
set_option maxHeartbeats 1000000 in
theorem better_any (p o : Plan) (w : World) :
    Calls Try.prog 56 #[planA p, planA o] w fun e w' => e = .returned (.bool (betterB p o)) ∧ Below w.heap.size w w' := by
  obtain ⟨ps, pm, pn⟩ := p
  obtain ⟨os, om, on⟩ := o
  simp only [planA]
  have hbel : Below w.heap.size w ((w.alloc (.cells #[.int .i64 ps, .int .i64 (pm : Int), .int .i64 (pn : Int)] 87)).alloc (.cells #[.int .i64 os, .int .i64 (om : Int), .int .i64 (on : Int)] 87)) := ((Below.refl _ _).alloc (Nat.le_refl _) _).alloc (by simp) _
  by_cases h0 : om = 0
  · have HE : Hid (betterB ⟨ps, pm, pn⟩ ⟨os, om, on⟩ = true) := Lib.hid (by rw [betterB, if_pos h0])
    subst h0
    go_enter Try.func56, Try.ntmps56
    go_wp2_with fail
    go_ret
    exact ⟨bret_bool HE.out.symm, hbel⟩
  · have e0 : ((om : Int) == 0) = false := by simp; omega
    by_cases hs : ps = os
    · have HE : Hid (betterB ⟨ps, pm, pn⟩ ⟨os, om, on⟩ = decide (pm < om)) := Lib.hid (by rw [betterB, if_neg h0, if_neg (by simp [hs])])
      subst hs
      go_enter Try.func56, Try.ntmps56
      go_wp2_with fail
      go_ret
      exact ⟨bret_bool (by rw [HE.out]; try simp), hbel⟩
    · have HE : Hid (betterB ⟨ps, pm, pn⟩ ⟨os, om, on⟩ = decide (ps < os)) := Lib.hid (by rw [betterB, if_neg h0, if_pos hs])
      have e1 : (ps == os) = false := by simp [hs]
      have e2 : (ps != os) = true := by simp [hs]
      go_enter Try.func56, Try.ntmps56
      go_wp2_with fail
      go_ret
      exact ⟨bret_bool (by rw [HE.out]; try simp), hbel⟩
/-- The plans that lie in block P. -/
def PlAt (w : World) (P n : Nat) (tb : Nat → Plan) : Prop := ∀ j, j < n →
  (w.cell? ⟨P, j * 3, none⟩ = some (.int .i64 (tb j).sum) ∧ w.cell? ⟨P, j * 3 + 1, none⟩ = some (.int .i64 ((tb j).many : Int)) ∧ w.cell? ⟨P, j * 3 + 2, none⟩ = some (.int .i64 ((tb j).next : Int))) ∧
  w.frozen? ⟨P, j * 3, none⟩ = false ∧ w.frozen? ⟨P, j * 3 + 1, none⟩ = false ∧ w.frozen? ⟨P, j * 3 + 2, none⟩ = false
theorem PlAt.below {B : Nat} {w w' : World} {P n : Nat} {tb : Nat → Plan} (h : PlAt w P n tb) (hb : Below B w w') (hP : P < B) : PlAt w' P n tb := fun j hj => by
  obtain ⟨⟨a, b, c⟩, d, e, f⟩ := h j hj
  exact ⟨⟨(hb.cell (p := ⟨P, j * 3, none⟩) hP).trans a, (hb.cell (p := ⟨P, j * 3 + 1, none⟩) hP).trans b, (hb.cell (p := ⟨P, j * 3 + 2, none⟩) hP).trans c⟩,
    (hb.frozen (p := ⟨P, j * 3, none⟩) hP).trans d, (hb.frozen (p := ⟨P, j * 3 + 1, none⟩) hP).trans e, (hb.frozen (p := ⟨P, j * 3 + 2, none⟩) hP).trans f⟩
theorem PlAt.congr {w : World} {P n : Nat} {tb tb' : Nat → Plan} (h : PlAt w P n tb) (e : ∀ j, j < n → tb j = tb' j) : PlAt w P n tb' := fun j hj => by rw [← e j hj]; exact h j hj
/-- A plan stored into place i. -/
theorem PlAt.store {w : World} {P n : Nat} {tb : Nat → Plan} (h : PlAt w P n tb) (i : Nat) (hi : i < n) (p : Plan) :
    PlAt (((w.setCell ⟨P, i * 3, none⟩ (.int .i64 p.sum)).setCell ⟨P, i * 3 + 1, none⟩ (.int .i64 (p.many : Int))).setCell ⟨P, i * 3 + 2, none⟩ (.int .i64 (p.next : Int))) P n (fun j => if j = i then p else tb j) := fun j hj => by
  obtain ⟨⟨a, b, c⟩, d, e, f⟩ := h j hj
  obtain ⟨⟨a', b', c'⟩, -⟩ := h i hi
  refine ⟨?_, by simpa [World.frozen?_setCell] using d, by simpa [World.frozen?_setCell] using e, by simpa [World.frozen?_setCell] using f⟩
  by_cases hji : j = i
  · subst hji
    simp only [if_true]
    refine ⟨?_, ?_, ?_⟩
    · rw [World.cell?_setCell_other _ _ _ _ (by simp), World.cell?_setCell_other _ _ _ _ (by simp)]
      exact World.cell?_setCell_same _ _ _ a'
    · rw [World.cell?_setCell_other _ _ _ _ (by simp)]
      exact World.cell?_setCell_same _ _ _ (u := .int .i64 ((tb j).many : Int)) (by rw [World.cell?_setCell_other _ _ _ _ (by simp)]; exact b')
    · exact World.cell?_setCell_same _ _ _ (u := .int .i64 ((tb j).next : Int)) (by rw [World.cell?_setCell_other _ _ _ _ (by simp), World.cell?_setCell_other _ _ _ _ (by simp)]; exact c')
  · simp only [if_neg hji]
    refine ⟨?_, ?_, ?_⟩
    · rw [World.cell?_setCell_other _ _ _ _ (by simp <;> omega), World.cell?_setCell_other _ _ _ _ (by simp <;> omega), World.cell?_setCell_other _ _ _ _ (by simp <;> omega)]; exact a
    · rw [World.cell?_setCell_other _ _ _ _ (by simp <;> omega), World.cell?_setCell_other _ _ _ _ (by simp <;> omega), World.cell?_setCell_other _ _ _ _ (by simp <;> omega)]; exact b
    · rw [World.cell?_setCell_other _ _ _ _ (by simp <;> omega), World.cell?_setCell_other _ _ _ _ (by simp <;> omega), World.cell?_setCell_other _ _ _ _ (by simp <;> omega)]; exact c
theorem better_int (p o : Plan) (a b c d : Int) (w : World) (ha : a = (p.many : Int)) (hb : b = (p.next : Int)) (hc : c = (o.many : Int)) (hd : d = (o.next : Int)) :
    Calls Try.prog 56 #[.agg #[.int .i64 p.sum, .int .i64 a, .int .i64 b], .agg #[.int .i64 o.sum, .int .i64 c, .int .i64 d]] w fun e w' => e = .returned (.bool (betterB p o)) ∧ Below w.heap.size w w' := by
  subst ha hb hc hd
  exact better_any p o w
theorem made3 (n j : Nat) (h : j < n * 3) : (madeCells (Value.agg #[.int .i64 0, .int .i64 0, .int .i64 0]).cells (n * 3)).toList[j]? = some (.int .i64 0) := by
  have hs : (madeCells (Value.agg #[.int .i64 0, .int .i64 0, .int .i64 0]).cells (n * 3)).size = n * 3 := size_madeCells _ _
  have h2 : j % 3 = 0 ∨ j % 3 = 1 ∨ j % 3 = 2 := by omega
  rw [Array.getElem?_toList, Array.getElem?_eq_getElem (by rw [hs]; exact h)]
  simp only [madeCells, Array.getElem_map, Array.getElem_range, Value.cells]
  rcases h2 with e | e | e <;> simp [e]
theorem PlAt.made {w : World} {base P n : Nat} {e : TypeId} (h : w.ownsRow base e 3 (.slice (some ⟨P, 0, none⟩) n n) n (madeCells (Value.agg #[.int .i64 0, .int .i64 0, .int .i64 0]).cells (n * 3)).toList) : PlAt w P n (fun _ => plan0) := fun j hj =>
  ⟨⟨by rw [World.ownsRow.cellAt h (j * 3) (by omega)]; exact made3 n _ (by omega), by rw [World.ownsRow.cellAt h (j * 3 + 1) (by omega)]; exact made3 n _ (by omega), by rw [World.ownsRow.cellAt h (j * 3 + 2) (by omega)]; exact made3 n _ (by omega)⟩,
    World.ownsRow.frozenAt h _, World.ownsRow.frozenAt h _, World.ownsRow.frozenAt h _⟩

end Go.Proofs.Ytgbdmgmbdjajeaa
