/- The reference's Over; Times and Over on fractions. -/
import Derived.Test.YtppaklifacadpaaGreatDoorNumTimes
namespace Go.Proofs.YtppaklifacadpaaGreatDoor
set_option linter.unusedVariables false
set_option linter.unusedSimpArgs false
open Go.RowKit

set_option maxRecDepth 100000 in
set_option maxHeartbeats 8000000 in
theorem numover_walk (s1 s2 : Bool) (a1 a2 a3 a4 : Option Addr) (n1 n2 n3 n4 c1 c2 c3 c4 : Nat) (z1 z2 z3 z4 : List Int) (w : World) (L M : Nat)
    (h1 : Lim w (.slice a1 n1 c1) z1) (h2 : Lim w (.slice a2 n2 c2) z2) (h3 : Lim w (.slice a3 n3 c3) z3) (h4 : Lim w (.slice a4 n4 c4) z4)
    (d1 : Canon z1) (d2 : Canon z2) (d3 : Canon z3) (d4 : Canon z4) (p2 : 0 < lval z2) (p3 : 0 < lval z3) (l1 : z1.length ≤ L) (l2 : z2.length ≤ L) (l3 : z3.length ≤ M) (l4 : z4.length ≤ M) (hLM : L + M ≤ 500) :
    Calls Tryz.prog 47 #[.agg #[.bool s1, .slice a1 n1 c1, .slice a2 n2 c2], .agg #[.bool s2, .slice a3 n3 c3, .slice a4 n4 c4]] w fun e w' =>
      (∃ r, e = .returned r ∧ NumR w' r (if (!(s1 == s2)) = true then -(lval z1 * lval z4) else lval z1 * lval z4) (lval z2 * lval z3) (L + M)) ∧ Below w.heap.size w w' := by
  obtain ⟨P, hP⟩ : ∃ P, (if (!(s1 == s2)) = true then -(lval z1 * lval z4) else lval z1 * lval z4) = P := ⟨_, rfl⟩
  rw [hP]
  have HPP := Lib.hid hP
  clear hP
  obtain ⟨W, hW⟩ : ∃ W, ((w.alloc (.cells #[.bool s1, .slice a1 n1 c1, .slice a2 n2 c2] 38)).alloc (.cells #[.bool s2, .slice a3 n3 c3, .slice a4 n4 c4] 38)).alloc numCell = W := ⟨_, rfl⟩
  have H1 := Lib.hid h1; have H2 := Lib.hid h2; have H3 := Lib.hid h3; have H4 := Lib.hid h4
  have D1 := Lib.hid d1; have D2 := Lib.hid d2; have D3 := Lib.hid d3; have D4 := Lib.hid d4
  clear h1 h2 h3 h4 d1 d2 d3 d4
  go_enter Tryz.func47, Tryz.ntmps47
  go_wp2_with fail
  have hWs : W.heap.size = w.heap.size + 3 := by rw [← hW]; simp
  have q1 : W.cell? ⟨w.heap.size, 0, none⟩ = some (.bool s1) := by rw [← hW, box_one]; simp
  have q2 : W.cell? ⟨w.heap.size, 1, none⟩ = some (.slice a1 n1 c1) := by rw [← hW, box_one]; simp
  have q3 : W.cell? ⟨w.heap.size, 2, none⟩ = some (.slice a2 n2 c2) := by rw [← hW, box_one]; simp
  have q4 : W.cell? ⟨w.heap.size + 1, 0, none⟩ = some (.bool s2) := by rw [← hW, box_two]; simp
  have q5 : W.cell? ⟨w.heap.size + 1, 1, none⟩ = some (.slice a3 n3 c3) := by rw [← hW, box_two]; simp
  have q6 : W.cell? ⟨w.heap.size + 1, 2, none⟩ = some (.slice a4 n4 c4) := by rw [← hW, box_two]; simp
  have HWB : Hid (Below w.heap.size w W) := Lib.hid (by rw [← hW]; exact (((Below.refl _ _).alloc (Nat.le_refl _) _).alloc (by simp) _).alloc (by simp; omega) _)
  have hw0 : Hid (Below ((w.alloc (.cells #[.bool s1, .slice a1 n1 c1, .slice a2 n2 c2] 38)).alloc (.cells #[.bool s2, .slice a3 n3 c3, .slice a4 n4 c4] 38)).heap.size.succ (((w.alloc (.cells #[.bool s1, .slice a1 n1 c1, .slice a2 n2 c2] 38)).alloc (.cells #[.bool s2, .slice a3 n3 c3, .slice a4 n4 c4] 38)).alloc numCell) W) := Lib.hid (by rw [hW]; exact Below.refl _ _)
  obtain ⟨w0, hw0e⟩ : ∃ w0, ((w.alloc (.cells #[.bool s1, .slice a1 n1 c1, .slice a2 n2 c2] 38)).alloc (.cells #[.bool s2, .slice a3 n3 c3, .slice a4 n4 c4] 38)) = w0 := ⟨_, rfl⟩
  have hs0 : w0.heap.size = w.heap.size + 1 + 1 := by rw [← hw0e]; simp
  have hb0 : Hid (Below w.heap.size w w0) := Lib.hid (by rw [← hw0e]; exact ((Below.refl _ _).alloc (Nat.le_refl _) _).alloc (by simp) _)
  rw [hw0e] at hw0
  clear hW hw0e
  have hl13 := l1; have hl24 := l3
  go_region_held3 (fun w' => w'.cell? ⟨w.heap.size, 0, none⟩ = some (.bool s1) ∧ w'.cell? ⟨w.heap.size, 1, none⟩ = some (.slice a1 n1 c1) ∧ w'.cell? ⟨w.heap.size, 2, none⟩ = some (.slice a2 n2 c2) ∧ w'.cell? ⟨w.heap.size + 1, 0, none⟩ = some (.bool s2) ∧ w'.cell? ⟨w.heap.size + 1, 1, none⟩ = some (.slice a3 n3 c3) ∧ w'.cell? ⟨w.heap.size + 1, 2, none⟩ = some (.slice a4 n4 c4))
    (first
      | (refine ⟨?_, ?_, ?_, ?_, ?_, ?_⟩ <;> (refine (far3 ?_).trans ?_; (dsimp only; omega); assumption))
      | (refine ⟨?_, ?_, ?_, ?_, ?_, ?_⟩ <;> (rw [b3.cell (by simp; omega)]; simp [*]; done))
      | (go_keep; done))
    (first
      | (go_at_call_of 61 n1
         refine (times_any _ _ z1 z4 _ ?g1 ?g2 D1.out.1 D4.out.1 ?g3 ?g4).mono ?_
         (case g1 => exact H1.out.below (by repeat (first | exact HWB.out | apply below_drewN | apply Below.drew)) (Nat.le_refl _))
         (case g2 => exact H4.out.below (by repeat (first | exact HWB.out | apply below_drewN | apply Below.drew)) (Nat.le_refl _))
         (case g3 => omega)
         (case g4 => omega)
         rintro e w3 ⟨⟨r3, rfl, xa, ta1, ta2, ta3, ta4⟩, b3⟩
         have TA1 := Lib.hid ta1
         have TA2 := Lib.hid ta2
         have TA3 := Lib.hid ta3
         have TA4 := Lib.hid ta4
         have BW3 : Hid (Below W.heap.size W w3) := Lib.hid (Below.trans (by repeat (first | exact Below.refl _ _ | apply below_drewN | apply Below.drew)) (b3.mono (by simp)))
         have hs3 : w.heap.size + 3 ≤ w3.heap.size := by have := BW3.out.size; omega
         clear ta1 ta2 ta3 ta4)
      | (go_at_call_of 61 n2
         refine (times_any _ _ z2 z3 _ ?g1 ?g2 D2.out.1 D3.out.1 ?g3 ?g4).mono ?_
         (case g1 => exact H2.out.below (HWB.out.trans (by repeat (first | exact BW3.out.mono (by omega) | apply below_drewN | apply Below.drew))) (Nat.le_refl _))
         (case g2 => exact H3.out.below (HWB.out.trans (by repeat (first | exact BW3.out.mono (by omega) | apply below_drewN | apply Below.drew))) (Nat.le_refl _))
         (case g3 => omega)
         (case g4 => omega)
         rintro e w5 ⟨⟨r5, rfl, xb, tb1, tb2, tb3, tb4⟩, b3⟩
         have TB1 := Lib.hid tb1
         have TB2 := Lib.hid tb2
         have TB3 := Lib.hid tb3
         have TB4 := Lib.hid tb4
         have TA5 := Lib.hid ((TA1.out.below (B := w3.heap.size) (by repeat (first | exact Below.refl _ _ | apply below_drewN | apply Below.drew)) (Nat.le_refl _)).below b3 (Nat.le_refl _))
         have BW5 : Hid (Below W.heap.size W w5) := Lib.hid (Below.trans (by repeat (first | exact BW3.out | apply below_drewN | apply Below.drew)) (b3.mono (by first | exact BW3.out.size | (simp; exact BW3.out.size))))
         have hs5 : w.heap.size + 3 ≤ w5.heap.size := by have := BW5.out.size; omega
         clear tb1 tb2 tb3 tb4)
      | (go_at_call 32
         refine (lowest_num _ _ _ xa xb _ (L + M) ?g1 ?g2 TA2.out TB2.out ?g3 ?g4 ?g5 hLM).mono ?_
         (case g1 => exact TA5.out.below (B := w5.heap.size) (by repeat (first | exact Below.refl _ _ | apply below_drewN | apply Below.drew)) (Nat.le_refl _))
         (case g2 => exact TB1.out.below (B := w5.heap.size) (by repeat (first | exact Below.refl _ _ | apply below_drewN | apply Below.drew)) (Nat.le_refl _))
         (case g3 => rw [TB3.out]; exact Int.mul_pos p2 p3)
         (case g4 => have := TA4.out; omega)
         (case g5 => have := TB4.out; omega)
         rintro e w7 ⟨⟨r7, rfl, hr⟩, b3⟩
         rw [TA3.out, TB3.out] at hr
         have BW7 : Hid (Below W.heap.size W w7) := Lib.hid (Below.trans (by repeat (first | exact BW5.out | apply below_drewN | apply Below.drew)) (b3.mono (by first | exact BW5.out.size | (simp; exact BW5.out.size))))
         have hs7 : w.heap.size + 3 ≤ w7.heap.size := by have := BW7.out.size; omega
         have B7 : Hid (Below (w0.heap.size + 1) (w0.alloc numCell) w7) := Lib.hid (hw0.out.trans (BW7.out.mono (by omega)))
         obtain ⟨sg, a8, n8, c8, a9, n9, c9, rfl⟩ := hr.shape2
         have HR := Lib.hid hr
         obtain ⟨k0, k1, k2, f0, f1, f2, hni, hlt⟩ := num_cells B7.out
         rw [hs0] at k0 k1 k2 f0 f1 f2
         have m1 : w7.cell? ⟨w.heap.size, 0, none⟩ = some (.bool s1) := by rw [BW7.out.cell (by show w.heap.size < _; omega)]; exact q1
         have m2 : w7.cell? ⟨w.heap.size, 1, none⟩ = some (.slice a1 n1 c1) := by rw [BW7.out.cell (by show w.heap.size < _; omega)]; exact q2
         have m3 : w7.cell? ⟨w.heap.size, 2, none⟩ = some (.slice a2 n2 c2) := by rw [BW7.out.cell (by show w.heap.size < _; omega)]; exact q3
         have m4 : w7.cell? ⟨w.heap.size + 1, 0, none⟩ = some (.bool s2) := by rw [BW7.out.cell (by show w.heap.size + 1 < _; omega)]; exact q4
         have m5 : w7.cell? ⟨w.heap.size + 1, 1, none⟩ = some (.slice a3 n3 c3) := by rw [BW7.out.cell (by show w.heap.size + 1 < _; omega)]; exact q5
         have m6 : w7.cell? ⟨w.heap.size + 1, 2, none⟩ = some (.slice a4 n4 c4) := by rw [BW7.out.cell (by show w.heap.size + 1 < _; omega)]; exact q6
         clear hr hni))
  all_goals
    go_wp2_with fail
    (try simp only [Exit.inBlock, Exit.then]); refine bodyPost_ret (by simp [results, Tryz.results47, go_sem, k0, k1, k2]; try rfl) rfl ?_
    have e1 := HR.out.stored B7.out
    have e2 := hb0.out.trans ((num_bel (a := .bool sg) (b := .slice a8 n8 c8) (c := .slice a9 n9 c9) B7.out).mono (by omega))
    rw [hs0] at e1 e2
    rw [HPP.out] at e1
    exact ⟨⟨_, rfl, e1⟩, e2⟩

theorem mul4 (a b c d : Int) : a * b * (c * d) = a * c * (b * d) := by rw [Int.mul_assoc, Int.mul_left_comm b, ← Int.mul_assoc]

theorem sgn_if (p x : Int) (hx : x = (p.natAbs : Int)) : (if decide (p < 0) = true then -x else x) = p := by
  subst hx
  by_cases h : p < 0
  · simp [h]; omega
  · simp [h]; omega

/-- The product with its sign. -/
theorem sgn_mul (p p' A A' : Int) (hA : 0 ≤ A) (hA' : 0 ≤ A') (h : p < 0 → 0 < A) (k : p' < 0 → 0 < A') :
    (if (!(decide (p < 0) == decide (p' < 0))) = true then -(A * A') else A * A') = (if p < 0 then -A else A) * (if p' < 0 then -A' else A') := by
  by_cases h1 : p < 0 <;> by_cases h2 : p' < 0 <;> simp [h1, h2, Int.neg_mul, Int.mul_neg, Int.neg_neg]

theorem pos_fac (a b : Int) (h : 0 < a * b) (ha : 0 ≤ a) : 0 < a := by
  rcases Int.lt_or_eq_of_le ha with h1 | h1
  · exact h1
  · rw [← h1] at h; simp at h

theorem times_num (u v : Value) (p q p' q' : Int) (w : World) (L M : Nat) (hu : NumR w u p q L) (hv : NumR w v p' q' M) (hLM : L + M ≤ 500) :
    Calls Tryz.prog 37 #[u, v] w fun e w' => (∃ r, e = .returned r ∧ NumR w' r (p * p') (q * q') (L + M)) ∧ Below w.heap.size w w' := by
  obtain ⟨hq, z1, z2, ⟨t1, b1, rfl, g1, g2, g3, g4, g5⟩, g6, g7, g8⟩ := hu
  obtain ⟨hq', z3, z4, ⟨t2, b2, rfl, k1, k2, k3, k4, k5⟩, k6, k7, k8⟩ := hv
  obtain ⟨a1, c1, rfl, -, -⟩ := g1.parts
  obtain ⟨a2, c2, rfl, -, -⟩ := g2.parts
  obtain ⟨a3, c3, rfl, -, -⟩ := k1.parts
  obtain ⟨a4, c4, rfl, -, -⟩ := k2.parts
  refine (numtimes_walk _ _ a1 a2 a3 a4 _ _ _ _ c1 c2 c3 c4 z1 z2 z3 z4 w L M g1 g2 k1 k2 g3 g4 k3 k4 g5 k5 g7 g8 k7 k8 hLM).mono ?_
  rintro e w' ⟨⟨r, rfl, hr⟩, b⟩
  refine ⟨⟨r, rfl, hr.congr (Int.mul_pos hq hq') ?_⟩, b⟩
  have n1 := (lval_bd z1 g3.1).1
  have n3 := (lval_bd z3 k3.1).1
  have e1 : (if p < 0 then -lval z1 else lval z1) * q = p * lval z2 := by
    by_cases h : p < 0
    · rw [if_pos h, Int.neg_mul, g6, ← Int.neg_mul]; congr 1; omega
    · rw [if_neg h, g6]; congr 1; omega
  have e3 : (if p' < 0 then -lval z3 else lval z3) * q' = p' * lval z4 := by
    by_cases h : p' < 0
    · rw [if_pos h, Int.neg_mul, k6, ← Int.neg_mul]; congr 1; omega
    · rw [if_neg h, k6]; congr 1; omega
  rw [sgn_mul p p' _ _ n1 n3 (fun h => ?_) (fun h => ?_)]
  · generalize (if p < 0 then -lval z1 else lval z1) = A at e1 ⊢
    generalize (if p' < 0 then -lval z3 else lval z3) = C at e3 ⊢
    rw [mul4, e1, e3, mul4]
  · have := Int.mul_pos (show (0 : Int) < p.natAbs by omega) g5
    rw [← g6] at this
    exact pos_fac _ _ this n1
  · have := Int.mul_pos (show (0 : Int) < p'.natAbs by omega) k5
    rw [← k6] at this
    exact pos_fac _ _ this n3

theorem over_num (u v : Value) (p q p' q' : Int) (w : World) (L M : Nat) (hu : NumR w u p q L) (hv : NumR w v p' q' M) (hp : 0 < p') (hLM : L + M ≤ 500) :
    Calls Tryz.prog 47 #[u, v] w fun e w' => (∃ r, e = .returned r ∧ NumR w' r (p * q') (q * p') (L + M)) ∧ Below w.heap.size w w' := by
  obtain ⟨hq, z1, z2, ⟨t1, b1, rfl, g1, g2, g3, g4, g5⟩, g6, g7, g8⟩ := hu
  obtain ⟨hq', z3, z4, ⟨t2, b2, rfl, k1, k2, k3, k4, k5⟩, k6, k7, k8⟩ := hv
  obtain ⟨a1, c1, rfl, -, -⟩ := g1.parts
  obtain ⟨a2, c2, rfl, -, -⟩ := g2.parts
  obtain ⟨a3, c3, rfl, -, -⟩ := k1.parts
  obtain ⟨a4, c4, rfl, -, -⟩ := k2.parts
  have n3 : 0 < lval z3 := by
    have := Int.mul_pos (show (0 : Int) < p'.natAbs by omega) k5
    rw [← k6] at this
    exact pos_fac _ _ this (lval_bd z3 k3.1).1
  refine (numover_walk _ _ a1 a2 a3 a4 _ _ _ _ c1 c2 c3 c4 z1 z2 z3 z4 w L M g1 g2 k1 k2 g3 g4 k3 k4 g5 n3 g7 g8 k7 k8 hLM).mono ?_
  rintro e w' ⟨⟨r, rfl, hr⟩, b⟩
  refine ⟨⟨r, rfl, hr.congr (Int.mul_pos hq hp) ?_⟩, b⟩
  have e3 : lval z3 * q' = p' * lval z4 := by rw [k6]; congr 1; omega
  have e1 : (if p < 0 then -lval z1 else lval z1) * q = p * lval z2 := by
    by_cases h : p < 0
    · rw [if_pos h, Int.neg_mul, g6, ← Int.neg_mul]; congr 1; omega
    · rw [if_neg h, g6]; congr 1; omega
  have e2 : (if (!(decide (p < 0) == decide (p' < 0))) = true then -(lval z1 * lval z4) else lval z1 * lval z4) = (if p < 0 then -lval z1 else lval z1) * lval z4 := by
    have h2 : ¬ p' < 0 := by omega
    by_cases h1 : p < 0 <;> simp [h1, h2, Int.neg_mul]
  rw [e2]
  generalize (if p < 0 then -lval z1 else lval z1) = A at e1 ⊢
  rw [mul4, e1, Int.mul_comm (lval z4), ← e3]
  ac_rfl

end Go.Proofs.YtppaklifacadpaaGreatDoor
