/- The reference's Times and Over: fractions. -/
import Derived.Test.YtppaklifacadpaaGreatDoorNumR
import Derived.Deep.RegionHeld3
namespace Go.Proofs.YtppaklifacadpaaGreatDoor
set_option linter.unusedVariables false
set_option linter.unusedSimpArgs false
open Go.RowKit

theorem NumR.shape2 {w : World} {v : Value} {p q : Int} {L : Nat} (h : NumR w v p q L) : ∃ sg a n c a' n' c', v = .agg #[.bool sg, .slice a n c, .slice a' n' c'] := ⟨_, h.shape⟩

theorem far3 {W : World} {g : Nat} {a b c : Value} {p : Addr} (h : p.block < g) : (((W.setCell ⟨g, 0, none⟩ a).setCell ⟨g, 1, none⟩ b).setCell ⟨g, 2, none⟩ c).cell? p = W.cell? p :=
  Below.cell (B := g) ((((Below.refl g W).setCell (p := ⟨g, 0, none⟩) (Nat.le_refl _) a).setCell (p := ⟨g, 1, none⟩) (Nat.le_refl _) b).setCell (p := ⟨g, 2, none⟩) (Nat.le_refl _) c) h
theorem box_one (w : World) (o2 o3 : Obj) (c1 : Array Value) (t : TypeId) (j : Nat) : (((w.alloc (.cells c1 t)).alloc o2).alloc o3).cell? ⟨w.heap.size, j, none⟩ = c1[j]? := by
  have h : Below (w.heap.size + 1) (w.alloc (.cells c1 t)) (((w.alloc (.cells c1 t)).alloc o2).alloc o3) := ((Below.refl _ _).alloc (by simp) _).alloc (by simp) _
  rw [h.cell (by show w.heap.size < _; omega), World.cell?_alloc_new]
theorem box_two (w : World) (o1 o3 : Obj) (c2 : Array Value) (t : TypeId) (j : Nat) : (((w.alloc o1).alloc (.cells c2 t)).alloc o3).cell? ⟨w.heap.size + 1, j, none⟩ = c2[j]? := by
  have h : Below (w.heap.size + 1 + 1) ((w.alloc o1).alloc (.cells c2 t)) (((w.alloc o1).alloc (.cells c2 t)).alloc o3) := (Below.refl _ _).alloc (by simp) _
  rw [h.cell (by show w.heap.size + 1 < _; omega)]
  simp

set_option maxRecDepth 100000 in
set_option maxHeartbeats 8000000 in
theorem numtimes_walk (s1 s2 : Bool) (a1 a2 a3 a4 : Option Addr) (n1 n2 n3 n4 c1 c2 c3 c4 : Nat) (z1 z2 z3 z4 : List Int) (w : World) (L M : Nat)
    (h1 : Lim w (.slice a1 n1 c1) z1) (h2 : Lim w (.slice a2 n2 c2) z2) (h3 : Lim w (.slice a3 n3 c3) z3) (h4 : Lim w (.slice a4 n4 c4) z4)
    (d1 : Canon z1) (d2 : Canon z2) (d3 : Canon z3) (d4 : Canon z4) (p2 : 0 < lval z2) (p4 : 0 < lval z4) (l1 : z1.length ≤ L) (l2 : z2.length ≤ L) (l3 : z3.length ≤ M) (l4 : z4.length ≤ M) (hLM : L + M ≤ 500) :
    Calls Tryz.prog 37 #[.agg #[.bool s1, .slice a1 n1 c1, .slice a2 n2 c2], .agg #[.bool s2, .slice a3 n3 c3, .slice a4 n4 c4]] w fun e w' =>
      (∃ r, e = .returned r ∧ NumR w' r (if (!(s1 == s2)) = true then -(lval z1 * lval z3) else lval z1 * lval z3) (lval z2 * lval z4) (L + M)) ∧ Below w.heap.size w w' := by
  obtain ⟨P, hP⟩ : ∃ P, (if (!(s1 == s2)) = true then -(lval z1 * lval z3) else lval z1 * lval z3) = P := ⟨_, rfl⟩
  rw [hP]
  have HPP := Lib.hid hP
  clear hP
  obtain ⟨W, hW⟩ : ∃ W, ((w.alloc (.cells #[.bool s1, .slice a1 n1 c1, .slice a2 n2 c2] 38)).alloc (.cells #[.bool s2, .slice a3 n3 c3, .slice a4 n4 c4] 38)).alloc numCell = W := ⟨_, rfl⟩
  have H1 := Lib.hid h1; have H2 := Lib.hid h2; have H3 := Lib.hid h3; have H4 := Lib.hid h4
  have D1 := Lib.hid d1; have D2 := Lib.hid d2; have D3 := Lib.hid d3; have D4 := Lib.hid d4
  clear h1 h2 h3 h4 d1 d2 d3 d4
  go_enter Tryz.func37, Tryz.ntmps37
  go_wp2_with fail
  have hWs : W.heap.size = w.heap.size + 3 := by rw [← hW]; simp
  have q1 : W.cell? ⟨w.heap.size, 0, none⟩ = some (.bool s1) := by rw [← hW, box_one]; simp
  have q2 : W.cell? ⟨w.heap.size, 1, none⟩ = some (.slice a1 n1 c1) := by rw [← hW, box_one]; simp
  have q3 : W.cell? ⟨w.heap.size, 2, none⟩ = some (.slice a2 n2 c2) := by rw [← hW, box_one]; simp
  have q4 : W.cell? ⟨w.heap.size + 1, 0, none⟩ = some (.bool s2) := by rw [← hW, box_two]; simp
  have q5 : W.cell? ⟨w.heap.size + 1, 1, none⟩ = some (.slice a3 n3 c3) := by rw [← hW, box_two]; simp
  have q6 : W.cell? ⟨w.heap.size + 1, 2, none⟩ = some (.slice a4 n4 c4) := by rw [← hW, box_two]; simp
  have HWB : Hid (Below w.heap.size w W) := Lib.hid (by rw [← hW]; exact (((Below.refl _ _).alloc (Nat.le_refl _) _).alloc (by simp) _).alloc (by simp; omega) _)
  have hw0 : Hid (Below ((w.alloc (.cells #[.bool s1, .slice a1 n1 c1, .slice a2 n2 c2] 38)).alloc (.cells #[.bool s2, .slice a3 n3 c3, .slice a4 n4 c4] 38)).heap.size.succ (((w.alloc (.cells #[.bool s1, .slice a1 n1 c1, .slice a2 n2 c2] 38)).alloc (.cells #[.bool s2, .slice a3 n3 c3, .slice a4 n4 c4] 38)).alloc numCell) W) := Lib.hid (by rw [hW]; exact Below.refl _ _)
  obtain ⟨w0, hw0e⟩ : ∃ w0, ((w.alloc (.cells #[.bool s1, .slice a1 n1 c1, .slice a2 n2 c2] 38)).alloc (.cells #[.bool s2, .slice a3 n3 c3, .slice a4 n4 c4] 38)) = w0 := ⟨_, rfl⟩
  have hs0 : w0.heap.size = w.heap.size + 1 + 1 := by rw [← hw0e]; simp
  have hb0 : Hid (Below w.heap.size w w0) := Lib.hid (by rw [← hw0e]; exact ((Below.refl _ _).alloc (Nat.le_refl _) _).alloc (by simp) _)
  rw [hw0e] at hw0
  clear hW hw0e
  have hl13 := l1; have hl24 := l3
  go_region_held3 (fun w' => w'.cell? ⟨w.heap.size, 0, none⟩ = some (.bool s1) ∧ w'.cell? ⟨w.heap.size, 1, none⟩ = some (.slice a1 n1 c1) ∧ w'.cell? ⟨w.heap.size, 2, none⟩ = some (.slice a2 n2 c2) ∧ w'.cell? ⟨w.heap.size + 1, 0, none⟩ = some (.bool s2) ∧ w'.cell? ⟨w.heap.size + 1, 1, none⟩ = some (.slice a3 n3 c3) ∧ w'.cell? ⟨w.heap.size + 1, 2, none⟩ = some (.slice a4 n4 c4))
    (first
      | (refine ⟨?_, ?_, ?_, ?_, ?_, ?_⟩ <;> (refine (far3 ?_).trans ?_; (dsimp only; omega); assumption))
      | (refine ⟨?_, ?_, ?_, ?_, ?_, ?_⟩ <;> (rw [b3.cell (by simp; omega)]; simp [*]; done))
      | (go_keep; done))
    (first
      | (go_at_call_of 61 n1
         refine (times_any _ _ z1 z3 _ ?g1 ?g2 D1.out.1 D3.out.1 ?g3 ?g4).mono ?_
         (case g1 => exact H1.out.below (by repeat (first | exact HWB.out | apply below_drewN | apply Below.drew)) (Nat.le_refl _))
         (case g2 => exact H3.out.below (by repeat (first | exact HWB.out | apply below_drewN | apply Below.drew)) (Nat.le_refl _))
         (case g3 => omega)
         (case g4 => omega)
         rintro e w3 ⟨⟨r3, rfl, xa, ta1, ta2, ta3, ta4⟩, b3⟩
         have TA1 := Lib.hid ta1
         have TA2 := Lib.hid ta2
         have TA3 := Lib.hid ta3
         have TA4 := Lib.hid ta4
         have BW3 : Hid (Below W.heap.size W w3) := Lib.hid (Below.trans (by repeat (first | exact Below.refl _ _ | apply below_drewN | apply Below.drew)) (b3.mono (by simp)))
         have hs3 : w.heap.size + 3 ≤ w3.heap.size := by have := BW3.out.size; omega
         clear ta1 ta2 ta3 ta4)
      | (go_at_call_of 61 n2
         refine (times_any _ _ z2 z4 _ ?g1 ?g2 D2.out.1 D4.out.1 ?g3 ?g4).mono ?_
         (case g1 => exact H2.out.below (HWB.out.trans (by repeat (first | exact BW3.out.mono (by omega) | apply below_drewN | apply Below.drew))) (Nat.le_refl _))
         (case g2 => exact H4.out.below (HWB.out.trans (by repeat (first | exact BW3.out.mono (by omega) | apply below_drewN | apply Below.drew))) (Nat.le_refl _))
         (case g3 => omega)
         (case g4 => omega)
         rintro e w5 ⟨⟨r5, rfl, xb, tb1, tb2, tb3, tb4⟩, b3⟩
         have TB1 := Lib.hid tb1
         have TB2 := Lib.hid tb2
         have TB3 := Lib.hid tb3
         have TB4 := Lib.hid tb4
         have TA5 := Lib.hid ((TA1.out.below (B := w3.heap.size) (by repeat (first | exact Below.refl _ _ | apply below_drewN | apply Below.drew)) (Nat.le_refl _)).below b3 (Nat.le_refl _))
         have BW5 : Hid (Below W.heap.size W w5) := Lib.hid (Below.trans (by repeat (first | exact BW3.out | apply below_drewN | apply Below.drew)) (b3.mono (by first | exact BW3.out.size | (simp; exact BW3.out.size))))
         have hs5 : w.heap.size + 3 ≤ w5.heap.size := by have := BW5.out.size; omega
         clear tb1 tb2 tb3 tb4)
      | (go_at_call 32
         refine (lowest_num _ _ _ xa xb _ (L + M) ?g1 ?g2 TA2.out TB2.out ?g3 ?g4 ?g5 hLM).mono ?_
         (case g1 => exact TA5.out.below (B := w5.heap.size) (by repeat (first | exact Below.refl _ _ | apply below_drewN | apply Below.drew)) (Nat.le_refl _))
         (case g2 => exact TB1.out.below (B := w5.heap.size) (by repeat (first | exact Below.refl _ _ | apply below_drewN | apply Below.drew)) (Nat.le_refl _))
         (case g3 => rw [TB3.out]; exact Int.mul_pos p2 p4)
         (case g4 => have := TA4.out; omega)
         (case g5 => have := TB4.out; omega)
         rintro e w7 ⟨⟨r7, rfl, hr⟩, b3⟩
         rw [TA3.out, TB3.out] at hr
         have BW7 : Hid (Below W.heap.size W w7) := Lib.hid (Below.trans (by repeat (first | exact BW5.out | apply below_drewN | apply Below.drew)) (b3.mono (by first | exact BW5.out.size | (simp; exact BW5.out.size))))
         have hs7 : w.heap.size + 3 ≤ w7.heap.size := by have := BW7.out.size; omega
         have B7 : Hid (Below (w0.heap.size + 1) (w0.alloc numCell) w7) := Lib.hid (hw0.out.trans (BW7.out.mono (by omega)))
         obtain ⟨sg, a8, n8, c8, a9, n9, c9, rfl⟩ := hr.shape2
         have HR := Lib.hid hr
         obtain ⟨k0, k1, k2, f0, f1, f2, hni, hlt⟩ := num_cells B7.out
         rw [hs0] at k0 k1 k2 f0 f1 f2
         have m1 : w7.cell? ⟨w.heap.size, 0, none⟩ = some (.bool s1) := by rw [BW7.out.cell (by show w.heap.size < _; omega)]; exact q1
         have m2 : w7.cell? ⟨w.heap.size, 1, none⟩ = some (.slice a1 n1 c1) := by rw [BW7.out.cell (by show w.heap.size < _; omega)]; exact q2
         have m3 : w7.cell? ⟨w.heap.size, 2, none⟩ = some (.slice a2 n2 c2) := by rw [BW7.out.cell (by show w.heap.size < _; omega)]; exact q3
         have m4 : w7.cell? ⟨w.heap.size + 1, 0, none⟩ = some (.bool s2) := by rw [BW7.out.cell (by show w.heap.size + 1 < _; omega)]; exact q4
         have m5 : w7.cell? ⟨w.heap.size + 1, 1, none⟩ = some (.slice a3 n3 c3) := by rw [BW7.out.cell (by show w.heap.size + 1 < _; omega)]; exact q5
         have m6 : w7.cell? ⟨w.heap.size + 1, 2, none⟩ = some (.slice a4 n4 c4) := by rw [BW7.out.cell (by show w.heap.size + 1 < _; omega)]; exact q6
         clear hr hni))
  all_goals
    go_wp2_with fail
    (try simp only [Exit.inBlock, Exit.then]); refine bodyPost_ret (by simp [results, Tryz.results37, go_sem, k0, k1, k2]; try rfl) rfl ?_
    have e1 := HR.out.stored B7.out
    have e2 := hb0.out.trans ((num_bel (a := .bool sg) (b := .slice a8 n8 c8) (c := .slice a9 n9 c9) B7.out).mono (by omega))
    rw [hs0] at e1 e2
    rw [HPP.out] at e1
    exact ⟨⟨_, rfl, e1⟩, e2⟩

end Go.Proofs.YtppaklifacadpaaGreatDoor
