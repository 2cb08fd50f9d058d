/- The reference's Turned and Convert: as the program's Convert. -/
import Derived.Test.YtppaklifacadpaaGreatDoorRoundW
import Derived.Test.YtppaklifacadpaaGreatDoorTick
namespace Go.Proofs.YtppaklifacadpaaGreatDoor
set_option linter.unusedVariables false
set_option linter.unusedSimpArgs false
open Go.RowKit

theorem rtime_yes (n : Int) (w : World) (h : isTimeN n) : Calls Tryz.prog 17 #[.int .i64 n] w fun e w' => e = .returned (.bool true) ∧ w = w' := by
  obtain ⟨h1, h2⟩ := h
  go_enter Tryz.func17, Tryz.ntmps17
  go_wp2
  go_ret
  exact ⟨ret_bool (by simp; try omega), rfl⟩
theorem rtime_no (n : Int) (w : World) (h : ¬ isTimeN n) : Calls Tryz.prog 17 #[.int .i64 n] w fun e w' => e = .returned (.bool false) ∧ w = w' := by
  by_cases h1 : -1000000000000000 ≤ n
  · have h2 : ¬ n ≤ 1000000000000000 := fun hx => h ⟨h1, hx⟩
    have h2' : decide (n ≤ 1000000000000000) = false := by simp only [decide_eq_false_iff_not]; exact h2
    clear h
    go_enter Tryz.func17, Tryz.ntmps17
    go_wp2
    go_ret
    exact ⟨ret_bool (by simp; try omega), rfl⟩
  · have h1' : decide (-1000000000000000 ≤ n) = false := by simp only [decide_eq_false_iff_not]; exact h1
    clear h
    go_enter Tryz.func17, Tryz.ntmps17
    go_wp2
    go_ret
    exact ⟨ret_bool (by simp; try omega), rfl⟩
theorem rscale_yes (n : Int) (w : World) (h : isScaleN n) : Calls Tryz.prog 18 #[.int .i64 n] w fun e w' => e = .returned (.bool true) ∧ w = w' := by
  obtain ⟨h1, h2⟩ := h
  go_enter Tryz.func18, Tryz.ntmps18
  go_wp2
  go_ret
  exact ⟨ret_bool (by simp; try omega), rfl⟩
theorem rscale_no (n : Int) (w : World) (h : ¬ isScaleN n) : Calls Tryz.prog 18 #[.int .i64 n] w fun e w' => e = .returned (.bool false) ∧ w = w' := by
  by_cases h1 : 1 ≤ n
  · have h2 : ¬ n ≤ 1000000000 := fun hx => h ⟨h1, hx⟩
    have h2' : decide (n ≤ 1000000000) = false := by simp only [decide_eq_false_iff_not]; exact h2
    clear h
    go_enter Tryz.func18, Tryz.ntmps18
    go_wp2
    go_ret
    exact ⟨ret_bool (by simp; try omega), rfl⟩
  · have h1' : decide (1 ≤ n) = false := by simp only [decide_eq_false_iff_not]; exact h1
    clear h
    go_enter Tryz.func18, Tryz.ntmps18
    go_wp2
    go_ret
    exact ⟨ret_bool (by simp; try omega), rfl⟩
theorem rway_yes (n : Int) (w : World) (h : 1 ≤ n ∧ n ≤ 3) : Calls Tryz.prog 29 #[.int .i64 n] w fun e w' => e = .returned (.bool true) ∧ w = w' := by
  have h3 : n = 1 ∨ n = 2 ∨ n = 3 := by omega
  clear h
  rcases h3 with rfl | rfl | rfl
  all_goals
    go_enter Tryz.func29, Tryz.ntmps29
    go_wp2
    go_ret
    exact ⟨rfl, rfl⟩
theorem rway_no (n : Int) (w : World) (h : ¬ (1 ≤ n ∧ n ≤ 3)) : Calls Tryz.prog 29 #[.int .i64 n] w fun e w' => e = .returned (.bool false) ∧ w = w' := by
  have e1 : (n == 1) = false := by simp; omega
  have e2 : (n == 2) = false := by simp; omega
  have e3 : (n == 3) = false := by simp; omega
  clear h
  go_enter Tryz.func29, Tryz.ntmps29
  go_wp2
  go_ret
  exact ⟨rfl, rfl⟩

set_option maxRecDepth 100000 in
set_option maxHeartbeats 4000000 in
theorem turned_num (n f t : Int) (w : World) (htab : Tab w) (n0 : -9223372036854775808 ≤ n) (n1 : n ≤ 9223372036854775807) (f0 : 0 < f) (f1 : f ≤ 9223372036854775807) (t0 : 0 ≤ t) (t1 : t ≤ 9223372036854775807) :
    Calls Tryz.prog 20 #[.int .i64 n, .int .i64 f, .int .i64 t] w fun e w' => (∃ r, e = .returned r ∧ NumR w' r (n * t) f 90) ∧ Below w.heap.size w w' := by
  have HT1 := Lib.hid (htab.below ((Below.refl w.heap.size w).alloc (Nat.le_refl _) numCell) (Nat.le_refl _))
  have HSZ : Hid ((w.alloc numCell).heap.size = w.heap.size + 1) := Lib.hid (by simp)
  have HN : Hid (-9223372036854775808 ≤ n ∧ n ≤ 9223372036854775807) := Lib.hid ⟨n0, n1⟩
  have HF : Hid (0 < f ∧ f ≤ 9223372036854775807) := Lib.hid ⟨f0, f1⟩
  have HT : Hid (0 ≤ t ∧ t ≤ 9223372036854775807) := Lib.hid ⟨t0, t1⟩
  clear htab n0 n1 f0 f1 t0 t1
  go_enter Tryz.func20, Tryz.ntmps20
  go_wp2_with fail
  refine (int_any n HN.out.1 HN.out.2 _ HT1.out).mono ?_
  rintro e w2 ⟨⟨r2, rfl, k2⟩, b2⟩
  have K2 := Lib.hid k2; have B2 := Lib.hid b2
  have HT2 := Lib.hid (HT1.out.below b2 (Nat.le_refl _))
  clear k2 b2
  go_wp2_with fail
  refine (int_any t (by have := HT.out.1; omega) HT.out.2 _ HT2.out).mono ?_
  rintro e w3 ⟨⟨r3, rfl, k3⟩, b3⟩
  have K2' := Lib.hid (K2.out.below b3 (Nat.le_refl _))
  have K3 := Lib.hid k3
  have B3 : Hid (Below (w.alloc numCell).heap.size (w.alloc numCell) w3) := Lib.hid (B2.out.trans (b3.mono B2.out.size))
  have HT3 := Lib.hid (HT2.out.below b3 (Nat.le_refl _))
  clear k3 b3
  go_wp2_with fail
  refine (times_num _ _ n 1 t 1 _ 30 30 K2'.out K3.out (by omega)).mono ?_
  rintro e w4 ⟨⟨r4, rfl, k4⟩, b4⟩
  have K4 := Lib.hid k4
  have B4 : Hid (Below (w.alloc numCell).heap.size (w.alloc numCell) w4) := Lib.hid (B3.out.trans (b4.mono B3.out.size))
  have HT4 := Lib.hid (HT3.out.below b4 (Nat.le_refl _))
  clear k4 b4
  go_wp2_with fail
  refine (int_any f (by have := HF.out.1; omega) HF.out.2 _ HT4.out).mono ?_
  rintro e w5 ⟨⟨r5, rfl, k5⟩, b5⟩
  have K4' := Lib.hid (K4.out.below b5 (Nat.le_refl _))
  have K5 := Lib.hid k5
  have B5 : Hid (Below (w.alloc numCell).heap.size (w.alloc numCell) w5) := Lib.hid (B4.out.trans (b5.mono B4.out.size))
  clear k5 b5
  go_wp2_with fail
  refine (over_num _ _ (n * t) (1 * 1) f 1 _ (30 + 30) 30 K4'.out K5.out HF.out.1 (by omega)).mono ?_
  rintro e w6 ⟨⟨r6, rfl, k6⟩, b6⟩
  have k6' : NumR w6 r6 (n * t) f 90 := by
    have := k6
    rw [Int.mul_one, Int.one_mul, Int.one_mul] at this
    exact this
  have B6 : Hid (Below (w.heap.size + 1) (w.alloc numCell) w6) := Lib.hid ((B5.out.trans (b6.mono B5.out.size)).mono (by rw [HSZ.out]; exact Nat.le_refl _))
  obtain ⟨sg, a8, n8, c8, a9, n9, c9, rfl⟩ := k6'.shape2
  have K6 := Lib.hid k6'
  obtain ⟨k0, k1, k2, f0, f1, f2, hni, hlt⟩ := num_cells B6.out
  clear k6 k6' b6 hni
  go_wp2_with fail
  (try simp only [Exit.inBlock, Exit.then]); refine bodyPost_ret (by simp [results, Tryz.results20, go_sem, k0, k1, k2]; try rfl) rfl ?_
  exact ⟨⟨_, rfl, K6.out.stored B6.out⟩, num_bel B6.out⟩

theorem port_rd (n t f way : Int) (t0 : 0 < t) (f0 : 0 < f) :
    (¬ isTimeN (portQ n t f way) ↔ 1000000000000000 < rdV (decide (n * t < 0)) way ((n * t).natAbs : Int) f) ∧
    (rdV (decide (n * t < 0)) way ((n * t).natAbs : Int) f ≤ 1000000000000000 → sgnI (decide (n * t < 0)) (rdV (decide (n * t < 0)) way ((n * t).natAbs : Int) f) = portQ n t f way) := by
  have e1 : ((n * t).natAbs : Int) = (n.natAbs : Int) * t := by
    rw [Int.natAbs_mul, Int.natCast_mul]; congr 1; omega
  have e2 : decide (n * t < 0) = decide (n < 0) := by
    apply decide_eq_decide.2
    constructor
    · intro h
      apply Decidable.byContradiction; intro hx
      have := Int.mul_nonneg (show 0 ≤ n by omega) (Int.le_of_lt t0)
      omega
    · intro h; exact Int.mul_neg_of_neg_of_pos h t0
  rw [e1, e2]
  have ha : 0 ≤ (n.natAbs : Int) * t / f := Int.ediv_nonneg (Int.mul_nonneg (by omega) (by omega)) (by omega)
  simp only [portQ, rdV, isTimeN, sgnI]
  generalize hg : growsB ((n.natAbs : Int) * t % f) f (decide (n < 0)) way = g
  generalize (n.natAbs : Int) * t / f = Q at ha ⊢
  by_cases hn : n < 0
  · simp only [hn, decide_true, if_true]
    cases g <;> simp <;> (split <;> omega)
  · simp only [hn, decide_false, if_false, Bool.false_eq_true]
    cases g <;> simp <;> (split <;> omega)

end Go.Proofs.YtppaklifacadpaaGreatDoor
