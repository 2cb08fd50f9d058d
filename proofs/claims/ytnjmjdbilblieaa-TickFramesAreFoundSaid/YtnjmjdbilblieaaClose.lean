/- TickConvertsAreClose: whatever the input, the law returns true. Plain facts first, then the walk. No conditions. -/
import Derived.Test.YtnjmjdbilblieaaTick
namespace Go.Proofs.Ytnjmjdbilblieaa
set_option linter.unusedVariables false
set_option linter.unusedSimpArgs false
open Go.RowKit

theorem cvtV_zero (n f t way : Int) (h : cvtF n f t way ≠ 0) : cvtV n f t way = 0 := by simp [cvtV, h]
theorem cvtV_eq (n f t way : Int) (h : cvtF n f t way = 0) : cvtV n f t way = portQ n t f way := by simp [cvtV, h]
theorem cvtF_ok (n f t way : Int) (h : cvtF n f t way = 0) : isTimeN n ∧ isScaleN f ∧ isScaleN t ∧ (1 ≤ way ∧ way ≤ 3) ∧ isTimeN (portQ n t f way) := by
  unfold cvtF at h
  split at h
  · omega
  · split at h
    · omega
    · split at h
      · omega
      · simp_all
theorem cvtF_cases (n f t way : Int) : cvtF n f t way = 0 ∨ cvtF n f t way = 1 ∨ cvtF n f t way = 4 := by
  unfold cvtF
  split
  · exact .inr (.inl rfl)
  · split
    · exact .inr (.inr rfl)
    · split
      · exact .inr (.inl rfl)
      · exact .inl rfl

/-- Rounded down, a result that is a time is the quotient. -/
theorem portQ_down (n m d : Int) (d0 : 0 < d) (h : isTimeN (portQ n m d 1)) : portQ n m d 1 = n * m / d := by
  have h2 := Int.mul_ediv_add_emod ((n.natAbs : Int) * m) d
  have h3 := Int.emod_nonneg ((n.natAbs : Int) * m) (show d ≠ 0 by omega)
  have h4 := Int.emod_lt_of_pos ((n.natAbs : Int) * m) d0
  unfold isTimeN at h
  simp only [portQ, growsB] at *
  generalize hq : (n.natAbs : Int) * m / d = q at *
  generalize hr : (n.natAbs : Int) * m % d = r at *
  by_cases hc : 4611686018427387904 ≤ q
  · simp only [if_pos hc] at h
    split at h <;> omega
  · simp only [if_neg hc, if_true] at h ⊢
    by_cases hn : n < 0
    · have hab : (n.natAbs : Int) = -n := by omega
      rw [hab] at h2
      have e : n * m = d * (-q) + (-r) := by rw [Int.neg_mul] at h2; rw [Int.mul_neg]; omega
      simp only [hn, if_true, decide_true, Bool.true_and, decide_eq_true_eq] at h ⊢
      rw [e, Int.add_comm (d * -q), Int.add_mul_ediv_left _ _ (by omega)]
      by_cases hr0 : 0 < r
      · have : -r / d = -1 := by
          rw [show -r = (d - r) + d * (-1) by omega, Int.add_mul_ediv_left _ _ (by omega), Int.ediv_eq_zero_of_lt (by omega) (by omega)]
          omega
        rw [if_pos hr0, this]; omega
      · have : r = 0 := by omega
        subst this
        simp
    · have hab : (n.natAbs : Int) = n := by omega
      rw [hab] at hq
      simp [hn, hq]

theorem portQ_close (n m d : Int) (d0 : 0 < d) (h1 : isTimeN (portQ n m d 1)) (h3 : isTimeN (portQ n m d 3)) (h2 : isTimeN (portQ n m d 2)) :
    portQ n m d 1 ≤ portQ n m d 3 ∧ portQ n m d 3 ≤ portQ n m d 1 + 1 ∧ (portQ n m d 2 = portQ n m d 1 ∨ portQ n m d 2 = portQ n m d 3) := by
  have k3 := Int.emod_nonneg ((n.natAbs : Int) * m) (show d ≠ 0 by omega)
  have k4 := Int.emod_lt_of_pos ((n.natAbs : Int) * m) d0
  unfold isTimeN at *
  simp only [portQ, growsB] at *
  generalize (n.natAbs : Int) * m / d = q at *
  generalize (n.natAbs : Int) * m % d = r at *
  by_cases hc : 4611686018427387904 ≤ q
  · simp only [if_pos hc] at h1
    split at h1 <;> omega
  · simp only [if_neg hc] at *
    by_cases hn : n < 0 <;> by_cases hr : 0 < r <;> by_cases hd : d ≤ 2 * r <;> simp [hn, hr, hd] <;> omega

theorem portQ_later (n m d : Int) (m0 : 0 ≤ m) (d0 : 0 < d) (h1 : isTimeN (portQ n m d 1)) (h2 : isTimeN (portQ (n + 1) m d 1)) : portQ n m d 1 ≤ portQ (n + 1) m d 1 := by
  rw [portQ_down _ _ _ d0 h1, portQ_down _ _ _ d0 h2]
  exact Int.ediv_le_ediv d0 (Int.mul_le_mul_of_nonneg_right (by omega) m0)

set_option maxHeartbeats 4000000 in
theorem close_fail (n f t : Int) (w : World) (hc : ¬ (cvtF n f t 1 = 0 ∧ cvtF n f t 3 = 0 ∧ cvtF n f t 2 = 0)) :
    Calls Try.prog 3 #[.int .i64 n, .int .i64 f, .int .i64 t] w fun e w' => e = .returned (.bool true) ∧ Grown w w' := by
  have z1 := cvtV_zero n f t 1
  have z2 := cvtV_zero n f t 2
  have z3 := cvtV_zero n f t 3
  obtain ⟨F1, hF1⟩ : ∃ F, cvtF n f t 1 = F := ⟨_, rfl⟩
  obtain ⟨F2, hF2⟩ : ∃ F, cvtF n f t 2 = F := ⟨_, rfl⟩
  obtain ⟨F3, hF3⟩ : ∃ F, cvtF n f t 3 = F := ⟨_, rfl⟩
  obtain ⟨V1, hV1⟩ : ∃ F, cvtV n f t 1 = F := ⟨_, rfl⟩
  obtain ⟨V2, hV2⟩ : ∃ F, cvtV n f t 2 = F := ⟨_, rfl⟩
  obtain ⟨V3, hV3⟩ : ∃ F, cvtV n f t 3 = F := ⟨_, rfl⟩
  rw [hF1, hF2, hF3] at hc
  rw [hF1, hV1] at z1; rw [hF2, hV2] at z2; rw [hF3, hV3] at z3
  have HF1 := Lib.hid hF1; have HF2 := Lib.hid hF2; have HF3 := Lib.hid hF3
  have HV1 := Lib.hid hV1; have HV2 := Lib.hid hV2; have HV3 := Lib.hid hV3
  clear hF1 hF2 hF3 hV1 hV2 hV3
  by_cases c1 : F1 = 0 <;> by_cases c2 : F2 = 0 <;> by_cases c3 : F3 = 0
  all_goals first | (exfalso; exact hc ⟨c1, c3, c2⟩) | skip
  all_goals
    first | subst c1 | (have q1 := z1 c1; subst q1; have b1 : (F1 == 0) = false := by simp [c1])
  all_goals
    first | subst c2 | (have q2 := z2 c2; subst q2; have b2 : (F2 == 0) = false := by simp [c2])
  all_goals
    first | subst c3 | (have q3 := z3 c3; subst q3; have b3 : (F3 == 0) = false := by simp [c3])
  all_goals
    clear hc z1 z2 z3
    go_enter Try.func3, Try.ntmps3
    go_wp2_with fail
    refine (convert_any _ _ _ _ _).mono ?_; rintro e w' ⟨rfl, k1, rfl⟩
    rw [HF1.out, HV1.out]
    go_wp2_with fail
    refine (convert_any _ _ _ _ _).mono ?_; rintro e w' ⟨rfl, k2, rfl⟩
    rw [HF3.out, HV3.out]
    go_wp2_with fail
    refine (convert_any _ _ _ _ _).mono ?_; rintro e w' ⟨rfl, k3, rfl⟩
    rw [HF2.out, HV2.out]
    go_wp2_with fail
    refine (awake_any _).mono ?_; rintro e w' ⟨rfl, k4, rfl⟩
    go_wp2_with fail
    go_ret
    exact ⟨rfl, by repeat (first | exact Grown.refl _ | apply Grown.drewN)⟩

set_option maxHeartbeats 2000000 in
theorem close_ok (n f t : Int) (w : World) (h1 : cvtF n f t 1 = 0) (h3 : cvtF n f t 3 = 0) (h2 : cvtF n f t 2 = 0) :
    Calls Try.prog 3 #[.int .i64 n, .int .i64 f, .int .i64 t] w fun e w' => e = .returned (.bool true) ∧ Grown w w' := by
  obtain ⟨g1, g2, g3, -, g4⟩ := cvtF_ok n f t 1 h1
  obtain ⟨-, -, -, -, g5⟩ := cvtF_ok n f t 3 h3
  obtain ⟨-, -, -, -, g6⟩ := cvtF_ok n f t 2 h2
  obtain ⟨f0, f1⟩ := g2
  obtain ⟨t0, t1⟩ := g3
  obtain ⟨n0, n1⟩ := g1
  have p := portQ_close n t f (by omega) g4 g5 g6
  have later : cvtF (n + 1) f t 1 = 0 → cvtV n f t 1 ≤ cvtV (n + 1) f t 1 := by
    intro h
    rw [cvtV_eq _ _ _ _ h1, cvtV_eq _ _ _ _ h]
    exact portQ_later n t f (by omega) (by omega) g4 (cvtF_ok _ _ _ _ h).2.2.2.2
  rw [← cvtV_eq n f t 1 h1, ← cvtV_eq n f t 3 h3, ← cvtV_eq n f t 2 h2] at p
  rw [← cvtV_eq n f t 1 h1] at g4
  unfold isTimeN at g4
  clear g5 g6
  obtain ⟨a, hA⟩ : ∃ F, cvtV n f t 1 = F := ⟨_, rfl⟩
  obtain ⟨c, hC⟩ : ∃ F, cvtV n f t 2 = F := ⟨_, rfl⟩
  obtain ⟨b, hB⟩ : ∃ F, cvtV n f t 3 = F := ⟨_, rfl⟩
  obtain ⟨d, hD⟩ : ∃ F, cvtV (n + 1) f t 1 = F := ⟨_, rfl⟩
  obtain ⟨g, hG⟩ : ∃ F, cvtF (n + 1) f t 1 = F := ⟨_, rfl⟩
  rw [hA, hB, hC] at p
  rw [hA, hD, hG] at later
  rw [hA] at g4
  have H1 := Lib.hid h1; have H2 := Lib.hid h2; have H3 := Lib.hid h3
  have HA := Lib.hid hA; have HB := Lib.hid hB; have HC := Lib.hid hC; have HD := Lib.hid hD; have HG := Lib.hid hG
  clear h1 h2 h3 hA hB hC hD hG
  obtain ⟨p1, p2, p3⟩ := p
  obtain ⟨g41, g42⟩ := g4
  have key : (¬ g = 0) ∨ (g = 0 ∧ a ≤ d) := by
    by_cases hg : g = 0
    · exact .inr ⟨hg, later hg⟩
    · exact .inl hg
  clear later
  by_cases hca : c = a
  · subst hca
    rcases key with key | ⟨rfl, key⟩
    all_goals
      go_enter Try.func3, Try.ntmps3
      go_wp2_with fail
      refine (convert_any _ _ _ _ _).mono ?_; rintro e w' ⟨rfl, k1, rfl⟩
      rw [H1.out, HA.out]
      go_wp2_with fail
      refine (convert_any _ _ _ _ _).mono ?_; rintro e w' ⟨rfl, k2, rfl⟩
      rw [H3.out, HB.out]
      go_wp2_with fail
      refine (convert_any _ _ _ _ _).mono ?_; rintro e w' ⟨rfl, k3, rfl⟩
      rw [H2.out, HC.out]
      go_wp2_with fail
      refine (convert_any _ _ _ _ _).mono ?_; rintro e w' ⟨rfl, k4, rfl⟩
      rw [HG.out, HD.out]
      go_wp2_with fail
      refine (awake_any _).mono ?_; rintro e w' ⟨rfl, k4, rfl⟩
      go_wp2_with fail
      go_ret
      exact ⟨rfl, by repeat (first | exact Grown.refl _ | apply Grown.drewN)⟩
  · have hcb : c = b := by omega
    subst hcb
    have b1 : (c == a) = false := by simp [hca]
    rcases key with key | ⟨rfl, key⟩
    all_goals
      go_enter Try.func3, Try.ntmps3
      go_wp2_with fail
      refine (convert_any _ _ _ _ _).mono ?_; rintro e w' ⟨rfl, k1, rfl⟩
      rw [H1.out, HA.out]
      go_wp2_with fail
      refine (convert_any _ _ _ _ _).mono ?_; rintro e w' ⟨rfl, k2, rfl⟩
      rw [H3.out, HB.out]
      go_wp2_with fail
      refine (convert_any _ _ _ _ _).mono ?_; rintro e w' ⟨rfl, k3, rfl⟩
      rw [H2.out, HC.out]
      go_wp2_with fail
      refine (convert_any _ _ _ _ _).mono ?_; rintro e w' ⟨rfl, k4, rfl⟩
      rw [HG.out, HD.out]
      go_wp2_with fail
      refine (awake_any _).mono ?_; rintro e w' ⟨rfl, k4, rfl⟩
      go_wp2_with fail
      go_ret
      exact ⟨rfl, by repeat (first | exact Grown.refl _ | apply Grown.drewN)⟩

theorem close_any (n f t : Int) (w : World) :
    Calls Try.prog 3 #[.int .i64 n, .int .i64 f, .int .i64 t] w fun e w' => e = .returned (.bool true) ∧ Grown w w' := by
  by_cases h : cvtF n f t 1 = 0 ∧ cvtF n f t 3 = 0 ∧ cvtF n f t 2 = 0
  · exact close_ok n f t w h.1 h.2.1 h.2.2
  · exact close_fail n f t w h

end Go.Proofs.Ytnjmjdbilblieaa
