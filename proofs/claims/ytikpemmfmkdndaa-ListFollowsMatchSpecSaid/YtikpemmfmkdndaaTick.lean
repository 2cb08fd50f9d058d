/- tick.portion, tick.Convert and the law's own 'awake'. -/
import Derived.Test.YtikpemmfmkdndaaDiv
namespace Go.Proofs.Ytikpemmfmkdndaa
set_option linter.unusedVariables false
set_option linter.unusedSimpArgs false
open Go.RowKit

theorem mul64_ex (x y : Int) (w : World) (hx : 0 ≤ x) (hx2 : x < 18446744073709551616) (hy : 0 ≤ y) (hy2 : y < 18446744073709551616) :
    Calls Try.prog 101 #[.int .u64 x, .int .u64 y] w fun e w' => (∃ h l : Int, 0 ≤ h ∧ h < 18446744073709551616 ∧ 0 ≤ l ∧ l ≤ 18446744073709551615 ∧ Hid (h * 18446744073709551616 + l = x * y) ∧ e = .returned (.tuple #[.int .u64 h, .int .u64 l])) ∧ w = w' := by
  obtain ⟨a, rfl⟩ := Int.eq_ofNat_of_zero_le hx
  obtain ⟨b, rfl⟩ := Int.eq_ofNat_of_zero_le hy
  refine (Try.bits_Mul64 a b (by omega) (by omega) w).mono ?_
  rintro e w' ⟨rfl, rfl⟩
  have h1 : a * b < 18446744073709551616 * 18446744073709551616 := Nat.mul_lt_mul_of_lt_of_le (by omega) (by omega) (by omega)
  refine ⟨⟨_, _, by omega, by omega, by omega, by omega, Lib.hid ?_, rfl⟩, rfl⟩
  have : ((a * b : Nat) : Int) = (a : Int) * b := by simp
  omega

theorem div64_ex (h l y : Int) (w : World) (h0 : 0 ≤ h) (l0 : 0 ≤ l) (l1 : l ≤ 18446744073709551615) (hy : h < y) (hy2 : y ≤ 18446744073709551615) :
    Calls Try.prog 104 #[.int .u64 h, .int .u64 l, .int .u64 y] w fun e w' => (∃ q r : Int, 0 ≤ q ∧ q < 18446744073709551616 ∧ 0 ≤ r ∧ r < y ∧ Hid ((h * 18446744073709551616 + l) / y = q) ∧ Hid ((h * 18446744073709551616 + l) % y = r) ∧ e = .returned (.tuple #[.int .u64 q, .int .u64 r])) ∧ ∃ n, w' = w.drewN n := by
  have q0 : 0 ≤ (h * 18446744073709551616 + l) / y := Int.ediv_nonneg (by omega) (by omega)
  have q1 : (h * 18446744073709551616 + l) / y < 18446744073709551616 := by
    rw [Int.ediv_lt_iff_lt_mul (by omega)]
    have : (h + 1) * 18446744073709551616 ≤ y * 18446744073709551616 := Int.mul_le_mul_of_nonneg_right hy (by omega)
    rw [Int.mul_comm 18446744073709551616 y]
    omega
  have r0 := Int.emod_nonneg (h * 18446744073709551616 + l) (show y ≠ 0 by omega)
  have r1 := Int.emod_lt_of_pos (h * 18446744073709551616 + l) (show 0 < y by omega)
  by_cases hz : h = 0
  · subst hz
    refine (div64_zero l y w l0 l1 hy hy2).mono ?_
    rintro e w' ⟨rfl, hw⟩
    exact ⟨⟨_, _, q0, q1, r0, r1, Lib.hid rfl, Lib.hid rfl, by simp⟩, hw⟩
  · refine (div64_pos h l y w (by omega) l0 l1 hy hy2).mono ?_
    rintro e w' ⟨rfl, hw⟩
    exact ⟨⟨_, _, q0, q1, r0, r1, Lib.hid rfl, Lib.hid rfl, rfl⟩, hw⟩

/-- n times m over d, rounded by a way, cut at 2^62. -/
def portQ (n m d way : Int) : Int :=
  let a := (n.natAbs : Int) * m
  let v := if 4611686018427387904 ≤ a / d then 4611686018427387904 else if growsB (a % d) d (decide (n < 0)) way then a / d + 1 else a / d
  if n < 0 then -v else v

theorem port_far (n m d way h l : Int) (hl : 0 ≤ l) (hd : 0 < d) (hh : d ≤ h) (ha : h * 18446744073709551616 + l = (n.natAbs : Int) * m) :
    portQ n m d way = if n < 0 then -4611686018427387904 else 4611686018427387904 := by
  have : 4611686018427387904 ≤ (n.natAbs : Int) * m / d := by
    rw [Int.le_ediv_iff_mul_le hd, ← ha]
    omega
  simp only [portQ, if_pos this]

theorem port_near (n m d way q r h l : Int) (ha : h * 18446744073709551616 + l = (n.natAbs : Int) * m) (hq : (h * 18446744073709551616 + l) / d = q) (hr : (h * 18446744073709551616 + l) % d = r) :
    portQ n m d way = if n < 0 then -(if 4611686018427387904 ≤ q then 4611686018427387904 else if growsB r d (decide (n < 0)) way then q + 1 else q) else (if 4611686018427387904 ≤ q then 4611686018427387904 else if growsB r d (decide (n < 0)) way then q + 1 else q) := by
  rw [ha] at hq hr
  simp only [portQ, hq, hr]

set_option maxHeartbeats 1000000 in
theorem portion_any (n m d way : Int) (w : World) (n0 : -9223372036854775807 ≤ n) (n1 : n ≤ 9223372036854775807) (m0 : 0 ≤ m) (m1 : m ≤ 9223372036854775807) (d0 : 0 < d) (d1 : d ≤ 9223372036854775807) :
    Calls Try.prog 89 #[.int .i64 n, .int .i64 m, .int .i64 d, .int .i64 way] w fun e w' => e = .returned (.int .i64 (portQ n m d way)) ∧ ∃ k, w' = w.drewN k := by
  by_cases hn : n < 0
  · have hng : decide (n < 0) = true := by simp [hn]
    go_enter Try.func89, Try.ntmps89
    go_wp2_with (first | (go_at_call 102; refine (size_any _ _ (by omega) (by omega)).mono ?_; rintro e w' ⟨rfl, rfl⟩) | (go_at_call 101; refine (mul64_ex _ _ _ (by omega) (by omega) (by omega) (by omega)).mono ?_; rintro e w' ⟨⟨h, l, hh0, hh1, hl0, hl1, HA, rfl⟩, rfl⟩) | (go_at_call 104; refine (div64_ex _ _ _ _ (by omega) (by omega) (by omega) (by omega) (by omega)).mono ?_; rintro e w' ⟨⟨q, r, hq0, hq1, hr0, hr1, HQ, HR, rfl⟩, k, rfl⟩) | (go_at_call 105; refine (growsBy_any _ _ _ _ _ (by omega) (by omega) (by omega)).mono ?_; rintro e w' ⟨rfl, rfl⟩) | (go_at_call 103; refine (signed_yes _ _ (by omega) (by omega)).mono ?_; rintro e w' ⟨rfl, rfl⟩))
    all_goals go_ret
    · exact ⟨ret_int (by rw [port_far n m d way h l hl0 d0 ‹_› HA.out, if_pos hn]), 0, rfl⟩
    · exact ⟨ret_int (by rw [port_near n m d way q r h l HA.out HQ.out HR.out, if_pos hn, if_pos ‹4611686018427387904 ≤ q›]), _, rfl⟩
    · exact ⟨ret_int (by rw [port_near n m d way q r h l HA.out HQ.out HR.out, if_pos hn, if_neg (by omega), hng, if_pos ‹growsB r d true way = true›]), _, rfl⟩
    · exact ⟨ret_int (by rw [port_near n m d way q r h l HA.out HQ.out HR.out, if_pos hn, if_neg (by omega), hng, if_neg (by simp only [‹growsB r d true way = false›]; decide)]), _, rfl⟩
  · have hng : decide (n < 0) = false := by simp [hn]
    go_enter Try.func89, Try.ntmps89
    go_wp2_with (first | (go_at_call 102; refine (size_any _ _ (by omega) (by omega)).mono ?_; rintro e w' ⟨rfl, rfl⟩) | (go_at_call 101; refine (mul64_ex _ _ _ (by omega) (by omega) (by omega) (by omega)).mono ?_; rintro e w' ⟨⟨h, l, hh0, hh1, hl0, hl1, HA, rfl⟩, rfl⟩) | (go_at_call 104; refine (div64_ex _ _ _ _ (by omega) (by omega) (by omega) (by omega) (by omega)).mono ?_; rintro e w' ⟨⟨q, r, hq0, hq1, hr0, hr1, HQ, HR, rfl⟩, k, rfl⟩) | (go_at_call 105; refine (growsBy_any _ _ _ _ _ (by omega) (by omega) (by omega)).mono ?_; rintro e w' ⟨rfl, rfl⟩) | (go_at_call 103; refine (signed_no _ _).mono ?_; rintro e w' ⟨rfl, rfl⟩))
    all_goals go_ret
    · exact ⟨ret_int (by rw [port_far n m d way h l hl0 d0 ‹_› HA.out, if_neg (show ¬ n < 0 by omega)]), 0, rfl⟩
    · exact ⟨ret_int (by rw [port_near n m d way q r h l HA.out HQ.out HR.out, if_neg (show ¬ n < 0 by omega), if_pos ‹4611686018427387904 ≤ q›]), _, rfl⟩
    · exact ⟨ret_int (by rw [port_near n m d way q r h l HA.out HQ.out HR.out, if_neg (show ¬ n < 0 by omega), if_neg (by omega), hng, if_pos ‹growsB r d false way = true›]), _, rfl⟩
    · exact ⟨ret_int (by rw [port_near n m d way q r h l HA.out HQ.out HR.out, if_neg (show ¬ n < 0 by omega), if_neg (by omega), hng, if_neg (by simp only [‹growsB r d false way = false›]; decide)]), _, rfl⟩

theorem portQ_bd (n m d way : Int) (m0 : 0 ≤ m) (d0 : 0 < d) : -4611686018427387904 ≤ portQ n m d way ∧ portQ n m d way ≤ 4611686018427387904 := by
  have h0 : 0 ≤ (n.natAbs : Int) * m / d := Int.ediv_nonneg (Int.mul_nonneg (by omega) m0) (by omega)
  simp only [portQ]
  generalize (n.natAbs : Int) * m / d = q at h0 ⊢
  split <;> split <;> (try split) <;> omega

/-- The fault and the number that Convert returns. -/
def cvtF (n f t way : Int) : Int := if ¬ (isTimeN n ∧ isScaleN f ∧ isScaleN t) then 1 else if ¬ (1 ≤ way ∧ way ≤ 3) then 4 else if ¬ isTimeN (portQ n t f way) then 1 else 0
def cvtV (n f t way : Int) : Int := if cvtF n f t way = 0 then portQ n t f way else 0


set_option maxHeartbeats 2000000 in
theorem convert_any (n f t way : Int) (w : World) :
    Calls Try.prog 75 #[.int .i64 n, .int .i64 f, .int .i64 t, .int .i64 way] w fun e w' => e = .returned (.tuple #[.int .i64 (cvtV n f t way), .int .i64 (cvtF n f t way)]) ∧ ∃ k, w' = w.drewN k := by
  by_cases h1 : isTimeN n
  · have H1 := Lib.hid h1; obtain ⟨a1, a2⟩ := h1
    by_cases h2 : isScaleN f
    · have H2 := Lib.hid h2; obtain ⟨b1, b2⟩ := h2
      by_cases h3 : isScaleN t
      · have H3 := Lib.hid h3; obtain ⟨c1, c2⟩ := h3
        by_cases h4 : 1 ≤ way ∧ way ≤ 3
        · have H4 := Lib.hid h4; clear h4
          have hb := portQ_bd n t f way (by omega) (by omega)
          by_cases h5 : isTimeN (portQ n t f way)
          · have e0 : cvtF n f t way = 0 := by simp [cvtF, H1.out, H2.out, H3.out, H4.out, h5]
            have e1 : cvtV n f t way = portQ n t f way := by simp [cvtV, e0]
            have H5 := Lib.hid h5; have E0 := Lib.hid e0; have E1 := Lib.hid e1; clear h5 e0 e1
            go_enter Try.func75, Try.ntmps75
            go_wp2_with fail
            refine (isTime_yes _ _ H1.out).mono ?_; rintro e w' ⟨rfl, rfl⟩
            go_wp2_with fail
            refine (isScale_yes _ _ H2.out).mono ?_; rintro e w' ⟨rfl, rfl⟩
            go_wp2_with fail
            refine (isScale_yes _ _ H3.out).mono ?_; rintro e w' ⟨rfl, rfl⟩
            go_wp2_with fail
            refine (isWay_yes _ _ H4.out).mono ?_; rintro e w' ⟨rfl, rfl⟩
            go_wp2_with fail
            refine (portion_any _ _ _ _ _ (by omega) (by omega) (by omega) (by omega) (by omega) (by omega)).mono ?_; rintro e w' ⟨rfl, k, rfl⟩
            go_wp2_with fail
            refine (isTime_yes _ _ H5.out).mono ?_; rintro e w' ⟨rfl, rfl⟩
            go_wp2_with fail
            go_ret2
            exact ⟨ret2_ii E1.out.symm E0.out.symm, _, rfl⟩
          · have e0 : cvtF n f t way = 1 := by simp [cvtF, H1.out, H2.out, H3.out, H4.out, h5]
            have e1 : cvtV n f t way = 0 := by simp [cvtV, e0]
            have H5 := Lib.hid h5; have E0 := Lib.hid e0; have E1 := Lib.hid e1; clear h5 e0 e1
            go_enter Try.func75, Try.ntmps75
            go_wp2_with fail
            refine (isTime_yes _ _ H1.out).mono ?_; rintro e w' ⟨rfl, rfl⟩
            go_wp2_with fail
            refine (isScale_yes _ _ H2.out).mono ?_; rintro e w' ⟨rfl, rfl⟩
            go_wp2_with fail
            refine (isScale_yes _ _ H3.out).mono ?_; rintro e w' ⟨rfl, rfl⟩
            go_wp2_with fail
            refine (isWay_yes _ _ H4.out).mono ?_; rintro e w' ⟨rfl, rfl⟩
            go_wp2_with fail
            refine (portion_any _ _ _ _ _ (by omega) (by omega) (by omega) (by omega) (by omega) (by omega)).mono ?_; rintro e w' ⟨rfl, k, rfl⟩
            go_wp2_with fail
            refine (isTime_no _ _ H5.out).mono ?_; rintro e w' ⟨rfl, rfl⟩
            go_wp2_with fail
            go_ret2
            exact ⟨ret2_ii E1.out.symm E0.out.symm, _, rfl⟩
        · have e0 : cvtF n f t way = 4 := by simp [cvtF, H1.out, H2.out, H3.out]; omega
          have e1 : cvtV n f t way = 0 := by simp [cvtV, e0]
          have h4' : way < 1 ∨ 3 < way := by omega
          have H4 := Lib.hid h4'; have E0 := Lib.hid e0; have E1 := Lib.hid e1; clear h4 h4' e0 e1
          go_enter Try.func75, Try.ntmps75
          go_wp2_with fail
          refine (isTime_yes _ _ H1.out).mono ?_; rintro e w' ⟨rfl, rfl⟩
          go_wp2_with fail
          refine (isScale_yes _ _ H2.out).mono ?_; rintro e w' ⟨rfl, rfl⟩
          go_wp2_with fail
          refine (isScale_yes _ _ H3.out).mono ?_; rintro e w' ⟨rfl, rfl⟩
          go_wp2_with fail
          refine (isWay_no _ _ H4.out).mono ?_; rintro e w' ⟨rfl, rfl⟩
          go_wp2_with fail
          go_ret2
          exact ⟨ret2_ii E1.out.symm E0.out.symm, 0, rfl⟩
      · have e0 : cvtF n f t way = 1 := by simp [cvtF, h3]
        have e1 : cvtV n f t way = 0 := by simp [cvtV, e0]
        have H3 := Lib.hid h3; have E0 := Lib.hid e0; have E1 := Lib.hid e1; clear h3 e0 e1
        go_enter Try.func75, Try.ntmps75
        go_wp2_with fail
        refine (isTime_yes _ _ H1.out).mono ?_; rintro e w' ⟨rfl, rfl⟩
        go_wp2_with fail
        refine (isScale_yes _ _ H2.out).mono ?_; rintro e w' ⟨rfl, rfl⟩
        go_wp2_with fail
        refine (isScale_no _ _ H3.out).mono ?_; rintro e w' ⟨rfl, rfl⟩
        go_wp2_with fail
        go_ret2
        exact ⟨ret2_ii E1.out.symm E0.out.symm, 0, rfl⟩
    · have e0 : cvtF n f t way = 1 := by simp [cvtF, h2]
      have e1 : cvtV n f t way = 0 := by simp [cvtV, e0]
      have H2 := Lib.hid h2; have E0 := Lib.hid e0; have E1 := Lib.hid e1; clear h2 e0 e1
      go_enter Try.func75, Try.ntmps75
      go_wp2_with fail
      refine (isTime_yes _ _ H1.out).mono ?_; rintro e w' ⟨rfl, rfl⟩
      go_wp2_with fail
      refine (isScale_no _ _ H2.out).mono ?_; rintro e w' ⟨rfl, rfl⟩
      go_wp2_with fail
      go_ret2
      exact ⟨ret2_ii E1.out.symm E0.out.symm, 0, rfl⟩
  · have e0 : cvtF n f t way = 1 := by simp [cvtF, h1]
    have e1 : cvtV n f t way = 0 := by simp [cvtV, e0]
    have H1 := Lib.hid h1; have E0 := Lib.hid e0; have E1 := Lib.hid e1; clear h1 e0 e1
    go_enter Try.func75, Try.ntmps75
    go_wp2_with fail
    refine (isTime_no _ _ H1.out).mono ?_; rintro e w' ⟨rfl, rfl⟩
    go_wp2_with fail
    go_ret2
    exact ⟨ret2_ii E1.out.symm E0.out.symm, 0, rfl⟩


end Go.Proofs.Ytikpemmfmkdndaa
