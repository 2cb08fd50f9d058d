/- tick.FrameTime and tick.FrameAt. -/
import Derived.Test.YtnjmjdbilblieaaDoorTick
namespace Go.Proofs.YtnjmjdbilblieaaDoor
set_option linter.unusedVariables false
set_option linter.unusedSimpArgs false
open Go.RowKit

def isRateN (frames seconds scale : Int) : Prop := (1 ≤ frames ∧ frames ≤ 1000000) ∧ (1 ≤ seconds ∧ seconds ≤ 1000000) ∧ isScaleN scale
instance (a b c : Int) : Decidable (isRateN a b c) := by unfold isRateN; infer_instance

/-- When a frame begins. -/
def frT (k frames seconds scale : Int) : Int := k * (seconds * scale) / frames

theorem rate_bd {frames seconds scale : Int} (h : isRateN frames seconds scale) : 1 ≤ seconds * scale ∧ seconds * scale ≤ 1000000000000000 := by
  obtain ⟨-, ⟨h1, h2⟩, ⟨h3, h4⟩⟩ := h
  constructor
  · have := Int.mul_le_mul h1 h3 (by omega) (by omega); omega
  · have := Int.mul_le_mul h2 h4 (by omega) (by omega); omega

theorem frT_mono {a b frames seconds scale : Int} (h : isRateN frames seconds scale) (hab : a ≤ b) : frT a frames seconds scale ≤ frT b frames seconds scale := by
  have := rate_bd h
  exact Int.ediv_le_ediv (by have := h.1; omega) (Int.mul_le_mul_of_nonneg_right hab (by omega))

theorem frT_nonneg {a frames seconds scale : Int} (h : isRateN frames seconds scale) (ha : 0 ≤ a) : 0 ≤ frT a frames seconds scale := by
  have := rate_bd h
  exact Int.ediv_nonneg (Int.mul_nonneg ha (by omega)) (by have := h.1; omega)

theorem frT_le_iff {a t frames seconds scale : Int} (h : isRateN frames seconds scale) : frT a frames seconds scale ≤ t ↔ a * (seconds * scale) < (t + 1) * frames := by
  unfold frT
  rw [← Int.lt_add_one_iff, Int.ediv_lt_iff_lt_mul (by have := h.1; omega)]

theorem port_frT {k frames seconds scale : Int} (h : isRateN frames seconds scale) (hk : 0 ≤ k) :
    portQ k (seconds * scale) frames 1 = if 4611686018427387904 ≤ frT k frames seconds scale then 4611686018427387904 else frT k frames seconds scale := by
  have e : (k.natAbs : Int) = k := by omega
  by_cases hc : 4611686018427387904 ≤ k * (seconds * scale) / frames <;> simp [portQ, e, growsB, frT, show ¬ k < 0 by omega, hc]

/-- The last frame that begins at a time or before it. -/
def frA (t frames seconds scale : Int) : Int := min (portQ (t + 1) frames (seconds * scale) 3 - 1) 1000000000

theorem frA_spec {t frames seconds scale : Int} (h : isRateN frames seconds scale) (h0 : 0 ≤ t) :
    0 ≤ frA t frames seconds scale ∧ frA t frames seconds scale ≤ 1000000000 ∧ frT (frA t frames seconds scale) frames seconds scale ≤ t ∧
    (frA t frames seconds scale = 1000000000 ∨ t < frT (frA t frames seconds scale + 1) frames seconds scale) := by
  obtain ⟨s0, s1⟩ := rate_bd h
  have hf := h.1
  have e : ((t + 1).natAbs : Int) = t + 1 := by omega
  have hx : 1 ≤ (t + 1) * frames := by have := Int.mul_le_mul (show 1 ≤ t + 1 by omega) hf.1 (by omega) (by omega); omega
  have lt : t < frT (frA t frames seconds scale + 1) frames seconds scale ↔ (t + 1) * frames ≤ (frA t frames seconds scale + 1) * (seconds * scale) := by
    have := @frT_le_iff (frA t frames seconds scale + 1) t frames seconds scale h
    omega
  rw [frT_le_iff h, lt]
  unfold frA
  simp only [portQ, e, growsB, show ¬ t + 1 < 0 by omega, if_false, decide_false, Bool.not_false, Bool.true_and, show (3 : Int) ≠ 1 by omega, if_true, decide_eq_true_eq]
  have d1 := Int.mul_ediv_add_emod ((t + 1) * frames) (seconds * scale)
  have d2 := Int.emod_nonneg ((t + 1) * frames) (show seconds * scale ≠ 0 by omega)
  have d3 := Int.emod_lt_of_pos ((t + 1) * frames) (show 0 < seconds * scale by omega)
  have d4 : 0 ≤ (t + 1) * frames / (seconds * scale) := Int.ediv_nonneg (by omega) (by omega)
  generalize (t + 1) * frames = x at *
  generalize seconds * scale = S at *
  generalize x / S = q at *
  generalize x % S = r at *
  have far : 1000000000 < q → 1000000000 * S < x := by
    intro hq
    have : (1000000000 + 1) * S ≤ q * S := Int.mul_le_mul_of_nonneg_right (by omega) (by omega)
    rw [Int.add_mul, Int.mul_comm q] at this
    omega
  by_cases hc : 4611686018427387904 ≤ q
  · simp only [if_pos hc]
    rw [show min (4611686018427387904 - 1 : Int) 1000000000 = 1000000000 by omega]
    exact ⟨by omega, by omega, far (by omega), .inl rfl⟩
  · simp only [if_neg hc]
    by_cases hr : 0 < r
    · simp only [if_pos hr]
      rw [show q + 1 - 1 = q by omega]
      by_cases hq : q ≤ 1000000000
      · rw [show min q 1000000000 = q by omega]
        refine ⟨by omega, by omega, by rw [Int.mul_comm]; omega, .inr ?_⟩
        rw [Int.add_mul, Int.mul_comm q]
        omega
      · rw [show min q 1000000000 = 1000000000 by omega]
        exact ⟨by omega, by omega, far (by omega), .inl rfl⟩
    · simp only [if_neg hr]
      have hq1 : 1 ≤ q := by
        rcases Int.lt_or_le 0 q with h | h
        · omega
        · have : q = 0 := by omega
          subst this
          omega
      have hm : (q - 1) * S < x := by rw [Int.sub_mul, Int.mul_comm q]; omega
      by_cases hq : q - 1 ≤ 1000000000
      · rw [show min (q - 1) 1000000000 = q - 1 by omega]
        refine ⟨by omega, by omega, hm, .inr ?_⟩
        rw [show q - 1 + 1 = q by omega, Int.mul_comm q]
        omega
      · rw [show min (q - 1) 1000000000 = 1000000000 by omega]
        exact ⟨by omega, by omega, far (by omega), .inl rfl⟩

set_option maxHeartbeats 1000000 in
theorem isRate_yes (a b c : Int) (w : World) (h : isRateN a b c) :
    Calls Tryd.prog 49 #[.int .i64 a, .int .i64 b, .int .i64 c] w fun e w' => e = .returned (.bool true) ∧ w = w' := by
  obtain ⟨⟨a1, a2⟩, ⟨b1, b2⟩, h3⟩ := h
  have H3 := Lib.hid h3
  clear h3
  go_enter Tryd.func49, Tryd.ntmps49
  go_wp2_with (first | (go_at_call 30; refine (within_yes _ _ _ _ (by omega) (by omega)).mono ?_; rintro e w' ⟨rfl, rfl⟩) | (go_at_call 22; refine (isScale_yes _ _ H3.out).mono ?_; rintro e w' ⟨rfl, rfl⟩))
  go_ret
  exact ⟨rfl, rfl⟩

set_option maxHeartbeats 1000000 in
theorem isRate_no (a b c : Int) (w : World) (h : ¬ isRateN a b c) :
    Calls Tryd.prog 49 #[.int .i64 a, .int .i64 b, .int .i64 c] w fun e w' => e = .returned (.bool false) ∧ w = w' := by
  by_cases ha : 1 ≤ a ∧ a ≤ 1000000
  · by_cases hb : 1 ≤ b ∧ b ≤ 1000000
    · have hc : ¬ isScaleN c := fun hc => h ⟨ha, hb, hc⟩
      have HC := Lib.hid hc
      obtain ⟨a1, a2⟩ := ha
      obtain ⟨b1, b2⟩ := hb
      clear h hc
      go_enter Tryd.func49, Tryd.ntmps49
      go_wp2_with (first | (go_at_call 30; refine (within_yes _ _ _ _ (by omega) (by omega)).mono ?_; rintro e w' ⟨rfl, rfl⟩) | (go_at_call 22; refine (isScale_no _ _ HC.out).mono ?_; rintro e w' ⟨rfl, rfl⟩))
      go_ret
      exact ⟨rfl, rfl⟩
    · have hb' : b < 1 ∨ 1000000 < b := by omega
      obtain ⟨a1, a2⟩ := ha
      have HB := Lib.hid hb'
      clear h hb hb'
      go_enter Tryd.func49, Tryd.ntmps49
      go_wp2_with fail
      refine (within_yes _ _ _ _ (by omega) (by omega)).mono ?_; rintro e w' ⟨rfl, rfl⟩
      go_wp2_with fail
      refine (within_no _ _ _ _ HB.out).mono ?_; rintro e w' ⟨rfl, rfl⟩
      go_wp2_with fail
      go_ret
      exact ⟨rfl, rfl⟩
  · have ha' : a < 1 ∨ 1000000 < a := by omega
    have HA := Lib.hid ha'
    clear h ha ha'
    go_enter Tryd.func49, Tryd.ntmps49
    go_wp2_with fail
    refine (within_no _ _ _ _ HA.out).mono ?_; rintro e w' ⟨rfl, rfl⟩
    go_wp2_with fail
    go_ret
    exact ⟨rfl, rfl⟩

set_option maxHeartbeats 1000000 in
theorem ftime_ok (k a b c : Int) (w : World) (h : isRateN a b c) (k0 : 0 ≤ k) (k1 : k ≤ 1000000000) (hT : frT k a b c ≤ 1000000000000000) :
    Calls Tryd.prog 17 #[.int .i64 k, .int .i64 a, .int .i64 b, .int .i64 c] w fun e w' => e = .returned (.tuple #[.int .i64 (frT k a b c), .int .i64 0]) ∧ ∃ n, w' = w.drewN n := by
  obtain ⟨s0, s1⟩ := rate_bd h
  have e := port_frT h k0
  have p0 := frT_nonneg h k0
  rw [if_neg (by omega)] at e
  have H := Lib.hid h; have E := Lib.hid e
  obtain ⟨⟨a1, a2⟩, -⟩ := h
  clear e
  have ht : isTimeN (frT k a b c) := ⟨by omega, hT⟩
  have HT := Lib.hid ht
  clear ht
  go_enter Tryd.func17, Tryd.ntmps17
  go_wp2_with fail
  refine (within_yes _ _ _ _ (by omega) (by omega)).mono ?_; rintro e w' ⟨rfl, rfl⟩
  go_wp2_with fail
  refine (isRate_yes _ _ _ _ H.out).mono ?_; rintro e w' ⟨rfl, rfl⟩
  go_wp2_with fail
  refine (portion_any _ _ _ _ _ (by omega) (by omega) (by omega) (by omega) (by omega) (by omega)).mono ?_; rintro e w' ⟨rfl, n, rfl⟩
  rw [E.out]
  go_wp2_with fail
  refine (isTime_yes _ _ HT.out).mono ?_; rintro e w' ⟨rfl, rfl⟩
  go_wp2_with fail
  go_ret2
  exact ⟨rfl, _, rfl⟩

set_option maxHeartbeats 1000000 in
theorem ftime_late (k a b c : Int) (w : World) (h : isRateN a b c) (k0 : 0 ≤ k) (k1 : k ≤ 1000000000) (hT : 1000000000000000 < frT k a b c) :
    Calls Tryd.prog 17 #[.int .i64 k, .int .i64 a, .int .i64 b, .int .i64 c] w fun e w' => e = .returned (.tuple #[.int .i64 0, .int .i64 1]) ∧ ∃ n, w' = w.drewN n := by
  obtain ⟨s0, s1⟩ := rate_bd h
  have e := port_frT h k0
  have p0 := frT_nonneg h k0
  have H := Lib.hid h
  obtain ⟨⟨a1, a2⟩, -⟩ := h
  have ht : ¬ isTimeN (portQ k (b * c) a 1) := by
    rw [e]; unfold isTimeN; split <;> omega
  have HT := Lib.hid ht
  clear ht e
  have hb := portQ_bd k (b * c) a 1 (by omega) (by omega)
  go_enter Tryd.func17, Tryd.ntmps17
  go_wp2_with fail
  refine (within_yes _ _ _ _ (by omega) (by omega)).mono ?_; rintro e w' ⟨rfl, rfl⟩
  go_wp2_with fail
  refine (isRate_yes _ _ _ _ H.out).mono ?_; rintro e w' ⟨rfl, rfl⟩
  go_wp2_with fail
  refine (portion_any _ _ _ _ _ (by omega) (by omega) (by omega) (by omega) (by omega) (by omega)).mono ?_; rintro e w' ⟨rfl, n, rfl⟩
  go_wp2_with fail
  refine (isTime_no _ _ HT.out).mono ?_; rintro e w' ⟨rfl, rfl⟩
  go_wp2_with fail
  go_ret2
  exact ⟨rfl, _, rfl⟩

set_option maxHeartbeats 1000000 in
theorem ftime_bad (k a b c : Int) (w : World) (h : ¬ ((0 ≤ k ∧ k ≤ 1000000000) ∧ isRateN a b c)) :
    Calls Tryd.prog 17 #[.int .i64 k, .int .i64 a, .int .i64 b, .int .i64 c] w fun e w' => e = .returned (.tuple #[.int .i64 0, .int .i64 1]) ∧ ∃ n, w' = w.drewN n := by
  by_cases hk : 0 ≤ k ∧ k ≤ 1000000000
  · have hr : ¬ isRateN a b c := fun hr => h ⟨hk, hr⟩
    have HR := Lib.hid hr
    obtain ⟨k0, k1⟩ := hk
    clear h hr
    go_enter Tryd.func17, Tryd.ntmps17
    go_wp2_with fail
    refine (within_yes _ _ _ _ (by omega) (by omega)).mono ?_; rintro e w' ⟨rfl, rfl⟩
    go_wp2_with fail
    refine (isRate_no _ _ _ _ HR.out).mono ?_; rintro e w' ⟨rfl, rfl⟩
    go_wp2_with fail
    go_ret2
    exact ⟨rfl, 0, rfl⟩
  · have hk' : k < 0 ∨ 1000000000 < k := by omega
    have HK := Lib.hid hk'
    clear h hk hk'
    go_enter Tryd.func17, Tryd.ntmps17
    go_wp2_with fail
    refine (within_no _ _ _ _ HK.out).mono ?_; rintro e w' ⟨rfl, rfl⟩
    go_wp2_with fail
    go_ret2
    exact ⟨rfl, 0, rfl⟩

set_option maxHeartbeats 1000000 in
theorem fat_bad (k a b c : Int) (w : World) (h : ¬ ((0 ≤ k ∧ k ≤ 1000000000000000) ∧ isRateN a b c)) :
    Calls Tryd.prog 19 #[.int .i64 k, .int .i64 a, .int .i64 b, .int .i64 c] w fun e w' => e = .returned (.tuple #[.int .i64 0, .int .i64 1]) ∧ ∃ n, w' = w.drewN n := by
  by_cases hk : 0 ≤ k ∧ k ≤ 1000000000000000
  · have hr : ¬ isRateN a b c := fun hr => h ⟨hk, hr⟩
    have HR := Lib.hid hr
    obtain ⟨k0, k1⟩ := hk
    clear h hr
    go_enter Tryd.func19, Tryd.ntmps19
    go_wp2_with fail
    refine (within_yes _ _ _ _ (by omega) (by omega)).mono ?_; rintro e w' ⟨rfl, rfl⟩
    go_wp2_with fail
    refine (isRate_no _ _ _ _ HR.out).mono ?_; rintro e w' ⟨rfl, rfl⟩
    go_wp2_with fail
    go_ret2
    exact ⟨rfl, 0, rfl⟩
  · have hk' : k < 0 ∨ 1000000000000000 < k := by omega
    have HK := Lib.hid hk'
    clear h hk hk'
    go_enter Tryd.func19, Tryd.ntmps19
    go_wp2_with fail
    refine (within_no _ _ _ _ HK.out).mono ?_; rintro e w' ⟨rfl, rfl⟩
    go_wp2_with fail
    go_ret2
    exact ⟨rfl, 0, rfl⟩

theorem min_case (a : Int) : (a < 1000000000 ∧ min a 1000000000 = a) ∨ (1000000000 ≤ a ∧ min a 1000000000 = 1000000000) := by omega

set_option maxHeartbeats 1000000 in
theorem fat_ok (k a b c : Int) (w : World) (h : isRateN a b c) (k0 : 0 ≤ k) (k1 : k ≤ 1000000000000000) :
    Calls Tryd.prog 19 #[.int .i64 k, .int .i64 a, .int .i64 b, .int .i64 c] w fun e w' => e = .returned (.tuple #[.int .i64 (frA k a b c), .int .i64 0]) ∧ ∃ n, w' = w.drewN n := by
  obtain ⟨s0, s1⟩ := rate_bd h
  have H := Lib.hid h
  obtain ⟨⟨a1, a2⟩, -⟩ := h
  have hb := portQ_bd (k + 1) a (b * c) 3 (by omega) (by omega)
  obtain ⟨v, hv⟩ : ∃ v, portQ (k + 1) a (b * c) 3 = v := ⟨_, rfl⟩
  have hf : frA k a b c = min (v - 1) 1000000000 := by unfold frA; rw [hv]
  rw [hv] at hb
  have HV := Lib.hid hv; have HF := Lib.hid hf
  clear hv hf
  rcases min_case (v - 1) with ⟨m1, m2⟩ | ⟨m1, m2⟩
  all_goals
    have M2 := Lib.hid m2
    clear m2
    go_enter Tryd.func19, Tryd.ntmps19
    go_wp2_with fail
    refine (within_yes _ _ _ _ (by omega) (by omega)).mono ?_; rintro e w' ⟨rfl, rfl⟩
    go_wp2_with fail
    refine (isRate_yes _ _ _ _ H.out).mono ?_; rintro e w' ⟨rfl, rfl⟩
    go_wp2_with fail
    refine (portion_any _ _ _ _ _ (by omega) (by omega) (by omega) (by omega) (by omega) (by omega)).mono ?_; rintro e w' ⟨rfl, n, rfl⟩
    rw [HV.out]
    go_wp2_with fail
    all_goals
      go_ret2
      exact ⟨ret2_ii (by have := HF.out; omega) rfl, _, rfl⟩

/-- FrameTime, whatever the input. -/
def ftF (k a b c : Int) : Int := if (0 ≤ k ∧ k ≤ 1000000000) ∧ isRateN a b c ∧ frT k a b c ≤ 1000000000000000 then 0 else 1
def ftV (k a b c : Int) : Int := if ftF k a b c = 0 then frT k a b c else 0
def faF (k a b c : Int) : Int := if (0 ≤ k ∧ k ≤ 1000000000000000) ∧ isRateN a b c then 0 else 1
def faV (k a b c : Int) : Int := if faF k a b c = 0 then frA k a b c else 0

theorem ftime_any (k a b c : Int) (w : World) :
    Calls Tryd.prog 17 #[.int .i64 k, .int .i64 a, .int .i64 b, .int .i64 c] w fun e w' => e = .returned (.tuple #[.int .i64 (ftV k a b c), .int .i64 (ftF k a b c)]) ∧ ∃ n, w' = w.drewN n := by
  by_cases h : (0 ≤ k ∧ k ≤ 1000000000) ∧ isRateN a b c
  · by_cases ht : frT k a b c ≤ 1000000000000000
    · have e0 : ftF k a b c = 0 := by simp [ftF, h, ht]
      refine (ftime_ok k a b c w h.2 h.1.1 h.1.2 ht).mono ?_
      rintro e w' ⟨rfl, hw⟩
      exact ⟨ret2_ii (by simp [ftV, e0]) e0.symm, hw⟩
    · have e0 : ftF k a b c = 1 := by simp [ftF, ht]
      refine (ftime_late k a b c w h.2 h.1.1 h.1.2 (by omega)).mono ?_
      rintro e w' ⟨rfl, hw⟩
      exact ⟨ret2_ii (by simp [ftV, e0]) e0.symm, hw⟩
  · have e0 : ftF k a b c = 1 := by unfold ftF; rw [if_neg]; exact fun x => h ⟨x.1, x.2.1⟩
    refine (ftime_bad k a b c w h).mono ?_
    rintro e w' ⟨rfl, hw⟩
    exact ⟨ret2_ii (by simp [ftV, e0]) e0.symm, hw⟩

theorem fat_any (k a b c : Int) (w : World) :
    Calls Tryd.prog 19 #[.int .i64 k, .int .i64 a, .int .i64 b, .int .i64 c] w fun e w' => e = .returned (.tuple #[.int .i64 (faV k a b c), .int .i64 (faF k a b c)]) ∧ ∃ n, w' = w.drewN n := by
  by_cases h : (0 ≤ k ∧ k ≤ 1000000000000000) ∧ isRateN a b c
  · have e0 : faF k a b c = 0 := by simp [faF, h]
    refine (fat_ok k a b c w h.2 h.1.1 h.1.2).mono ?_
    rintro e w' ⟨rfl, hw⟩
    exact ⟨ret2_ii (by simp [faV, e0]) e0.symm, hw⟩
  · have e0 : faF k a b c = 1 := by simp [faF, h]
    refine (fat_bad k a b c w h).mono ?_
    rintro e w' ⟨rfl, hw⟩
    exact ⟨ret2_ii (by simp [faV, e0]) e0.symm, hw⟩

theorem ftF_ok {k a b c : Int} (h : ftF k a b c = 0) : (0 ≤ k ∧ k ≤ 1000000000) ∧ isRateN a b c ∧ frT k a b c ≤ 1000000000000000 := by
  unfold ftF at h
  split at h
  · assumption
  · omega
theorem faF_ok {k a b c : Int} (h : faF k a b c = 0) : (0 ≤ k ∧ k ≤ 1000000000000000) ∧ isRateN a b c := by
  unfold faF at h
  split at h
  · assumption
  · omega
theorem ftF_01 (k a b c : Int) : ftF k a b c = 0 ∨ ftF k a b c = 1 := by unfold ftF; split <;> simp
theorem faF_01 (k a b c : Int) : faF k a b c = 0 ∨ faF k a b c = 1 := by unfold faF; split <;> simp

/-- The first half of the law: the frame at the time of a frame. -/
theorem found_first {k a b c : Int} (h : ftF k a b c = 0) : faF (ftV k a b c) a b c = 0 ∧ ftF (faV (ftV k a b c) a b c) a b c = 0 ∧ k ≤ faV (ftV k a b c) a b c ∧ ftV (faV (ftV k a b c) a b c) a b c = ftV k a b c := by
  obtain ⟨hk, hr, ht⟩ := ftF_ok h
  have e1 : ftV k a b c = frT k a b c := by simp [ftV, h]
  rw [e1]
  have p0 := frT_nonneg hr hk.1
  have f0 : faF (frT k a b c) a b c = 0 := by unfold faF; rw [if_pos ⟨⟨p0, ht⟩, hr⟩]
  have e2 : faV (frT k a b c) a b c = frA (frT k a b c) a b c := by simp [faV, f0]
  rw [e2]
  obtain ⟨q0, q1, q2, q3⟩ := frA_spec hr p0
  have le : k ≤ frA (frT k a b c) a b c := by
    rcases q3 with q3 | q3
    · omega
    · rcases Int.lt_or_le (frA (frT k a b c) a b c) k with h | h
      · have := frT_mono hr (show frA (frT k a b c) a b c + 1 ≤ k by omega)
        omega
      · exact h
  have m := frT_mono hr le
  have g0 : ftF (frA (frT k a b c) a b c) a b c = 0 := by unfold ftF; rw [if_pos ⟨⟨q0, q1⟩, hr, by omega⟩]
  refine ⟨f0, g0, le, ?_⟩
  simp only [ftV, g0, if_true]
  omega

/-- The second half: the frame at a time, and the next one. -/
theorem found_second {t a b c : Int} (h : faF t a b c = 0) : ftF (faV t a b c) a b c = 0 ∧ ftV (faV t a b c) a b c ≤ t ∧ (ftF (faV t a b c + 1) a b c = 0 → t < ftV (faV t a b c + 1) a b c) ∧ 0 ≤ faV t a b c ∧ faV t a b c ≤ 1000000000 := by
  obtain ⟨ht, hr⟩ := faF_ok h
  have e2 : faV t a b c = frA t a b c := by simp [faV, h]
  rw [e2]
  obtain ⟨q0, q1, q2, q3⟩ := frA_spec hr ht.1
  have g0 : ftF (frA t a b c) a b c = 0 := by unfold ftF; rw [if_pos ⟨⟨q0, q1⟩, hr, by omega⟩]
  refine ⟨g0, by simp only [ftV, g0, if_true]; exact q2, ?_, q0, q1⟩
  intro h1
  obtain ⟨hk, -, -⟩ := ftF_ok h1
  simp only [ftV, h1, if_true]
  omega

theorem ftV_zero {k a b c : Int} (h : ftF k a b c = 1) : ftV k a b c = 0 := by simp [ftV, h]
theorem faV_zero {k a b c : Int} (h : faF k a b c = 1) : faV k a b c = 0 := by simp [faV, h]

end Go.Proofs.YtnjmjdbilblieaaDoor
