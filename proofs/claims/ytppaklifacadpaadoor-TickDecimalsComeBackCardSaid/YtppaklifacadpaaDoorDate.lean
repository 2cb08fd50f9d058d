/- Date, of the program and of the reference. -/
import Derived.Test.YtppaklifacadpaaDoorRefCal
namespace Go.Proofs.YtppaklifacadpaaDoor
set_option linter.unusedVariables false
set_option linter.unusedSimpArgs false
open Go.RowKit

theorem cat_list (a b : ByteArray) : (a ++ b).data.toList = a.data.toList ++ b.data.toList := by simp [ByteArray.data_append]
theorem cat_size (a b : ByteArray) (n m : Nat) (h : a.size ≤ n) (k : b.size ≤ m) (hs : n + m ≤ 8000000) : (a ++ b).size ≤ n + m ∧ ((a ++ b).size : Int) ≤ 8388608 := by
  rw [ByteArray.size_append]
  omega
theorem same_text (a b : ByteArray) (h : a.data.toList = b.data.toList) : a = b := by
  apply ByteArray.ext
  exact Array.toList_inj.1 h

/-- The parts of the milliseconds of a day. -/
structure Rest (r h m s u : Int) : Prop where
  h : r / 3600000 = h
  m : r / 60000 % 60 = m
  s : r / 1000 % 60 = s
  u : r % 1000 = u
theorem rest_bd {r h m s u : Int} (k : Rest r h m s u) (r0 : 0 ≤ r) (r1 : r < 86400000) : 0 ≤ h ∧ h ≤ 23 ∧ 0 ≤ m ∧ m ≤ 59 ∧ 0 ≤ s ∧ s ≤ 59 ∧ 0 ≤ u ∧ u ≤ 999 := by
  obtain ⟨k1, k2, k3, k4⟩ := k
  omega
theorem rest_pl {r h m s u : Int} (k : Rest r h m s u) (r0 : 0 ≤ r) : r / 3600000 = h ∧ r % 3600000 / 60000 = m ∧ r % 60000 / 1000 = s ∧ r % 1000 = u ∧ r / 60000 % 60 = m ∧ r / 1000 % 60 = s := by
  obtain ⟨k1, k2, k3, k4⟩ := k
  refine ⟨k1, ?_, ?_, k4, k2, k3⟩ <;> omega
theorem rest_go {r h m s u : Int} (k : Rest r h m s u) (r0 : 0 ≤ r) : r.tdiv 3600000 = h ∧ (r.tmod 3600000).tdiv 60000 = m ∧ (r.tmod 60000).tdiv 1000 = s ∧ r.tmod 1000 = u ∧ (r.tdiv 60000).tmod 60 = m ∧ (r.tdiv 1000).tmod 60 = s := by
  obtain ⟨k1, k2, k3, k4⟩ := k
  rw [Int.tdiv_eq_ediv_of_nonneg r0, Int.tmod_eq_emod_of_nonneg r0, Int.tmod_eq_emod_of_nonneg r0, Int.tmod_eq_emod_of_nonneg r0, Int.tdiv_eq_ediv_of_nonneg r0, Int.tdiv_eq_ediv_of_nonneg r0,
    Int.tdiv_eq_ediv_of_nonneg (show 0 ≤ r % 3600000 by omega), Int.tdiv_eq_ediv_of_nonneg (show 0 ≤ r % 60000 by omega), Int.tmod_eq_emod_of_nonneg (show 0 ≤ r / 60000 by omega), Int.tmod_eq_emod_of_nonneg (show 0 ≤ r / 1000 by omega)]
  omega

set_option maxRecDepth 100000 in
set_option maxHeartbeats 8000000 in
theorem date_ok (n Y : Int) (h m s u : Int) (w : World) (htab : Tab w) (n0 : 0 ≤ n) (n1 : n ≤ 253402300799999) (hY : IsYear (n / 86400000) Y) (hr : Rest (n % 86400000) h m s u) :
    Calls Tryd.prog 11 #[.int .i64 n] w fun e w' => (∃ S, e = .returned (.tuple #[.string S, .int .i64 0]) ∧ S.data.toList = dateOf Y (calM Y (n / 86400000 - dB Y)).1 ((calM Y (n / 86400000 - dB Y)).2 + 1) h m s u) ∧ Below w.heap.size w w' := by
  have HT := Lib.hid htab
  have e1 : n.tdiv 86400000 = n / 86400000 := Int.tdiv_eq_ediv_of_nonneg n0
  have e2 : n.tmod 86400000 = n % 86400000 := Int.tmod_eq_emod_of_nonneg n0
  have hr0 : 0 ≤ n % 86400000 := by omega
  have hr1 : n % 86400000 < 86400000 := by omega
  have hn0 : 0 ≤ n / 86400000 := by omega
  have hn1 : n / 86400000 ≤ 2932896 := by omega
  obtain ⟨N, hN⟩ : ∃ N, n / 86400000 = N := ⟨_, rfl⟩
  obtain ⟨r, hrr⟩ : ∃ r, n % 86400000 = r := ⟨_, rfl⟩
  rw [hN] at e1 hY hn0 hn1 ⊢
  rw [hrr] at e2 hr hr0 hr1
  obtain ⟨xh0, xh1, xm0, xm1, xs0, xs1, xu0, xu1⟩ := rest_bd hr hr0 hr1
  have xh8 : h < 100000000 := by omega
  have xm8 : m < 100000000 := by omega
  have xs8 : s < 100000000 := by omega
  have xu8 : u < 100000000 := by omega
  have HR := Lib.hid (rest_go hr hr0)
  have HQ := Lib.hid (rest_pl hr hr0)
  have hyl := year_le hY
  have hle := hY.le
  have hdb := dB_mono hY.y0
  rw [dB_1970] at hdb
  have hY0 := hY.y0
  have hdp : 0 ≤ N - dB Y := by omega
  have hdq : N - dB Y ≤ 2932896 := by omega
  have hcb := monF_bd (y := Y) (N - dB Y).toNat 1 (N - dB Y) hdp (by omega)
  have hcal : calM Y (N - dB Y) = monF Y (N - dB Y).toNat 1 (N - dB Y) := rfl
  rw [← hcal] at hcb
  obtain ⟨M, hM⟩ : ∃ M, (calM Y (N - dB Y)).1 = M := ⟨_, rfl⟩
  obtain ⟨D, hD⟩ : ∃ D, (calM Y (N - dB Y)).2 = D := ⟨_, rfl⟩
  rw [hM, hD] at hcb
  rw [hM, hD]
  obtain ⟨c0, c1, c2, c3⟩ := hcb
  have hM8 : M < 100000000 := by omega
  have hD8 : D + 1 < 100000000 := by omega
  have hY8 : Y < 100000000 := by omega
  have hD0 : 0 ≤ D + 1 := by omega
  have hYa : 0 ≤ Y := by omega
  have hMa : 0 ≤ M := by omega
  obtain ⟨g1, g2, g3, g4, g5, g6⟩ := HR.out
  obtain ⟨q1, q2, q3, q4, q5, q6⟩ := HQ.out
  have HY := Lib.hid hY; have HM := Lib.hid hM; have HD := Lib.hid hD; have HCB := Lib.hid (And.intro c0 (And.intro c1 (And.intro c2 c3)))
  clear hN hrr hr hyl hle hdb hcal hM hD htab hY c1
  have k45 : ((⟨#[45]⟩ : ByteArray).size : Int) ≤ 8388608 := by decide
  have j45 : (⟨#[45]⟩ : ByteArray).size ≤ 1 := by decide
  have k84 : ((⟨#[84]⟩ : ByteArray).size : Int) ≤ 8388608 := by decide
  have j84 : (⟨#[84]⟩ : ByteArray).size ≤ 1 := by decide
  have k58 : ((⟨#[58]⟩ : ByteArray).size : Int) ≤ 8388608 := by decide
  have j58 : (⟨#[58]⟩ : ByteArray).size ≤ 1 := by decide
  have k46 : ((⟨#[46]⟩ : ByteArray).size : Int) ≤ 8388608 := by decide
  have j46 : (⟨#[46]⟩ : ByteArray).size ≤ 1 := by decide
  have k90 : ((⟨#[90]⟩ : ByteArray).size : Int) ≤ 8388608 := by decide
  have j90 : (⟨#[90]⟩ : ByteArray).size ≤ 1 := by decide
  go_enter Tryd.func11, Tryd.ntmps11
  go_wp2_with fail
  refine (within_yes _ _ _ _ (by omega) (by omega)).mono ?_; rintro e w' ⟨rfl, rfl⟩
  have B0 : Hid (Below w.heap.size w w) := Lib.hid (Below.refl _ _)
  go_wp2_with fail
  refine (calendar_any N Y _ HY.out (by omega) (by omega)).mono ?_; rintro e w' ⟨rfl, rfl⟩
  rw [HM.out, HD.out]
  go_wp2_with fail
  refine (padded_any Y 4 _ (HT.out.below B0.out (Nat.le_refl _)) hYa hY8 (by decide)).mono ?_
  rintro e w1 ⟨rfl, b⟩
  have B1 := Lib.hid (B0.out.trans (b.mono B0.out.size))
  clear b
  have hp1 : (padB Y 4).size ≤ 8 := by rw [padB_size]; exact padL_len _ _ hYa hY8 (by decide)
  have hl1 : (padB Y 4).data.toList = padL Y 4 := padB_list _ _
  obtain ⟨P1, hP1⟩ : ∃ P, padB Y 4 = P := ⟨_, rfl⟩
  rw [hP1] at hp1 hl1 ⊢
  have hi1 : (P1.size : Int) ≤ 8388608 := Int.le_trans (Int.ofNat_le.2 hp1) (by decide)
  have HL1 := Lib.hid hl1
  clear hP1 hl1
  obtain ⟨z1, y1⟩ := cat_size P1 ⟨#[45]⟩ 8 1 hp1 j45 (by decide)
  go_wp2_with fail
  obtain ⟨A1, hA1⟩ : ∃ A, P1 ++ ⟨#[45]⟩ = A := ⟨_, rfl⟩
  rw [hA1]
  rw [hA1] at z1 y1
  have HA1 := Lib.hid hA1
  clear hA1
  refine (padded_any M 2 _ (HT.out.below B1.out (Nat.le_refl _)) hMa hM8 (by decide)).mono ?_
  rintro e w2 ⟨rfl, b⟩
  have B2 := Lib.hid (B1.out.trans (b.mono B1.out.size))
  clear b
  have hp2 : (padB M 2).size ≤ 8 := by rw [padB_size]; exact padL_len _ _ hMa hM8 (by decide)
  have hl2 : (padB M 2).data.toList = padL M 2 := padB_list _ _
  obtain ⟨P2, hP2⟩ : ∃ P, padB M 2 = P := ⟨_, rfl⟩
  rw [hP2] at hp2 hl2 ⊢
  have hi2 : (P2.size : Int) ≤ 8388608 := Int.le_trans (Int.ofNat_le.2 hp2) (by decide)
  have HL2 := Lib.hid hl2
  clear hP2 hl2
  obtain ⟨z2a, y2a⟩ := cat_size A1 P2 9 8 z1 hp2 (by decide)
  obtain ⟨z2, y2⟩ := cat_size (A1 ++ P2) ⟨#[45]⟩ 17 1 z2a j45 (by decide)
  go_wp2_with fail
  obtain ⟨A2, hA2⟩ : ∃ A, A1 ++ P2 ++ ⟨#[45]⟩ = A := ⟨_, rfl⟩
  rw [hA2]
  rw [hA2] at z2 y2
  have HA2 := Lib.hid hA2
  clear hA2 z2a y2a
  refine (padded_any (D + 1) 2 _ (HT.out.below B2.out (Nat.le_refl _)) hD0 hD8 (by decide)).mono ?_
  rintro e w3 ⟨rfl, b⟩
  have B3 := Lib.hid (B2.out.trans (b.mono B2.out.size))
  clear b
  have hp3 : (padB (D + 1) 2).size ≤ 8 := by rw [padB_size]; exact padL_len _ _ hD0 hD8 (by decide)
  have hl3 : (padB (D + 1) 2).data.toList = padL (D + 1) 2 := padB_list _ _
  obtain ⟨P3, hP3⟩ : ∃ P, padB (D + 1) 2 = P := ⟨_, rfl⟩
  rw [hP3] at hp3 hl3 ⊢
  have hi3 : (P3.size : Int) ≤ 8388608 := Int.le_trans (Int.ofNat_le.2 hp3) (by decide)
  have HL3 := Lib.hid hl3
  clear hP3 hl3
  obtain ⟨z3, y3⟩ := cat_size A2 P3 18 8 z2 hp3 (by decide)
  go_wp2_with fail
  obtain ⟨A3, hA3⟩ : ∃ A, A2 ++ P3 = A := ⟨_, rfl⟩
  rw [hA3]
  rw [hA3] at z3 y3
  have HA3 := Lib.hid hA3
  clear hA3
  refine (padded_any h 2 _ (HT.out.below B3.out (Nat.le_refl _)) xh0 xh8 (by decide)).mono ?_
  rintro e w4 ⟨rfl, b⟩
  have B4 := Lib.hid (B3.out.trans (b.mono B3.out.size))
  clear b
  have hp4 : (padB h 2).size ≤ 8 := by rw [padB_size]; exact padL_len _ _ xh0 xh8 (by decide)
  have hl4 : (padB h 2).data.toList = padL h 2 := padB_list _ _
  obtain ⟨P4, hP4⟩ : ∃ P, padB h 2 = P := ⟨_, rfl⟩
  rw [hP4] at hp4 hl4 ⊢
  have hi4 : (P4.size : Int) ≤ 8388608 := Int.le_trans (Int.ofNat_le.2 hp4) (by decide)
  have HL4 := Lib.hid hl4
  clear hP4 hl4
  obtain ⟨z4a, y4a⟩ := cat_size ⟨#[84]⟩ P4 1 8 j84 hp4 (by decide)
  obtain ⟨z4, y4⟩ := cat_size A3 (⟨#[84]⟩ ++ P4) 26 9 z3 z4a (by decide)
  go_wp2_with fail
  obtain ⟨A4, hA4⟩ : ∃ A, A3 ++ (⟨#[84]⟩ ++ P4) = A := ⟨_, rfl⟩
  rw [hA4]
  rw [hA4] at z4 y4
  have HA4 := Lib.hid hA4
  clear hA4 z4a y4a
  refine (padded_any m 2 _ (HT.out.below B4.out (Nat.le_refl _)) xm0 xm8 (by decide)).mono ?_
  rintro e w5 ⟨rfl, b⟩
  have B5 := Lib.hid (B4.out.trans (b.mono B4.out.size))
  clear b
  have hp5 : (padB m 2).size ≤ 8 := by rw [padB_size]; exact padL_len _ _ xm0 xm8 (by decide)
  have hl5 : (padB m 2).data.toList = padL m 2 := padB_list _ _
  obtain ⟨P5, hP5⟩ : ∃ P, padB m 2 = P := ⟨_, rfl⟩
  rw [hP5] at hp5 hl5 ⊢
  have hi5 : (P5.size : Int) ≤ 8388608 := Int.le_trans (Int.ofNat_le.2 hp5) (by decide)
  have HL5 := Lib.hid hl5
  clear hP5 hl5
  obtain ⟨z5a, y5a⟩ := cat_size ⟨#[58]⟩ P5 1 8 j58 hp5 (by decide)
  obtain ⟨z5, y5⟩ := cat_size A4 (⟨#[58]⟩ ++ P5) 35 9 z4 z5a (by decide)
  go_wp2_with fail
  obtain ⟨A5, hA5⟩ : ∃ A, A4 ++ (⟨#[58]⟩ ++ P5) = A := ⟨_, rfl⟩
  rw [hA5]
  rw [hA5] at z5 y5
  have HA5 := Lib.hid hA5
  clear hA5 z5a y5a
  refine (padded_any s 2 _ (HT.out.below B5.out (Nat.le_refl _)) xs0 xs8 (by decide)).mono ?_
  rintro e w6 ⟨rfl, b⟩
  have B6 := Lib.hid (B5.out.trans (b.mono B5.out.size))
  clear b
  have hp6 : (padB s 2).size ≤ 8 := by rw [padB_size]; exact padL_len _ _ xs0 xs8 (by decide)
  have hl6 : (padB s 2).data.toList = padL s 2 := padB_list _ _
  obtain ⟨P6, hP6⟩ : ∃ P, padB s 2 = P := ⟨_, rfl⟩
  rw [hP6] at hp6 hl6 ⊢
  have hi6 : (P6.size : Int) ≤ 8388608 := Int.le_trans (Int.ofNat_le.2 hp6) (by decide)
  have HL6 := Lib.hid hl6
  clear hP6 hl6
  obtain ⟨z6a, y6a⟩ := cat_size ⟨#[58]⟩ P6 1 8 j58 hp6 (by decide)
  obtain ⟨z6, y6⟩ := cat_size A5 (⟨#[58]⟩ ++ P6) 44 9 z5 z6a (by decide)
  go_wp2_with fail
  obtain ⟨A6, hA6⟩ : ∃ A, A5 ++ (⟨#[58]⟩ ++ P6) = A := ⟨_, rfl⟩
  rw [hA6]
  rw [hA6] at z6 y6
  have HA6 := Lib.hid hA6
  clear hA6 z6a y6a
  refine (padded_any u 3 _ (HT.out.below B6.out (Nat.le_refl _)) xu0 xu8 (by decide)).mono ?_
  rintro e w7 ⟨rfl, b⟩
  have B7 := Lib.hid (B6.out.trans (b.mono B6.out.size))
  clear b
  have hp7 : (padB u 3).size ≤ 8 := by rw [padB_size]; exact padL_len _ _ xu0 xu8 (by decide)
  have hl7 : (padB u 3).data.toList = padL u 3 := padB_list _ _
  obtain ⟨P7, hP7⟩ : ∃ P, padB u 3 = P := ⟨_, rfl⟩
  rw [hP7] at hp7 hl7 ⊢
  have hi7 : (P7.size : Int) ≤ 8388608 := Int.le_trans (Int.ofNat_le.2 hp7) (by decide)
  have HL7 := Lib.hid hl7
  clear hP7 hl7
  obtain ⟨z7a, y7a⟩ := cat_size ⟨#[46]⟩ P7 1 8 j46 hp7 (by decide)
  obtain ⟨z7b, y7b⟩ := cat_size (⟨#[46]⟩ ++ P7) ⟨#[90]⟩ 9 1 z7a j90 (by decide)
  obtain ⟨z7, y7⟩ := cat_size A6 (⟨#[46]⟩ ++ P7 ++ ⟨#[90]⟩) 53 10 z6 z7b (by decide)
  go_wp2_with fail
  go_ret2
  refine ⟨⟨_, rfl, ?_⟩, B7.out⟩
  rw [← HA6.out, ← HA5.out, ← HA4.out, ← HA3.out, ← HA2.out, ← HA1.out]
  simp only [cat_list, HL1.out, HL2.out, HL3.out, HL4.out, HL5.out, HL6.out, HL7.out, dateOf, List.append_assoc]

set_option maxRecDepth 100000 in
set_option maxHeartbeats 8000000 in
theorem rdate_ok (n Y : Int) (h m s u : Int) (w : World) (htab : Tab w) (n0 : 0 ≤ n) (n1 : n ≤ 253402300799999) (hY : IsYear (n / 86400000) Y) (hr : Rest (n % 86400000) h m s u) :
    Calls Tryd.prog 12 #[.int .i64 n] w fun e w' => (∃ S, e = .returned (.tuple #[.string S, .int .i64 0]) ∧ S.data.toList = dateOf Y (calM Y (n / 86400000 - dB Y)).1 ((calM Y (n / 86400000 - dB Y)).2 + 1) h m s u) ∧ Below w.heap.size w w' := by
  have HT := Lib.hid htab
  have e1 : n.tdiv 86400000 = n / 86400000 := Int.tdiv_eq_ediv_of_nonneg n0
  have e2 : n.tmod 86400000 = n % 86400000 := Int.tmod_eq_emod_of_nonneg n0
  have hr0 : 0 ≤ n % 86400000 := by omega
  have hr1 : n % 86400000 < 86400000 := by omega
  have hn0 : 0 ≤ n / 86400000 := by omega
  have hn1 : n / 86400000 ≤ 2932896 := by omega
  obtain ⟨N, hN⟩ : ∃ N, n / 86400000 = N := ⟨_, rfl⟩
  obtain ⟨r, hrr⟩ : ∃ r, n % 86400000 = r := ⟨_, rfl⟩
  rw [hN] at e1 hY hn0 hn1 ⊢
  rw [hrr] at e2 hr hr0 hr1
  obtain ⟨xh0, xh1, xm0, xm1, xs0, xs1, xu0, xu1⟩ := rest_bd hr hr0 hr1
  have xh8 : h < 100000000 := by omega
  have xm8 : m < 100000000 := by omega
  have xs8 : s < 100000000 := by omega
  have xu8 : u < 100000000 := by omega
  have HR := Lib.hid (rest_go hr hr0)
  have HQ := Lib.hid (rest_pl hr hr0)
  have hyl := year_le hY
  have hle := hY.le
  have hdb := dB_mono hY.y0
  rw [dB_1970] at hdb
  have hY0 := hY.y0
  have hdp : 0 ≤ N - dB Y := by omega
  have hdq : N - dB Y ≤ 2932896 := by omega
  have hcb := monF_bd (y := Y) (N - dB Y).toNat 1 (N - dB Y) hdp (by omega)
  have hcal : calM Y (N - dB Y) = monF Y (N - dB Y).toNat 1 (N - dB Y) := rfl
  rw [← hcal] at hcb
  obtain ⟨M, hM⟩ : ∃ M, (calM Y (N - dB Y)).1 = M := ⟨_, rfl⟩
  obtain ⟨D, hD⟩ : ∃ D, (calM Y (N - dB Y)).2 = D := ⟨_, rfl⟩
  rw [hM, hD] at hcb
  rw [hM, hD]
  obtain ⟨c0, c1, c2, c3⟩ := hcb
  have hM8 : M < 100000000 := by omega
  have hD8 : D + 1 < 100000000 := by omega
  have hY8 : Y < 100000000 := by omega
  have hD0 : 0 ≤ D + 1 := by omega
  have hYa : 0 ≤ Y := by omega
  have hMa : 0 ≤ M := by omega
  obtain ⟨g1, g2, g3, g4, g5, g6⟩ := HR.out
  obtain ⟨q1, q2, q3, q4, q5, q6⟩ := HQ.out
  have HY := Lib.hid hY; have HM := Lib.hid hM; have HD := Lib.hid hD; have HCB := Lib.hid (And.intro c0 (And.intro c1 (And.intro c2 c3)))
  clear hN hrr hr hyl hle hdb hcal hM hD htab hY c1
  have k45 : ((⟨#[45]⟩ : ByteArray).size : Int) ≤ 8388608 := by decide
  have j45 : (⟨#[45]⟩ : ByteArray).size ≤ 1 := by decide
  have k84 : ((⟨#[84]⟩ : ByteArray).size : Int) ≤ 8388608 := by decide
  have j84 : (⟨#[84]⟩ : ByteArray).size ≤ 1 := by decide
  have k58 : ((⟨#[58]⟩ : ByteArray).size : Int) ≤ 8388608 := by decide
  have j58 : (⟨#[58]⟩ : ByteArray).size ≤ 1 := by decide
  have k46 : ((⟨#[46]⟩ : ByteArray).size : Int) ≤ 8388608 := by decide
  have j46 : (⟨#[46]⟩ : ByteArray).size ≤ 1 := by decide
  have k90 : ((⟨#[90]⟩ : ByteArray).size : Int) ≤ 8388608 := by decide
  have j90 : (⟨#[90]⟩ : ByteArray).size ≤ 1 := by decide
  have HN : Hid (0 ≤ N ∧ N ≤ 2932896) := Lib.hid ⟨hn0, hn1⟩
  have H1 : decide (n < 0) = false := by simp; omega
  have H2 : decide (253402300799999 < n) = false := by simp; omega
  go_enter Tryd.func12, Tryd.ntmps12
  go_wp2_with fail
  go_loopw [4, 6] (fun vd vy wr => ∃ (d y : Int), 1970 ≤ y ∧ y ≤ Y ∧ vy = .int .i64 y ∧ vd = .int .i64 d ∧ Hid (d = N - dB y) ∧ w = wr) (fun _ vy _ => (Y - intOf vy).toNat)
  case atStart => exact ⟨N, 1970, by omega, by omega, rfl, rfl, Lib.hid (by rw [dB_1970]; omega), rfl⟩
  case round =>
    obtain ⟨d, y, y0, y1, rfl, rfl, HDD, rfl⟩ := hrel
    have hm := year_more HY.out y1
    have hst := dB_step y
    have hs := lB_step y
    obtain ⟨L, hL⟩ : ∃ L, leapB y = L := ⟨_, rfl⟩
    rw [hL] at hs
    have hdr : dB y ≤ N ∧ 0 ≤ dB y := by
      have h1 := dB_mono y1
      have h2 := dB_mono y0
      rw [dB_1970] at h2
      have := HY.out.le
      omega
    have hd0 : 0 ≤ d ∧ d ≤ 2932896 := by have := HDD.out; have := HN.out; omega
    obtain ⟨d0, d1⟩ := hd0
    have HM2 := Lib.hid hm; have HST := Lib.hid hst; have HS := Lib.hid hs; have HL := Lib.hid hL
    clear hm hst hs hL hdr
    go_wp2_with fail
    refine (rleap_any y _ (by omega)).mono ?_; rintro e w' ⟨rfl, rfl⟩
    rw [HL.out]
    cases L
    · by_cases hx : d < 365
      · have hey : y = Y := by
          apply Decidable.byContradiction; intro hne
          have h1 := HM2.out.2 (by omega)
          have h2 := HST.out
          have h3 := HS.out
          have h4 := HDD.out
          simp at h3
          omega
        subst hey
        go_wp2_with fail
        go_loopw [4, 7] (fun vd vm wx => ∃ (d m : Int) (f : Nat), 0 ≤ d ∧ d ≤ N - dB y ∧ 1 ≤ m ∧ m ≤ 1 + (N - dB y - d) ∧ vd = .int .i64 d ∧ vm = .int .i64 m ∧ w = wx ∧ Hid (d.toNat ≤ f) ∧ Hid (monF y f m d = calM y (N - dB y))) (fun vd _ _ => (intOf vd).toNat)
        case atStart => exact ⟨d, 1, d.toNat, by omega, by have := HDD.out; omega, by omega, by have := HDD.out; omega, rfl, rfl, rfl, Lib.hid (Nat.le_refl _), Lib.hid (by rw [HDD.out]; rfl)⟩
        case round =>
          obtain ⟨d, mm, f, d0, d1, mm0, mm1, rfl, rfl, rfl, HF, HMON⟩ := hrel
          have hb := mD_bd y mm
          obtain ⟨Z, hZ⟩ : ∃ Z, mD y mm = Z := ⟨_, rfl⟩
          rw [hZ] at hb
          obtain ⟨z0, z1⟩ := hb
          have HZ := Lib.hid hZ
          clear hZ
          go_wp2_with fail
          refine (rdays_any y mm _ (by omega)).mono ?_; rintro e w' ⟨rfl, rfl⟩
          rw [HZ.out]
          by_cases hz : Z ≤ d
          · obtain ⟨f', rfl⟩ : ∃ f', f = f' + 1 := ⟨f - 1, by have := HF.out; omega⟩
            have hst := monF_more (y := y) (m := mm) (d := d) (n := f') (by rw [HZ.out]; exact hz) HF.out
            rw [HMON.out, HZ.out] at hst
            have HSTT := Lib.hid hst
            clear hst
            go_wp2_with fail
            refine (rdays_any y mm _ (by omega)).mono ?_; rintro e w' ⟨rfl, rfl⟩
            rw [HZ.out]
            go_wp2_with fail
            go_roundw
            case rel => exact ⟨d - Z, mm + 1, f', by omega, by omega, by omega, by omega, by go_num, by go_num, trivial, Lib.hid (by have := HF.out; omega), Lib.hid HSTT.out.symm⟩
            case measure => simp [intOf]; omega
          · have hz' : decide (Z ≤ d) = false := by simp only [decide_eq_false_iff_not]; exact hz
            have hend := monF_end (y := y) (m := mm) (d := d) f (by rw [HZ.out]; exact hz)
            rw [HMON.out] at hend
            have em : mm = M := by rw [← HM.out, hend]
            have ed : d = D := by rw [← HD.out, hend]
            subst em ed
            clear hend hz
            have B0 : Hid (Below w.heap.size w w) := Lib.hid (Below.refl _ _)
            go_wp2_with fail
            refine (rpadded_any y 4 _ (HT.out.below B0.out (Nat.le_refl _)) hYa hY8 (by decide)).mono ?_
            rintro e w1 ⟨rfl, b⟩
            have B1 := Lib.hid (B0.out.trans (b.mono B0.out.size))
            clear b
            have hp1 : (padB y 4).size ≤ 8 := by rw [padB_size]; exact padL_len _ _ hYa hY8 (by decide)
            have hl1 : (padB y 4).data.toList = padL y 4 := padB_list _ _
            obtain ⟨P1, hP1⟩ : ∃ P, padB y 4 = P := ⟨_, rfl⟩
            rw [hP1] at hp1 hl1 ⊢
            have hi1 : (P1.size : Int) ≤ 8388608 := Int.le_trans (Int.ofNat_le.2 hp1) (by decide)
            have HL1 := Lib.hid hl1
            clear hP1 hl1
            obtain ⟨z1, y1⟩ := cat_size P1 ⟨#[45]⟩ 8 1 hp1 j45 (by decide)
            go_wp2_with fail
            obtain ⟨A1, hA1⟩ : ∃ A, P1 ++ ⟨#[45]⟩ = A := ⟨_, rfl⟩
            rw [hA1]
            rw [hA1] at z1 y1
            have HA1 := Lib.hid hA1
            clear hA1
            refine (rpadded_any mm 2 _ (HT.out.below B1.out (Nat.le_refl _)) hMa hM8 (by decide)).mono ?_
            rintro e w2 ⟨rfl, b⟩
            have B2 := Lib.hid (B1.out.trans (b.mono B1.out.size))
            clear b
            have hp2 : (padB mm 2).size ≤ 8 := by rw [padB_size]; exact padL_len _ _ hMa hM8 (by decide)
            have hl2 : (padB mm 2).data.toList = padL mm 2 := padB_list _ _
            obtain ⟨P2, hP2⟩ : ∃ P, padB mm 2 = P := ⟨_, rfl⟩
            rw [hP2] at hp2 hl2 ⊢
            have hi2 : (P2.size : Int) ≤ 8388608 := Int.le_trans (Int.ofNat_le.2 hp2) (by decide)
            have HL2 := Lib.hid hl2
            clear hP2 hl2
            obtain ⟨z2a, y2a⟩ := cat_size A1 P2 9 8 z1 hp2 (by decide)
            obtain ⟨z2, y2⟩ := cat_size (A1 ++ P2) ⟨#[45]⟩ 17 1 z2a j45 (by decide)
            go_wp2_with fail
            obtain ⟨A2, hA2⟩ : ∃ A, A1 ++ P2 ++ ⟨#[45]⟩ = A := ⟨_, rfl⟩
            rw [hA2]
            rw [hA2] at z2 y2
            have HA2 := Lib.hid hA2
            clear hA2 z2a y2a
            refine (rpadded_any (d + 1) 2 _ (HT.out.below B2.out (Nat.le_refl _)) hD0 hD8 (by decide)).mono ?_
            rintro e w3 ⟨rfl, b⟩
            have B3 := Lib.hid (B2.out.trans (b.mono B2.out.size))
            clear b
            have hp3 : (padB (d + 1) 2).size ≤ 8 := by rw [padB_size]; exact padL_len _ _ hD0 hD8 (by decide)
            have hl3 : (padB (d + 1) 2).data.toList = padL (d + 1) 2 := padB_list _ _
            obtain ⟨P3, hP3⟩ : ∃ P, padB (d + 1) 2 = P := ⟨_, rfl⟩
            rw [hP3] at hp3 hl3 ⊢
            have hi3 : (P3.size : Int) ≤ 8388608 := Int.le_trans (Int.ofNat_le.2 hp3) (by decide)
            have HL3 := Lib.hid hl3
            clear hP3 hl3
            obtain ⟨z3a, y3a⟩ := cat_size A2 P3 18 8 z2 hp3 (by decide)
            obtain ⟨z3, y3⟩ := cat_size (A2 ++ P3) ⟨#[84]⟩ 26 1 z3a j84 (by decide)
            go_wp2_with fail
            obtain ⟨A3, hA3⟩ : ∃ A, A2 ++ P3 ++ ⟨#[84]⟩ = A := ⟨_, rfl⟩
            rw [hA3]
            rw [hA3] at z3 y3
            have HA3 := Lib.hid hA3
            clear hA3 z3a y3a
            refine (rpadded_any h 2 _ (HT.out.below B3.out (Nat.le_refl _)) xh0 xh8 (by decide)).mono ?_
            rintro e w4 ⟨rfl, b⟩
            have B4 := Lib.hid (B3.out.trans (b.mono B3.out.size))
            clear b
            have hp4 : (padB h 2).size ≤ 8 := by rw [padB_size]; exact padL_len _ _ xh0 xh8 (by decide)
            have hl4 : (padB h 2).data.toList = padL h 2 := padB_list _ _
            obtain ⟨P4, hP4⟩ : ∃ P, padB h 2 = P := ⟨_, rfl⟩
            rw [hP4] at hp4 hl4 ⊢
            have hi4 : (P4.size : Int) ≤ 8388608 := Int.le_trans (Int.ofNat_le.2 hp4) (by decide)
            have HL4 := Lib.hid hl4
            clear hP4 hl4
            obtain ⟨z4a, y4a⟩ := cat_size A3 P4 27 8 z3 hp4 (by decide)
            obtain ⟨z4, y4⟩ := cat_size (A3 ++ P4) ⟨#[58]⟩ 35 1 z4a j58 (by decide)
            go_wp2_with fail
            obtain ⟨A4, hA4⟩ : ∃ A, A3 ++ P4 ++ ⟨#[58]⟩ = A := ⟨_, rfl⟩
            rw [hA4]
            rw [hA4] at z4 y4
            have HA4 := Lib.hid hA4
            clear hA4 z4a y4a
            refine (rpadded_any m 2 _ (HT.out.below B4.out (Nat.le_refl _)) xm0 xm8 (by decide)).mono ?_
            rintro e w5 ⟨rfl, b⟩
            have B5 := Lib.hid (B4.out.trans (b.mono B4.out.size))
            clear b
            have hp5 : (padB m 2).size ≤ 8 := by rw [padB_size]; exact padL_len _ _ xm0 xm8 (by decide)
            have hl5 : (padB m 2).data.toList = padL m 2 := padB_list _ _
            obtain ⟨P5, hP5⟩ : ∃ P, padB m 2 = P := ⟨_, rfl⟩
            rw [hP5] at hp5 hl5 ⊢
            have hi5 : (P5.size : Int) ≤ 8388608 := Int.le_trans (Int.ofNat_le.2 hp5) (by decide)
            have HL5 := Lib.hid hl5
            clear hP5 hl5
            obtain ⟨z5a, y5a⟩ := cat_size A4 P5 36 8 z4 hp5 (by decide)
            obtain ⟨z5, y5⟩ := cat_size (A4 ++ P5) ⟨#[58]⟩ 44 1 z5a j58 (by decide)
            go_wp2_with fail
            obtain ⟨A5, hA5⟩ : ∃ A, A4 ++ P5 ++ ⟨#[58]⟩ = A := ⟨_, rfl⟩
            rw [hA5]
            rw [hA5] at z5 y5
            have HA5 := Lib.hid hA5
            clear hA5 z5a y5a
            refine (rpadded_any s 2 _ (HT.out.below B5.out (Nat.le_refl _)) xs0 xs8 (by decide)).mono ?_
            rintro e w6 ⟨rfl, b⟩
            have B6 := Lib.hid (B5.out.trans (b.mono B5.out.size))
            clear b
            have hp6 : (padB s 2).size ≤ 8 := by rw [padB_size]; exact padL_len _ _ xs0 xs8 (by decide)
            have hl6 : (padB s 2).data.toList = padL s 2 := padB_list _ _
            obtain ⟨P6, hP6⟩ : ∃ P, padB s 2 = P := ⟨_, rfl⟩
            rw [hP6] at hp6 hl6 ⊢
            have hi6 : (P6.size : Int) ≤ 8388608 := Int.le_trans (Int.ofNat_le.2 hp6) (by decide)
            have HL6 := Lib.hid hl6
            clear hP6 hl6
            obtain ⟨z6a, y6a⟩ := cat_size A5 P6 45 8 z5 hp6 (by decide)
            obtain ⟨z6, y6⟩ := cat_size (A5 ++ P6) ⟨#[46]⟩ 53 1 z6a j46 (by decide)
            go_wp2_with fail
            obtain ⟨A6, hA6⟩ : ∃ A, A5 ++ P6 ++ ⟨#[46]⟩ = A := ⟨_, rfl⟩
            rw [hA6]
            rw [hA6] at z6 y6
            have HA6 := Lib.hid hA6
            clear hA6 z6a y6a
            refine (rpadded_any u 3 _ (HT.out.below B6.out (Nat.le_refl _)) xu0 xu8 (by decide)).mono ?_
            rintro e w7 ⟨rfl, b⟩
            have B7 := Lib.hid (B6.out.trans (b.mono B6.out.size))
            clear b
            have hp7 : (padB u 3).size ≤ 8 := by rw [padB_size]; exact padL_len _ _ xu0 xu8 (by decide)
            have hl7 : (padB u 3).data.toList = padL u 3 := padB_list _ _
            obtain ⟨P7, hP7⟩ : ∃ P, padB u 3 = P := ⟨_, rfl⟩
            rw [hP7] at hp7 hl7 ⊢
            have hi7 : (P7.size : Int) ≤ 8388608 := Int.le_trans (Int.ofNat_le.2 hp7) (by decide)
            have HL7 := Lib.hid hl7
            clear hP7 hl7
            obtain ⟨z7a, y7a⟩ := cat_size A6 P7 54 8 z6 hp7 (by decide)
            obtain ⟨z7, y7⟩ := cat_size (A6 ++ P7) ⟨#[90]⟩ 62 1 z7a j90 (by decide)
            go_wp2_with fail
            go_ret2
            refine ⟨⟨_, rfl, ?_⟩, B7.out⟩
            rw [← HA6.out, ← HA5.out, ← HA4.out, ← HA3.out, ← HA2.out, ← HA1.out]
            simp only [cat_list, HL1.out, HL2.out, HL3.out, HL4.out, HL5.out, HL6.out, HL7.out, dateOf, List.append_assoc]
      · have hx' : decide (d < 365) = false := by simp only [decide_eq_false_iff_not]; exact hx
        have hlt : y < Y := by
          apply HM2.out.1
          have h2 := HST.out
          have h3 := HS.out
          have h4 := HDD.out
          simp at h3
          omega
        have hnew : d - 365 = N - dB (y + 1) := by
          have h2 := HST.out
          have h3 := HS.out
          have h4 := HDD.out
          simp at h3
          omega
        have HNEW := Lib.hid hnew
        clear hnew hx
        go_wp2_with fail
        go_roundw
        case rel => exact ⟨d - 365, y + 1, by omega, by omega, by go_num, by go_num, HNEW, trivial⟩
        case measure => simp [intOf]; omega
    · by_cases hx : d < 366
      · have hey : y = Y := by
          apply Decidable.byContradiction; intro hne
          have h1 := HM2.out.2 (by omega)
          have h2 := HST.out
          have h3 := HS.out
          have h4 := HDD.out
          simp at h3
          omega
        subst hey
        go_wp2_with fail
        go_loopw [4, 7] (fun vd vm wx => ∃ (d m : Int) (f : Nat), 0 ≤ d ∧ d ≤ N - dB y ∧ 1 ≤ m ∧ m ≤ 1 + (N - dB y - d) ∧ vd = .int .i64 d ∧ vm = .int .i64 m ∧ w = wx ∧ Hid (d.toNat ≤ f) ∧ Hid (monF y f m d = calM y (N - dB y))) (fun vd _ _ => (intOf vd).toNat)
        case atStart => exact ⟨d, 1, d.toNat, by omega, by have := HDD.out; omega, by omega, by have := HDD.out; omega, rfl, rfl, rfl, Lib.hid (Nat.le_refl _), Lib.hid (by rw [HDD.out]; rfl)⟩
        case round =>
          obtain ⟨d, mm, f, d0, d1, mm0, mm1, rfl, rfl, rfl, HF, HMON⟩ := hrel
          have hb := mD_bd y mm
          obtain ⟨Z, hZ⟩ : ∃ Z, mD y mm = Z := ⟨_, rfl⟩
          rw [hZ] at hb
          obtain ⟨z0, z1⟩ := hb
          have HZ := Lib.hid hZ
          clear hZ
          go_wp2_with fail
          refine (rdays_any y mm _ (by omega)).mono ?_; rintro e w' ⟨rfl, rfl⟩
          rw [HZ.out]
          by_cases hz : Z ≤ d
          · obtain ⟨f', rfl⟩ : ∃ f', f = f' + 1 := ⟨f - 1, by have := HF.out; omega⟩
            have hst := monF_more (y := y) (m := mm) (d := d) (n := f') (by rw [HZ.out]; exact hz) HF.out
            rw [HMON.out, HZ.out] at hst
            have HSTT := Lib.hid hst
            clear hst
            go_wp2_with fail
            refine (rdays_any y mm _ (by omega)).mono ?_; rintro e w' ⟨rfl, rfl⟩
            rw [HZ.out]
            go_wp2_with fail
            go_roundw
            case rel => exact ⟨d - Z, mm + 1, f', by omega, by omega, by omega, by omega, by go_num, by go_num, trivial, Lib.hid (by have := HF.out; omega), Lib.hid HSTT.out.symm⟩
            case measure => simp [intOf]; omega
          · have hz' : decide (Z ≤ d) = false := by simp only [decide_eq_false_iff_not]; exact hz
            have hend := monF_end (y := y) (m := mm) (d := d) f (by rw [HZ.out]; exact hz)
            rw [HMON.out] at hend
            have em : mm = M := by rw [← HM.out, hend]
            have ed : d = D := by rw [← HD.out, hend]
            subst em ed
            clear hend hz
            have B0 : Hid (Below w.heap.size w w) := Lib.hid (Below.refl _ _)
            go_wp2_with fail
            refine (rpadded_any y 4 _ (HT.out.below B0.out (Nat.le_refl _)) hYa hY8 (by decide)).mono ?_
            rintro e w1 ⟨rfl, b⟩
            have B1 := Lib.hid (B0.out.trans (b.mono B0.out.size))
            clear b
            have hp1 : (padB y 4).size ≤ 8 := by rw [padB_size]; exact padL_len _ _ hYa hY8 (by decide)
            have hl1 : (padB y 4).data.toList = padL y 4 := padB_list _ _
            obtain ⟨P1, hP1⟩ : ∃ P, padB y 4 = P := ⟨_, rfl⟩
            rw [hP1] at hp1 hl1 ⊢
            have hi1 : (P1.size : Int) ≤ 8388608 := Int.le_trans (Int.ofNat_le.2 hp1) (by decide)
            have HL1 := Lib.hid hl1
            clear hP1 hl1
            obtain ⟨z1, y1⟩ := cat_size P1 ⟨#[45]⟩ 8 1 hp1 j45 (by decide)
            go_wp2_with fail
            obtain ⟨A1, hA1⟩ : ∃ A, P1 ++ ⟨#[45]⟩ = A := ⟨_, rfl⟩
            rw [hA1]
            rw [hA1] at z1 y1
            have HA1 := Lib.hid hA1
            clear hA1
            refine (rpadded_any mm 2 _ (HT.out.below B1.out (Nat.le_refl _)) hMa hM8 (by decide)).mono ?_
            rintro e w2 ⟨rfl, b⟩
            have B2 := Lib.hid (B1.out.trans (b.mono B1.out.size))
            clear b
            have hp2 : (padB mm 2).size ≤ 8 := by rw [padB_size]; exact padL_len _ _ hMa hM8 (by decide)
            have hl2 : (padB mm 2).data.toList = padL mm 2 := padB_list _ _
            obtain ⟨P2, hP2⟩ : ∃ P, padB mm 2 = P := ⟨_, rfl⟩
            rw [hP2] at hp2 hl2 ⊢
            have hi2 : (P2.size : Int) ≤ 8388608 := Int.le_trans (Int.ofNat_le.2 hp2) (by decide)
            have HL2 := Lib.hid hl2
            clear hP2 hl2
            obtain ⟨z2a, y2a⟩ := cat_size A1 P2 9 8 z1 hp2 (by decide)
            obtain ⟨z2, y2⟩ := cat_size (A1 ++ P2) ⟨#[45]⟩ 17 1 z2a j45 (by decide)
            go_wp2_with fail
            obtain ⟨A2, hA2⟩ : ∃ A, A1 ++ P2 ++ ⟨#[45]⟩ = A := ⟨_, rfl⟩
            rw [hA2]
            rw [hA2] at z2 y2
            have HA2 := Lib.hid hA2
            clear hA2 z2a y2a
            refine (rpadded_any (d + 1) 2 _ (HT.out.below B2.out (Nat.le_refl _)) hD0 hD8 (by decide)).mono ?_
            rintro e w3 ⟨rfl, b⟩
            have B3 := Lib.hid (B2.out.trans (b.mono B2.out.size))
            clear b
            have hp3 : (padB (d + 1) 2).size ≤ 8 := by rw [padB_size]; exact padL_len _ _ hD0 hD8 (by decide)
            have hl3 : (padB (d + 1) 2).data.toList = padL (d + 1) 2 := padB_list _ _
            obtain ⟨P3, hP3⟩ : ∃ P, padB (d + 1) 2 = P := ⟨_, rfl⟩
            rw [hP3] at hp3 hl3 ⊢
            have hi3 : (P3.size : Int) ≤ 8388608 := Int.le_trans (Int.ofNat_le.2 hp3) (by decide)
            have HL3 := Lib.hid hl3
            clear hP3 hl3
            obtain ⟨z3a, y3a⟩ := cat_size A2 P3 18 8 z2 hp3 (by decide)
            obtain ⟨z3, y3⟩ := cat_size (A2 ++ P3) ⟨#[84]⟩ 26 1 z3a j84 (by decide)
            go_wp2_with fail
            obtain ⟨A3, hA3⟩ : ∃ A, A2 ++ P3 ++ ⟨#[84]⟩ = A := ⟨_, rfl⟩
            rw [hA3]
            rw [hA3] at z3 y3
            have HA3 := Lib.hid hA3
            clear hA3 z3a y3a
            refine (rpadded_any h 2 _ (HT.out.below B3.out (Nat.le_refl _)) xh0 xh8 (by decide)).mono ?_
            rintro e w4 ⟨rfl, b⟩
            have B4 := Lib.hid (B3.out.trans (b.mono B3.out.size))
            clear b
            have hp4 : (padB h 2).size ≤ 8 := by rw [padB_size]; exact padL_len _ _ xh0 xh8 (by decide)
            have hl4 : (padB h 2).data.toList = padL h 2 := padB_list _ _
            obtain ⟨P4, hP4⟩ : ∃ P, padB h 2 = P := ⟨_, rfl⟩
            rw [hP4] at hp4 hl4 ⊢
            have hi4 : (P4.size : Int) ≤ 8388608 := Int.le_trans (Int.ofNat_le.2 hp4) (by decide)
            have HL4 := Lib.hid hl4
            clear hP4 hl4
            obtain ⟨z4a, y4a⟩ := cat_size A3 P4 27 8 z3 hp4 (by decide)
            obtain ⟨z4, y4⟩ := cat_size (A3 ++ P4) ⟨#[58]⟩ 35 1 z4a j58 (by decide)
            go_wp2_with fail
            obtain ⟨A4, hA4⟩ : ∃ A, A3 ++ P4 ++ ⟨#[58]⟩ = A := ⟨_, rfl⟩
            rw [hA4]
            rw [hA4] at z4 y4
            have HA4 := Lib.hid hA4
            clear hA4 z4a y4a
            refine (rpadded_any m 2 _ (HT.out.below B4.out (Nat.le_refl _)) xm0 xm8 (by decide)).mono ?_
            rintro e w5 ⟨rfl, b⟩
            have B5 := Lib.hid (B4.out.trans (b.mono B4.out.size))
            clear b
            have hp5 : (padB m 2).size ≤ 8 := by rw [padB_size]; exact padL_len _ _ xm0 xm8 (by decide)
            have hl5 : (padB m 2).data.toList = padL m 2 := padB_list _ _
            obtain ⟨P5, hP5⟩ : ∃ P, padB m 2 = P := ⟨_, rfl⟩
            rw [hP5] at hp5 hl5 ⊢
            have hi5 : (P5.size : Int) ≤ 8388608 := Int.le_trans (Int.ofNat_le.2 hp5) (by decide)
            have HL5 := Lib.hid hl5
            clear hP5 hl5
            obtain ⟨z5a, y5a⟩ := cat_size A4 P5 36 8 z4 hp5 (by decide)
            obtain ⟨z5, y5⟩ := cat_size (A4 ++ P5) ⟨#[58]⟩ 44 1 z5a j58 (by decide)
            go_wp2_with fail
            obtain ⟨A5, hA5⟩ : ∃ A, A4 ++ P5 ++ ⟨#[58]⟩ = A := ⟨_, rfl⟩
            rw [hA5]
            rw [hA5] at z5 y5
            have HA5 := Lib.hid hA5
            clear hA5 z5a y5a
            refine (rpadded_any s 2 _ (HT.out.below B5.out (Nat.le_refl _)) xs0 xs8 (by decide)).mono ?_
            rintro e w6 ⟨rfl, b⟩
            have B6 := Lib.hid (B5.out.trans (b.mono B5.out.size))
            clear b
            have hp6 : (padB s 2).size ≤ 8 := by rw [padB_size]; exact padL_len _ _ xs0 xs8 (by decide)
            have hl6 : (padB s 2).data.toList = padL s 2 := padB_list _ _
            obtain ⟨P6, hP6⟩ : ∃ P, padB s 2 = P := ⟨_, rfl⟩
            rw [hP6] at hp6 hl6 ⊢
            have hi6 : (P6.size : Int) ≤ 8388608 := Int.le_trans (Int.ofNat_le.2 hp6) (by decide)
            have HL6 := Lib.hid hl6
            clear hP6 hl6
            obtain ⟨z6a, y6a⟩ := cat_size A5 P6 45 8 z5 hp6 (by decide)
            obtain ⟨z6, y6⟩ := cat_size (A5 ++ P6) ⟨#[46]⟩ 53 1 z6a j46 (by decide)
            go_wp2_with fail
            obtain ⟨A6, hA6⟩ : ∃ A, A5 ++ P6 ++ ⟨#[46]⟩ = A := ⟨_, rfl⟩
            rw [hA6]
            rw [hA6] at z6 y6
            have HA6 := Lib.hid hA6
            clear hA6 z6a y6a
            refine (rpadded_any u 3 _ (HT.out.below B6.out (Nat.le_refl _)) xu0 xu8 (by decide)).mono ?_
            rintro e w7 ⟨rfl, b⟩
            have B7 := Lib.hid (B6.out.trans (b.mono B6.out.size))
            clear b
            have hp7 : (padB u 3).size ≤ 8 := by rw [padB_size]; exact padL_len _ _ xu0 xu8 (by decide)
            have hl7 : (padB u 3).data.toList = padL u 3 := padB_list _ _
            obtain ⟨P7, hP7⟩ : ∃ P, padB u 3 = P := ⟨_, rfl⟩
            rw [hP7] at hp7 hl7 ⊢
            have hi7 : (P7.size : Int) ≤ 8388608 := Int.le_trans (Int.ofNat_le.2 hp7) (by decide)
            have HL7 := Lib.hid hl7
            clear hP7 hl7
            obtain ⟨z7a, y7a⟩ := cat_size A6 P7 54 8 z6 hp7 (by decide)
            obtain ⟨z7, y7⟩ := cat_size (A6 ++ P7) ⟨#[90]⟩ 62 1 z7a j90 (by decide)
            go_wp2_with fail
            go_ret2
            refine ⟨⟨_, rfl, ?_⟩, B7.out⟩
            rw [← HA6.out, ← HA5.out, ← HA4.out, ← HA3.out, ← HA2.out, ← HA1.out]
            simp only [cat_list, HL1.out, HL2.out, HL3.out, HL4.out, HL5.out, HL6.out, HL7.out, dateOf, List.append_assoc]
      · have hx' : decide (d < 366) = false := by simp only [decide_eq_false_iff_not]; exact hx
        have hlt : y < Y := by
          apply HM2.out.1
          have h2 := HST.out
          have h3 := HS.out
          have h4 := HDD.out
          simp at h3
          omega
        have hnew : d - 366 = N - dB (y + 1) := by
          have h2 := HST.out
          have h3 := HS.out
          have h4 := HDD.out
          simp at h3
          omega
        have HNEW := Lib.hid hnew
        clear hnew hx
        go_wp2_with fail
        go_roundw
        case rel => exact ⟨d - 366, y + 1, by omega, by omega, by go_num, by go_num, HNEW, trivial⟩
        case measure => simp [intOf]; omega

end Go.Proofs.YtppaklifacadpaaDoor
