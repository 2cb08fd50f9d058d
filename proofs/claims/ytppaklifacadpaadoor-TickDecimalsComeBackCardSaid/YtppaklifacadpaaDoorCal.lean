/- The calendar of the program and of the reference. -/
import Derived.Test.YtppaklifacadpaaDoorCalPlain
import Derived.Test.YtppaklifacadpaaDoorTick
namespace Go.Proofs.YtppaklifacadpaaDoor
set_option linter.unusedVariables false
set_option linter.unusedSimpArgs false
open Go.RowKit

theorem leaps_any (y : Int) (w : World) (h1 : 1 ≤ y) (h2 : y ≤ 10000000) :
    Calls Tryd.prog 89 #[.int .i64 y] w fun e w' => e = .returned (.int .i64 (lB y)) ∧ w = w' := by
  have e1 : (y - 1).tdiv 4 = (y - 1) / 4 := Int.tdiv_eq_ediv_of_nonneg (by omega)
  have e2 : (y - 1).tdiv 100 = (y - 1) / 100 := Int.tdiv_eq_ediv_of_nonneg (by omega)
  have e3 : (y - 1).tdiv 400 = (y - 1) / 400 := Int.tdiv_eq_ediv_of_nonneg (by omega)
  obtain ⟨a, ha⟩ : ∃ a, (y - 1) / 4 = a := ⟨_, rfl⟩
  obtain ⟨b, hb⟩ : ∃ b, (y - 1) / 100 = b := ⟨_, rfl⟩
  obtain ⟨c, hc⟩ : ∃ c, (y - 1) / 400 = c := ⟨_, rfl⟩
  have hl : lB y = a - b + c := by unfold lB; rw [ha, hb, hc]
  rw [ha] at e1; rw [hb] at e2; rw [hc] at e3
  have ba : 0 ≤ a ∧ a ≤ 10000000 := by omega
  have bb : 0 ≤ b ∧ b ≤ 10000000 := by omega
  have bc : 0 ≤ c ∧ c ≤ 10000000 := by omega
  obtain ⟨a0, a1⟩ := ba; obtain ⟨b0, b1⟩ := bb; obtain ⟨c0, c1⟩ := bc
  have HL := Lib.hid hl
  clear ha hb hc hl
  go_enter Tryd.func89, Tryd.ntmps89
  go_wp2_with fail
  go_ret
  exact ⟨ret_int HL.out.symm, rfl⟩

theorem lB_bd (y : Int) (h1 : 1 ≤ y) (h2 : y ≤ 10000000) : 0 ≤ lB y ∧ lB y ≤ 5000000 := by unfold lB; omega
theorem lB_1970 : lB 1970 = 477 := by decide

theorem daysBefore_any (y : Int) (w : World) (h1 : 1970 ≤ y) (h2 : y ≤ 9000000) :
    Calls Tryd.prog 54 #[.int .i64 y] w fun e w' => e = .returned (.int .i64 (dB y)) ∧ w = w' := by
  have hb := lB_bd y (by omega) (by omega)
  obtain ⟨L, hL⟩ : ∃ L, lB y = L := ⟨_, rfl⟩
  have hd : dB y = (y - 1970) * 365 + L - 477 := by unfold dB; rw [hL]
  rw [hL] at hb
  obtain ⟨b0, b1⟩ := hb
  have HL := Lib.hid hL; have HD := Lib.hid hd
  clear hL hd
  go_enter Tryd.func54, Tryd.ntmps54
  go_wp2_with fail
  refine (leaps_any y _ (by omega) (by omega)).mono ?_; rintro e w' ⟨rfl, rfl⟩
  rw [HL.out]
  go_wp2_with fail
  refine (leaps_any 1970 _ (by omega) (by omega)).mono ?_; rintro e w' ⟨rfl, rfl⟩
  rw [lB_1970]
  go_wp2_with fail
  go_ret
  exact ⟨ret_int HD.out.symm, rfl⟩

theorem mon_cases (m : Int) : m = 2 ∨ m = 4 ∨ m = 6 ∨ m = 9 ∨ m = 11 ∨ ((m == 2) = false ∧ (m == 4) = false ∧ (m == 6) = false ∧ (m == 9) = false ∧ (m == 11) = false) := by
  by_cases h2 : m = 2
  · exact .inl h2
  by_cases h4 : m = 4
  · exact .inr (.inl h4)
  by_cases h6 : m = 6
  · exact .inr (.inr (.inl h6))
  by_cases h9 : m = 9
  · exact .inr (.inr (.inr (.inl h9)))
  by_cases h11 : m = 11
  · exact .inr (.inr (.inr (.inr (.inl h11))))
  exact .inr (.inr (.inr (.inr (.inr ⟨by simp [h2], by simp [h4], by simp [h6], by simp [h9], by simp [h11]⟩))))

theorem mD_30 (y : Int) : mD y 4 = 30 ∧ mD y 6 = 30 ∧ mD y 9 = 30 ∧ mD y 11 = 30 ∧ mD y 2 = 28 + (lB (y + 1) - lB y) := by
  simp [mD]
theorem mD_31 (y m : Int) (h : (m == 2) = false ∧ (m == 4) = false ∧ (m == 6) = false ∧ (m == 9) = false ∧ (m == 11) = false) : mD y m = 31 := by
  obtain ⟨h2, h4, h6, h9, h11⟩ := h
  simp at h2 h4 h6 h9 h11
  simp [mD, h2, h4, h6, h9, h11]

theorem daysOfMonth_any (y m : Int) (w : World) (h1 : 1 ≤ y) (h2 : y ≤ 9000000) :
    Calls Tryd.prog 53 #[.int .i64 y, .int .i64 m] w fun e w' => e = .returned (.int .i64 (mD y m)) ∧ w = w' := by
  obtain ⟨m4, m6, m9, m11, m2⟩ := mD_30 y
  have M4 := Lib.hid m4; have M6 := Lib.hid m6; have M9 := Lib.hid m9; have M11 := Lib.hid m11; have M2 := Lib.hid m2
  clear m4 m6 m9 m11 m2
  rcases mon_cases m with rfl | rfl | rfl | rfl | rfl | h
  · have hb := lB_bd (y + 1) (by omega) (by omega)
    have hb2 := lB_bd y (by omega) (by omega)
    obtain ⟨L, hL⟩ : ∃ L, lB y = L := ⟨_, rfl⟩
    obtain ⟨K, hK⟩ : ∃ K, lB (y + 1) = K := ⟨_, rfl⟩
    rw [hL] at hb2; rw [hK] at hb
    obtain ⟨b0, b1⟩ := hb; obtain ⟨c0, c1⟩ := hb2
    have HL := Lib.hid hL; have HK := Lib.hid hK
    clear hL hK
    go_enter Tryd.func53, Tryd.ntmps53
    go_wp2_with fail
    refine (leaps_any (y + 1) _ (by omega) (by omega)).mono ?_; rintro e w' ⟨rfl, rfl⟩
    rw [HK.out]
    go_wp2_with fail
    refine (leaps_any y _ (by omega) (by omega)).mono ?_; rintro e w' ⟨rfl, rfl⟩
    rw [HL.out]
    go_wp2_with fail
    go_ret
    exact ⟨ret_int (by rw [M2.out, HL.out, HK.out]; omega), rfl⟩
  · go_enter Tryd.func53, Tryd.ntmps53
    go_wp2_with fail
    go_ret
    exact ⟨ret_int M4.out.symm, rfl⟩
  · go_enter Tryd.func53, Tryd.ntmps53
    go_wp2_with fail
    go_ret
    exact ⟨ret_int M6.out.symm, rfl⟩
  · go_enter Tryd.func53, Tryd.ntmps53
    go_wp2_with fail
    go_ret
    exact ⟨ret_int M9.out.symm, rfl⟩
  · go_enter Tryd.func53, Tryd.ntmps53
    go_wp2_with fail
    go_ret
    exact ⟨ret_int M11.out.symm, rfl⟩
  · have M31 := Lib.hid (mD_31 y m h)
    obtain ⟨e2, e4, e6, e9, e11⟩ := h
    go_enter Tryd.func53, Tryd.ntmps53
    go_wp2_with fail
    go_ret
    exact ⟨ret_int M31.out.symm, rfl⟩

set_option maxRecDepth 100000 in
set_option maxHeartbeats 2000000 in
theorem calendar_any (n Y : Int) (w : World) (hY : IsYear n Y) (n0 : 0 ≤ n) (n1 : n ≤ 5000000) :
    Calls Tryd.prog 48 #[.int .i64 n] w fun e w' => e = .returned (.tuple #[.int .i64 Y, .int .i64 (calM Y (n - dB Y)).1, .int .i64 ((calM Y (n - dB Y)).2 + 1)]) ∧ w = w' := by
  have HY := Lib.hid hY
  have hyl := year_le hY
  have hyf := year_first hY n0
  have hle := hY.le
  have hq : n.tdiv 366 = n / 366 := Int.tdiv_eq_ediv_of_nonneg n0
  obtain ⟨q, hqq⟩ : ∃ q, n / 366 = q := ⟨_, rfl⟩
  have hq0 : 0 ≤ q := by omega
  have hdp : 0 ≤ n - dB Y := by omega
  have hyd := dB_mono hY.y0
  rw [dB_1970] at hyd
  rw [hqq] at hq hyf
  obtain ⟨D, hD⟩ : ∃ D, n - dB Y = D := ⟨_, rfl⟩
  rw [hD] at hdp ⊢
  have hDn : D ≤ n := by have := hY.y0; omega
  obtain ⟨B, hB⟩ : ∃ B, dB Y = B := ⟨_, rfl⟩
  have hB0 : 0 ≤ B := by have := hY.y0; omega
  have hBn : B ≤ n := by omega
  have hnB : n - B = D := by rw [← hB]; exact hD
  obtain ⟨R, hR⟩ : ∃ R, calM Y D = R := ⟨_, rfl⟩
  rw [hR]
  have HR := Lib.hid hR; have HD := Lib.hid hD; have HB := Lib.hid hB
  have hY0 := hY.y0
  clear hY hqq hle hyd hD hB hR
  go_enter Tryd.func48, Tryd.ntmps48
  go_wp2_with fail
  go_loopw [2] (fun v wr => ∃ y : Int, 1970 ≤ y ∧ y ≤ Y ∧ v = .int .i64 y ∧ w = wr) (fun v _ => (Y - intOf v).toNat)
  case atStart => exact ⟨1970 + q, by omega, hyf, by go_num, rfl⟩
  case round =>
    obtain ⟨y, y0, y1, rfl, rfl⟩ := hrel
    have hm := year_more HY.out y1
    obtain ⟨X, hX⟩ : ∃ X, dB (y + 1) = X := ⟨_, rfl⟩
    rw [hX] at hm
    have HM := Lib.hid hm; have HX := Lib.hid hX
    clear hm hX
    go_wp2_with fail
    refine (daysBefore_any (y + 1) _ (by omega) (by omega)).mono ?_; rintro e w' ⟨rfl, rfl⟩
    rw [HX.out]
    by_cases hx : X ≤ n
    · have hlt := HM.out.1 hx
      go_wp2_with fail
      go_roundw
      case rel => exact ⟨y + 1, by omega, by omega, by go_num, trivial⟩
      case measure => simp [intOf]; omega
    · have hx' : decide (X ≤ n) = false := by simp only [decide_eq_false_iff_not]; exact hx
      have hey : y = Y := by
        apply Decidable.byContradiction; intro hne
        exact hx (HM.out.2 (by omega))
      subst hey
      clear hx
      go_wp2_with fail
      refine (daysBefore_any y _ (by omega) (by omega)).mono ?_; rintro e w' ⟨rfl, rfl⟩
      rw [HB.out]
      go_wp2_with fail
      go_loopw [0, 3] (fun vd vm wx => ∃ (d m : Int) (f : Nat), 0 ≤ d ∧ d ≤ D ∧ 1 ≤ m ∧ m ≤ 1 + (D - d) ∧ vd = .int .i64 d ∧ vm = .int .i64 m ∧ w = wx ∧ Hid (d.toNat ≤ f) ∧ Hid (monF y f m d = R)) (fun vd _ _ => (intOf vd).toNat)
      case atStart => exact ⟨D, 1, D.toNat, by omega, by omega, by omega, by omega, by go_num, rfl, rfl, Lib.hid (Nat.le_refl _), Lib.hid HR.out⟩
      case round =>
        obtain ⟨d, m, f, d0, d1, m0, m1, rfl, rfl, rfl, HF, HMON⟩ := hrel
        have hb := mD_bd y m
        obtain ⟨Z, hZ⟩ : ∃ Z, mD y m = Z := ⟨_, rfl⟩
        rw [hZ] at hb
        obtain ⟨z0, z1⟩ := hb
        have HZ := Lib.hid hZ
        clear hZ
        go_wp2_with fail
        refine (daysOfMonth_any y m _ (by omega) (by omega)).mono ?_; rintro e w' ⟨rfl, rfl⟩
        rw [HZ.out]
        by_cases hz : Z ≤ d
        · obtain ⟨f', rfl⟩ : ∃ f', f = f' + 1 := ⟨f - 1, by have := HF.out; omega⟩
          have hst := monF_more (y := y) (m := m) (d := d) (n := f') (by rw [HZ.out]; exact hz) HF.out
          rw [HMON.out, HZ.out] at hst
          have HST := Lib.hid hst
          clear hst
          go_wp2_with fail
          refine (daysOfMonth_any y m _ (by omega) (by omega)).mono ?_; rintro e w' ⟨rfl, rfl⟩
          rw [HZ.out]
          go_wp2_with fail
          go_roundw
          case rel => exact ⟨d - Z, m + 1, f', by omega, by omega, by omega, by omega, by go_num, by go_num, trivial, Lib.hid (by have := HF.out; omega), Lib.hid HST.out.symm⟩
          case measure => simp [intOf]; omega
        · have hz' : decide (Z ≤ d) = false := by simp only [decide_eq_false_iff_not]; exact hz
          have hend := monF_end (y := y) (m := m) (d := d) f (by rw [HZ.out]; exact hz)
          rw [HMON.out] at hend
          have HEND := Lib.hid hend
          clear hend hz
          go_wp2_with fail
          go_ret3
          rw [HEND.out]
          exact ⟨rfl, rfl⟩

end Go.Proofs.YtppaklifacadpaaDoor
