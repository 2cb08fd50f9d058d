/- ReadDate of the program. -/
import Derived.Test.YtppaklifacadpaaDoorReadPlain
namespace Go.Proofs.YtppaklifacadpaaDoor
set_option linter.unusedVariables false
set_option linter.unusedSimpArgs false
open Go.RowKit

set_option maxRecDepth 100000 in
set_option maxHeartbeats 4000000 in
theorem rd_year (s : ByteArray) (Y M D h m ss u : Int) (w : World) (hl : s.size = 24) (hform : IsForm s.data.toList)
    (f1 : Fld s 0 4 Y) (f2 : Fld s 5 7 M) (f3 : Fld s 8 10 D) (f4 : Fld s 11 13 h) (f5 : Fld s 14 16 m) (f6 : Fld s 17 19 ss) (f7 : Fld s 20 23 u)
    (Y0 : 0 ≤ Y) (Y1 : Y ≤ 9999) (M0 : 0 ≤ M) (M1 : M ≤ 99) (D0 : 0 ≤ D) (D1 : D ≤ 99) (xh0 : 0 ≤ h) (xh1 : h ≤ 99) (xm0 : 0 ≤ m) (xm1 : m ≤ 99) (xs0 : 0 ≤ ss) (xs1 : ss ≤ 99) (xu0 : 0 ≤ u) (xu1 : u ≤ 999)
    (bad : Y < 1970) :
    Calls Tryd.prog 13 #[.string s] w fun e w' => e = .returned (.tuple #[.int .i64 0, .int .i64 10]) ∧ ∃ q, w' = w.drewN q := by
  have F1 := Lib.hid f1; have F2 := Lib.hid f2; have F3 := Lib.hid f3; have F4 := Lib.hid f4; have F5 := Lib.hid f5; have F6 := Lib.hid f6; have F7 := Lib.hid f7; have HF := Lib.hid hform
  have hl2 : s.size ≤ 9223372036854775807 := by omega
  clear f1 f2 f3 f4 f5 f6 f7 hform
  go_enter Tryd.func13, Tryd.ntmps13
  go_wp2_with fail
  refine (form_any s _ True hl2 ⟨fun _ => HF.out, fun _ => trivial⟩).mono ?_
  rintro e w1 ⟨rfl, hq1⟩
  have HQ1 := Lib.hid hq1
  clear hq1
  go_wp2_with fail
  go_quiet (first
    | (go_at_call_of 47 (s.extract 0 4); exact Calls.quiet_of (number_dr _ _ _ F1.out.size F1.out.dig F1.out.val))
    | (go_at_call_of 47 (s.extract 5 7); exact Calls.quiet_of (number_dr _ _ _ F2.out.size F2.out.dig F2.out.val))
    | (go_at_call_of 47 (s.extract 8 10); exact Calls.quiet_of (number_dr _ _ _ F3.out.size F3.out.dig F3.out.val)))
  have HQ2 : Hid (∃ q, w1.drewN nq = w.drewN q) := Lib.hid (drewN_ex HQ1.out nq)
  generalize w1.drewN nq = w2 at HQ2 ⊢
  go_wp2_with fail
  go_quiet (first
    | (go_at_call_of 47 (s.extract 11 13); exact Calls.quiet_of (number_dr _ _ _ F4.out.size F4.out.dig F4.out.val))
    | (go_at_call_of 47 (s.extract 14 16); exact Calls.quiet_of (number_dr _ _ _ F5.out.size F5.out.dig F5.out.val))
    | (go_at_call_of 47 (s.extract 17 19); exact Calls.quiet_of (number_dr _ _ _ F6.out.size F6.out.dig F6.out.val)))
  go_wp2_with fail
  go_ret2
  exact ⟨rfl, drewN_ex HQ2.out _⟩

set_option maxRecDepth 100000 in
set_option maxHeartbeats 4000000 in
theorem rd_month (s : ByteArray) (Y M D h m ss u : Int) (w : World) (hl : s.size = 24) (hform : IsForm s.data.toList)
    (f1 : Fld s 0 4 Y) (f2 : Fld s 5 7 M) (f3 : Fld s 8 10 D) (f4 : Fld s 11 13 h) (f5 : Fld s 14 16 m) (f6 : Fld s 17 19 ss) (f7 : Fld s 20 23 u)
    (Y0 : 0 ≤ Y) (Y1 : Y ≤ 9999) (M0 : 0 ≤ M) (M1 : M ≤ 99) (D0 : 0 ≤ D) (D1 : D ≤ 99) (xh0 : 0 ≤ h) (xh1 : h ≤ 99) (xm0 : 0 ≤ m) (xm1 : m ≤ 99) (xs0 : 0 ≤ ss) (xs1 : ss ≤ 99) (xu0 : 0 ≤ u) (xu1 : u ≤ 999)
    (ok1 : 1970 ≤ Y) (bad : ¬ (1 ≤ M ∧ M ≤ 12)) :
    Calls Tryd.prog 13 #[.string s] w fun e w' => e = .returned (.tuple #[.int .i64 0, .int .i64 10]) ∧ ∃ q, w' = w.drewN q := by
  have F1 := Lib.hid f1; have F2 := Lib.hid f2; have F3 := Lib.hid f3; have F4 := Lib.hid f4; have F5 := Lib.hid f5; have F6 := Lib.hid f6; have F7 := Lib.hid f7; have HF := Lib.hid hform
  have hl2 : s.size ≤ 9223372036854775807 := by omega
  clear f1 f2 f3 f4 f5 f6 f7 hform
  have hy : decide (Y < 1970) = false := by simp only [decide_eq_false_iff_not]; omega
  go_enter Tryd.func13, Tryd.ntmps13
  go_wp2_with fail
  refine (form_any s _ True hl2 ⟨fun _ => HF.out, fun _ => trivial⟩).mono ?_
  rintro e w1 ⟨rfl, hq1⟩
  have HQ1 := Lib.hid hq1
  clear hq1
  go_wp2_with fail
  go_quiet (first
    | (go_at_call_of 47 (s.extract 0 4); exact Calls.quiet_of (number_dr _ _ _ F1.out.size F1.out.dig F1.out.val))
    | (go_at_call_of 47 (s.extract 5 7); exact Calls.quiet_of (number_dr _ _ _ F2.out.size F2.out.dig F2.out.val))
    | (go_at_call_of 47 (s.extract 8 10); exact Calls.quiet_of (number_dr _ _ _ F3.out.size F3.out.dig F3.out.val)))
  have HQ2 : Hid (∃ q, w1.drewN nq = w.drewN q) := Lib.hid (drewN_ex HQ1.out nq)
  generalize w1.drewN nq = w2 at HQ2 ⊢
  go_wp2_with fail
  go_quiet (first
    | (go_at_call_of 47 (s.extract 11 13); exact Calls.quiet_of (number_dr _ _ _ F4.out.size F4.out.dig F4.out.val))
    | (go_at_call_of 47 (s.extract 14 16); exact Calls.quiet_of (number_dr _ _ _ F5.out.size F5.out.dig F5.out.val))
    | (go_at_call_of 47 (s.extract 17 19); exact Calls.quiet_of (number_dr _ _ _ F6.out.size F6.out.dig F6.out.val)))
  go_wp2_with fail
  refine (within_no _ _ _ _ (by omega)).mono ?_; rintro e w8 ⟨rfl, rfl⟩
  go_wp2_with fail
  go_ret2
  exact ⟨rfl, drewN_ex HQ2.out _⟩

set_option maxRecDepth 100000 in
set_option maxHeartbeats 4000000 in
theorem rd_day (s : ByteArray) (Y M D h m ss u : Int) (w : World) (hl : s.size = 24) (hform : IsForm s.data.toList)
    (f1 : Fld s 0 4 Y) (f2 : Fld s 5 7 M) (f3 : Fld s 8 10 D) (f4 : Fld s 11 13 h) (f5 : Fld s 14 16 m) (f6 : Fld s 17 19 ss) (f7 : Fld s 20 23 u)
    (Y0 : 0 ≤ Y) (Y1 : Y ≤ 9999) (M0 : 0 ≤ M) (M1 : M ≤ 99) (D0 : 0 ≤ D) (D1 : D ≤ 99) (xh0 : 0 ≤ h) (xh1 : h ≤ 99) (xm0 : 0 ≤ m) (xm1 : m ≤ 99) (xs0 : 0 ≤ ss) (xs1 : ss ≤ 99) (xu0 : 0 ≤ u) (xu1 : u ≤ 999)
    (ok1 : 1970 ≤ Y) (ok2 : 1 ≤ M) (ok3 : M ≤ 12) (bad : ¬ (1 ≤ D ∧ D ≤ mD Y M)) :
    Calls Tryd.prog 13 #[.string s] w fun e w' => e = .returned (.tuple #[.int .i64 0, .int .i64 10]) ∧ ∃ q, w' = w.drewN q := by
  have F1 := Lib.hid f1; have F2 := Lib.hid f2; have F3 := Lib.hid f3; have F4 := Lib.hid f4; have F5 := Lib.hid f5; have F6 := Lib.hid f6; have F7 := Lib.hid f7; have HF := Lib.hid hform
  have hl2 : s.size ≤ 9223372036854775807 := by omega
  clear f1 f2 f3 f4 f5 f6 f7 hform
  have hy : decide (Y < 1970) = false := by simp only [decide_eq_false_iff_not]; omega
  obtain ⟨Z, hZ⟩ : ∃ Z, mD Y M = Z := ⟨_, rfl⟩
  have HZ := Lib.hid hZ
  have hzb := mD_bd Y M
  rw [hZ] at hzb
  obtain ⟨z0, z1⟩ := hzb
  rw [hZ] at bad
  clear hZ
  go_enter Tryd.func13, Tryd.ntmps13
  go_wp2_with fail
  refine (form_any s _ True hl2 ⟨fun _ => HF.out, fun _ => trivial⟩).mono ?_
  rintro e w1 ⟨rfl, hq1⟩
  have HQ1 := Lib.hid hq1
  clear hq1
  go_wp2_with fail
  go_quiet (first
    | (go_at_call_of 47 (s.extract 0 4); exact Calls.quiet_of (number_dr _ _ _ F1.out.size F1.out.dig F1.out.val))
    | (go_at_call_of 47 (s.extract 5 7); exact Calls.quiet_of (number_dr _ _ _ F2.out.size F2.out.dig F2.out.val))
    | (go_at_call_of 47 (s.extract 8 10); exact Calls.quiet_of (number_dr _ _ _ F3.out.size F3.out.dig F3.out.val)))
  have HQ2 : Hid (∃ q, w1.drewN nq = w.drewN q) := Lib.hid (drewN_ex HQ1.out nq)
  generalize w1.drewN nq = w2 at HQ2 ⊢
  go_wp2_with fail
  go_quiet (first
    | (go_at_call_of 47 (s.extract 11 13); exact Calls.quiet_of (number_dr _ _ _ F4.out.size F4.out.dig F4.out.val))
    | (go_at_call_of 47 (s.extract 14 16); exact Calls.quiet_of (number_dr _ _ _ F5.out.size F5.out.dig F5.out.val))
    | (go_at_call_of 47 (s.extract 17 19); exact Calls.quiet_of (number_dr _ _ _ F6.out.size F6.out.dig F6.out.val)))
  go_wp2_with fail
  refine (within_yes _ _ _ _ (by omega) (by omega)).mono ?_; rintro e w8 ⟨rfl, rfl⟩
  go_wp2_with fail
  refine (daysOfMonth_any Y M _ (by omega) (by omega)).mono ?_; rintro e w3 ⟨rfl, rfl⟩
  rw [HZ.out]
  go_wp2_with fail
  refine (within_no _ _ _ _ (by omega)).mono ?_; rintro e w8 ⟨rfl, rfl⟩
  go_wp2_with fail
  go_ret2
  exact ⟨rfl, drewN_ex HQ2.out _⟩

set_option maxRecDepth 100000 in
set_option maxHeartbeats 4000000 in
theorem rd_hour (s : ByteArray) (Y M D h m ss u : Int) (w : World) (hl : s.size = 24) (hform : IsForm s.data.toList)
    (f1 : Fld s 0 4 Y) (f2 : Fld s 5 7 M) (f3 : Fld s 8 10 D) (f4 : Fld s 11 13 h) (f5 : Fld s 14 16 m) (f6 : Fld s 17 19 ss) (f7 : Fld s 20 23 u)
    (Y0 : 0 ≤ Y) (Y1 : Y ≤ 9999) (M0 : 0 ≤ M) (M1 : M ≤ 99) (D0 : 0 ≤ D) (D1 : D ≤ 99) (xh0 : 0 ≤ h) (xh1 : h ≤ 99) (xm0 : 0 ≤ m) (xm1 : m ≤ 99) (xs0 : 0 ≤ ss) (xs1 : ss ≤ 99) (xu0 : 0 ≤ u) (xu1 : u ≤ 999)
    (ok1 : 1970 ≤ Y) (ok2 : 1 ≤ M) (ok3 : M ≤ 12) (ok4 : 1 ≤ D) (ok5 : D ≤ mD Y M) (bad : 23 < h) :
    Calls Tryd.prog 13 #[.string s] w fun e w' => e = .returned (.tuple #[.int .i64 0, .int .i64 10]) ∧ ∃ q, w' = w.drewN q := by
  have F1 := Lib.hid f1; have F2 := Lib.hid f2; have F3 := Lib.hid f3; have F4 := Lib.hid f4; have F5 := Lib.hid f5; have F6 := Lib.hid f6; have F7 := Lib.hid f7; have HF := Lib.hid hform
  have hl2 : s.size ≤ 9223372036854775807 := by omega
  clear f1 f2 f3 f4 f5 f6 f7 hform
  have hy : decide (Y < 1970) = false := by simp only [decide_eq_false_iff_not]; omega
  obtain ⟨Z, hZ⟩ : ∃ Z, mD Y M = Z := ⟨_, rfl⟩
  have HZ := Lib.hid hZ
  have hzb := mD_bd Y M
  rw [hZ] at hzb
  obtain ⟨z0, z1⟩ := hzb
  rw [hZ] at ok5
  clear hZ
  go_enter Tryd.func13, Tryd.ntmps13
  go_wp2_with fail
  refine (form_any s _ True hl2 ⟨fun _ => HF.out, fun _ => trivial⟩).mono ?_
  rintro e w1 ⟨rfl, hq1⟩
  have HQ1 := Lib.hid hq1
  clear hq1
  go_wp2_with fail
  go_quiet (first
    | (go_at_call_of 47 (s.extract 0 4); exact Calls.quiet_of (number_dr _ _ _ F1.out.size F1.out.dig F1.out.val))
    | (go_at_call_of 47 (s.extract 5 7); exact Calls.quiet_of (number_dr _ _ _ F2.out.size F2.out.dig F2.out.val))
    | (go_at_call_of 47 (s.extract 8 10); exact Calls.quiet_of (number_dr _ _ _ F3.out.size F3.out.dig F3.out.val)))
  have HQ2 : Hid (∃ q, w1.drewN nq = w.drewN q) := Lib.hid (drewN_ex HQ1.out nq)
  generalize w1.drewN nq = w2 at HQ2 ⊢
  go_wp2_with fail
  go_quiet (first
    | (go_at_call_of 47 (s.extract 11 13); exact Calls.quiet_of (number_dr _ _ _ F4.out.size F4.out.dig F4.out.val))
    | (go_at_call_of 47 (s.extract 14 16); exact Calls.quiet_of (number_dr _ _ _ F5.out.size F5.out.dig F5.out.val))
    | (go_at_call_of 47 (s.extract 17 19); exact Calls.quiet_of (number_dr _ _ _ F6.out.size F6.out.dig F6.out.val)))
  go_wp2_with fail
  refine (within_yes _ _ _ _ (by omega) (by omega)).mono ?_; rintro e w8 ⟨rfl, rfl⟩
  go_wp2_with fail
  refine (daysOfMonth_any Y M _ (by omega) (by omega)).mono ?_; rintro e w3 ⟨rfl, rfl⟩
  rw [HZ.out]
  go_wp2_with fail
  refine (within_yes _ _ _ _ (by omega) (by omega)).mono ?_; rintro e w8 ⟨rfl, rfl⟩
  go_wp2_with fail
  go_ret2
  exact ⟨rfl, drewN_ex HQ2.out _⟩

set_option maxRecDepth 100000 in
set_option maxHeartbeats 4000000 in
theorem rd_minute (s : ByteArray) (Y M D h m ss u : Int) (w : World) (hl : s.size = 24) (hform : IsForm s.data.toList)
    (f1 : Fld s 0 4 Y) (f2 : Fld s 5 7 M) (f3 : Fld s 8 10 D) (f4 : Fld s 11 13 h) (f5 : Fld s 14 16 m) (f6 : Fld s 17 19 ss) (f7 : Fld s 20 23 u)
    (Y0 : 0 ≤ Y) (Y1 : Y ≤ 9999) (M0 : 0 ≤ M) (M1 : M ≤ 99) (D0 : 0 ≤ D) (D1 : D ≤ 99) (xh0 : 0 ≤ h) (xh1 : h ≤ 99) (xm0 : 0 ≤ m) (xm1 : m ≤ 99) (xs0 : 0 ≤ ss) (xs1 : ss ≤ 99) (xu0 : 0 ≤ u) (xu1 : u ≤ 999)
    (ok1 : 1970 ≤ Y) (ok2 : 1 ≤ M) (ok3 : M ≤ 12) (ok4 : 1 ≤ D) (ok5 : D ≤ mD Y M) (ok6 : h ≤ 23) (bad : 59 < m) :
    Calls Tryd.prog 13 #[.string s] w fun e w' => e = .returned (.tuple #[.int .i64 0, .int .i64 10]) ∧ ∃ q, w' = w.drewN q := by
  have F1 := Lib.hid f1; have F2 := Lib.hid f2; have F3 := Lib.hid f3; have F4 := Lib.hid f4; have F5 := Lib.hid f5; have F6 := Lib.hid f6; have F7 := Lib.hid f7; have HF := Lib.hid hform
  have hl2 : s.size ≤ 9223372036854775807 := by omega
  clear f1 f2 f3 f4 f5 f6 f7 hform
  have hy : decide (Y < 1970) = false := by simp only [decide_eq_false_iff_not]; omega
  obtain ⟨Z, hZ⟩ : ∃ Z, mD Y M = Z := ⟨_, rfl⟩
  have HZ := Lib.hid hZ
  have hzb := mD_bd Y M
  rw [hZ] at hzb
  obtain ⟨z0, z1⟩ := hzb
  rw [hZ] at ok5
  clear hZ
  have hh : decide (23 < h) = false := by simp only [decide_eq_false_iff_not]; omega
  go_enter Tryd.func13, Tryd.ntmps13
  go_wp2_with fail
  refine (form_any s _ True hl2 ⟨fun _ => HF.out, fun _ => trivial⟩).mono ?_
  rintro e w1 ⟨rfl, hq1⟩
  have HQ1 := Lib.hid hq1
  clear hq1
  go_wp2_with fail
  go_quiet (first
    | (go_at_call_of 47 (s.extract 0 4); exact Calls.quiet_of (number_dr _ _ _ F1.out.size F1.out.dig F1.out.val))
    | (go_at_call_of 47 (s.extract 5 7); exact Calls.quiet_of (number_dr _ _ _ F2.out.size F2.out.dig F2.out.val))
    | (go_at_call_of 47 (s.extract 8 10); exact Calls.quiet_of (number_dr _ _ _ F3.out.size F3.out.dig F3.out.val)))
  have HQ2 : Hid (∃ q, w1.drewN nq = w.drewN q) := Lib.hid (drewN_ex HQ1.out nq)
  generalize w1.drewN nq = w2 at HQ2 ⊢
  go_wp2_with fail
  go_quiet (first
    | (go_at_call_of 47 (s.extract 11 13); exact Calls.quiet_of (number_dr _ _ _ F4.out.size F4.out.dig F4.out.val))
    | (go_at_call_of 47 (s.extract 14 16); exact Calls.quiet_of (number_dr _ _ _ F5.out.size F5.out.dig F5.out.val))
    | (go_at_call_of 47 (s.extract 17 19); exact Calls.quiet_of (number_dr _ _ _ F6.out.size F6.out.dig F6.out.val)))
  go_wp2_with fail
  refine (within_yes _ _ _ _ (by omega) (by omega)).mono ?_; rintro e w8 ⟨rfl, rfl⟩
  go_wp2_with fail
  refine (daysOfMonth_any Y M _ (by omega) (by omega)).mono ?_; rintro e w3 ⟨rfl, rfl⟩
  rw [HZ.out]
  go_wp2_with fail
  refine (within_yes _ _ _ _ (by omega) (by omega)).mono ?_; rintro e w8 ⟨rfl, rfl⟩
  go_wp2_with fail
  go_ret2
  exact ⟨rfl, drewN_ex HQ2.out _⟩

set_option maxRecDepth 100000 in
set_option maxHeartbeats 4000000 in
theorem rd_second (s : ByteArray) (Y M D h m ss u : Int) (w : World) (hl : s.size = 24) (hform : IsForm s.data.toList)
    (f1 : Fld s 0 4 Y) (f2 : Fld s 5 7 M) (f3 : Fld s 8 10 D) (f4 : Fld s 11 13 h) (f5 : Fld s 14 16 m) (f6 : Fld s 17 19 ss) (f7 : Fld s 20 23 u)
    (Y0 : 0 ≤ Y) (Y1 : Y ≤ 9999) (M0 : 0 ≤ M) (M1 : M ≤ 99) (D0 : 0 ≤ D) (D1 : D ≤ 99) (xh0 : 0 ≤ h) (xh1 : h ≤ 99) (xm0 : 0 ≤ m) (xm1 : m ≤ 99) (xs0 : 0 ≤ ss) (xs1 : ss ≤ 99) (xu0 : 0 ≤ u) (xu1 : u ≤ 999)
    (ok1 : 1970 ≤ Y) (ok2 : 1 ≤ M) (ok3 : M ≤ 12) (ok4 : 1 ≤ D) (ok5 : D ≤ mD Y M) (ok6 : h ≤ 23) (ok7 : m ≤ 59) (bad : 59 < ss) :
    Calls Tryd.prog 13 #[.string s] w fun e w' => e = .returned (.tuple #[.int .i64 0, .int .i64 10]) ∧ ∃ q, w' = w.drewN q := by
  have F1 := Lib.hid f1; have F2 := Lib.hid f2; have F3 := Lib.hid f3; have F4 := Lib.hid f4; have F5 := Lib.hid f5; have F6 := Lib.hid f6; have F7 := Lib.hid f7; have HF := Lib.hid hform
  have hl2 : s.size ≤ 9223372036854775807 := by omega
  clear f1 f2 f3 f4 f5 f6 f7 hform
  have hy : decide (Y < 1970) = false := by simp only [decide_eq_false_iff_not]; omega
  obtain ⟨Z, hZ⟩ : ∃ Z, mD Y M = Z := ⟨_, rfl⟩
  have HZ := Lib.hid hZ
  have hzb := mD_bd Y M
  rw [hZ] at hzb
  obtain ⟨z0, z1⟩ := hzb
  rw [hZ] at ok5
  clear hZ
  have hh : decide (23 < h) = false := by simp only [decide_eq_false_iff_not]; omega
  have hm : decide (59 < m) = false := by simp only [decide_eq_false_iff_not]; omega
  go_enter Tryd.func13, Tryd.ntmps13
  go_wp2_with fail
  refine (form_any s _ True hl2 ⟨fun _ => HF.out, fun _ => trivial⟩).mono ?_
  rintro e w1 ⟨rfl, hq1⟩
  have HQ1 := Lib.hid hq1
  clear hq1
  go_wp2_with fail
  go_quiet (first
    | (go_at_call_of 47 (s.extract 0 4); exact Calls.quiet_of (number_dr _ _ _ F1.out.size F1.out.dig F1.out.val))
    | (go_at_call_of 47 (s.extract 5 7); exact Calls.quiet_of (number_dr _ _ _ F2.out.size F2.out.dig F2.out.val))
    | (go_at_call_of 47 (s.extract 8 10); exact Calls.quiet_of (number_dr _ _ _ F3.out.size F3.out.dig F3.out.val)))
  have HQ2 : Hid (∃ q, w1.drewN nq = w.drewN q) := Lib.hid (drewN_ex HQ1.out nq)
  generalize w1.drewN nq = w2 at HQ2 ⊢
  go_wp2_with fail
  go_quiet (first
    | (go_at_call_of 47 (s.extract 11 13); exact Calls.quiet_of (number_dr _ _ _ F4.out.size F4.out.dig F4.out.val))
    | (go_at_call_of 47 (s.extract 14 16); exact Calls.quiet_of (number_dr _ _ _ F5.out.size F5.out.dig F5.out.val))
    | (go_at_call_of 47 (s.extract 17 19); exact Calls.quiet_of (number_dr _ _ _ F6.out.size F6.out.dig F6.out.val)))
  go_wp2_with fail
  refine (within_yes _ _ _ _ (by omega) (by omega)).mono ?_; rintro e w8 ⟨rfl, rfl⟩
  go_wp2_with fail
  refine (daysOfMonth_any Y M _ (by omega) (by omega)).mono ?_; rintro e w3 ⟨rfl, rfl⟩
  rw [HZ.out]
  go_wp2_with fail
  refine (within_yes _ _ _ _ (by omega) (by omega)).mono ?_; rintro e w8 ⟨rfl, rfl⟩
  go_wp2_with fail
  go_ret2
  exact ⟨rfl, drewN_ex HQ2.out _⟩

set_option maxRecDepth 100000 in
set_option maxHeartbeats 4000000 in
theorem rd_good (s : ByteArray) (Y M D h m ss u : Int) (w : World) (hl : s.size = 24) (hform : IsForm s.data.toList)
    (f1 : Fld s 0 4 Y) (f2 : Fld s 5 7 M) (f3 : Fld s 8 10 D) (f4 : Fld s 11 13 h) (f5 : Fld s 14 16 m) (f6 : Fld s 17 19 ss) (f7 : Fld s 20 23 u)
    (Y0 : 0 ≤ Y) (Y1 : Y ≤ 9999) (M0 : 0 ≤ M) (M1 : M ≤ 99) (D0 : 0 ≤ D) (D1 : D ≤ 99) (xh0 : 0 ≤ h) (xh1 : h ≤ 99) (xm0 : 0 ≤ m) (xm1 : m ≤ 99) (xs0 : 0 ≤ ss) (xs1 : ss ≤ 99) (xu0 : 0 ≤ u) (xu1 : u ≤ 999)
    (ok1 : 1970 ≤ Y) (ok2 : 1 ≤ M) (ok3 : M ≤ 12) (ok4 : 1 ≤ D) (ok5 : D ≤ mD Y M) (ok6 : h ≤ 23) (ok7 : m ≤ 59) (ok8 : ss ≤ 59) :
    Calls Tryd.prog 13 #[.string s] w fun e w' => e = .returned (.tuple #[.int .i64 (dateN Y M D h m ss u), .int .i64 0]) ∧ ∃ q, w' = w.drewN q := by
  have F1 := Lib.hid f1; have F2 := Lib.hid f2; have F3 := Lib.hid f3; have F4 := Lib.hid f4; have F5 := Lib.hid f5; have F6 := Lib.hid f6; have F7 := Lib.hid f7; have HF := Lib.hid hform
  have hl2 : s.size ≤ 9223372036854775807 := by omega
  clear f1 f2 f3 f4 f5 f6 f7 hform
  have hy : decide (Y < 1970) = false := by simp only [decide_eq_false_iff_not]; omega
  obtain ⟨Z, hZ⟩ : ∃ Z, mD Y M = Z := ⟨_, rfl⟩
  have HZ := Lib.hid hZ
  have hzb := mD_bd Y M
  rw [hZ] at hzb
  obtain ⟨z0, z1⟩ := hzb
  rw [hZ] at ok5
  clear hZ
  have hh : decide (23 < h) = false := by simp only [decide_eq_false_iff_not]; omega
  have hm : decide (59 < m) = false := by simp only [decide_eq_false_iff_not]; omega
  have hs : decide (59 < ss) = false := by simp only [decide_eq_false_iff_not]; omega
  have hb0 := dB_mono ok1
  have hb1 := dB_up ok1
  rw [dB_1970] at hb0 hb1
  obtain ⟨B, hB⟩ : ∃ B, dB Y = B := ⟨_, rfl⟩
  rw [hB] at hb0 hb1
  have bb0 : 0 ≤ B := by omega
  have bb1 : B ≤ 3000000 := by omega
  have HB := Lib.hid hB
  clear hB hb0 hb1
  go_enter Tryd.func13, Tryd.ntmps13
  go_wp2_with fail
  refine (form_any s _ True hl2 ⟨fun _ => HF.out, fun _ => trivial⟩).mono ?_
  rintro e w1 ⟨rfl, hq1⟩
  have HQ1 := Lib.hid hq1
  clear hq1
  go_wp2_with fail
  go_quiet (first
    | (go_at_call_of 47 (s.extract 0 4); exact Calls.quiet_of (number_dr _ _ _ F1.out.size F1.out.dig F1.out.val))
    | (go_at_call_of 47 (s.extract 5 7); exact Calls.quiet_of (number_dr _ _ _ F2.out.size F2.out.dig F2.out.val))
    | (go_at_call_of 47 (s.extract 8 10); exact Calls.quiet_of (number_dr _ _ _ F3.out.size F3.out.dig F3.out.val)))
  have HQ2 : Hid (∃ q, w1.drewN nq = w.drewN q) := Lib.hid (drewN_ex HQ1.out nq)
  generalize w1.drewN nq = w2 at HQ2 ⊢
  go_wp2_with fail
  go_quiet (first
    | (go_at_call_of 47 (s.extract 11 13); exact Calls.quiet_of (number_dr _ _ _ F4.out.size F4.out.dig F4.out.val))
    | (go_at_call_of 47 (s.extract 14 16); exact Calls.quiet_of (number_dr _ _ _ F5.out.size F5.out.dig F5.out.val))
    | (go_at_call_of 47 (s.extract 17 19); exact Calls.quiet_of (number_dr _ _ _ F6.out.size F6.out.dig F6.out.val)))
  go_wp2_with fail
  refine (within_yes _ _ _ _ (by omega) (by omega)).mono ?_; rintro e w8 ⟨rfl, rfl⟩
  go_wp2_with fail
  refine (daysOfMonth_any Y M _ (by omega) (by omega)).mono ?_; rintro e w3 ⟨rfl, rfl⟩
  rw [HZ.out]
  go_wp2_with fail
  refine (within_yes _ _ _ _ (by omega) (by omega)).mono ?_; rintro e w8 ⟨rfl, rfl⟩
  go_wp2_with fail
  refine (daysBefore_any Y _ (by omega) (by omega)).mono ?_; rintro e w5 ⟨rfl, rfl⟩
  rw [HB.out]
  go_wp2_with fail
  go_loopw [10, 11] (fun vd vm wx => ∃ (d : Int) (k : Nat), (k : Int) + 1 ≤ M ∧ 0 ≤ d ∧ d ≤ 3001000 ∧ vd = .int .i64 d ∧ vm = .int .i64 ((k : Int) + 1) ∧ Hid (d = B + mS Y k + D - 1) ∧ Hid (∃ q, wx = w.drewN q)) (fun _ vm _ => (M - intOf vm).toNat)
  case atStart => exact ⟨B + D - 1, 0, by omega, by omega, by omega, by go_num, by go_num, Lib.hid (by simp [mS]), Lib.hid (drewN_ex HQ2.out _)⟩
  case round =>
    obtain ⟨d, k, hk, d0, d1, rfl, rfl, HD, HQ⟩ := hrel
    have hmb := mS_bd Y (k + 1)
    have hms : mS Y (k + 1) = mS Y k + mD Y ((k : Int) + 1) := rfl
    have hzb := mD_bd Y ((k : Int) + 1)
    obtain ⟨X, hX⟩ : ∃ X, mD Y ((k : Int) + 1) = X := ⟨_, rfl⟩
    rw [hX] at hms hzb
    obtain ⟨x0, x1⟩ := hzb
    have hdn : d + X = B + mS Y (k + 1) + D - 1 := by have := HD.out; omega
    have hd2 : d + X ≤ 3001000 := by omega
    have HX := Lib.hid hX; have HDN := Lib.hid hdn
    clear hX hms hmb hdn
    by_cases hlt : (k : Int) + 1 < M
    · go_wp2_with fail
      refine (daysOfMonth_any Y ((k : Int) + 1) _ (by omega) (by omega)).mono ?_; rintro e w6 ⟨rfl, rfl⟩
      rw [HX.out]
      go_wp2_with fail
      go_roundw
      case rel => exact ⟨d + X, k + 1, by omega, by omega, hd2, by go_num, by go_num, HDN, HQ⟩
      case measure => simp [intOf]; omega
    · have hlt' : decide ((k : Int) + 1 < M) = false := by simp only [decide_eq_false_iff_not]; exact hlt
      have hkM : (M - 1).toNat = k := by omega
      have hfin : dateN Y M D h m ss u = d * 86400000 + h * 3600000 + m * 60000 + ss * 1000 + u := by
        unfold dateN; rw [hkM, HB.out, ← HD.out]
      have HFIN := Lib.hid hfin
      clear hfin hlt hkM
      go_wp2_with fail
      refine (number_dr (s.extract 20 23) u _ F7.out.size F7.out.dig F7.out.val).mono ?_; rintro e w7 ⟨rfl, k7, rfl⟩
      go_wp2_with fail
      go_ret2
      exact ⟨ret2_ii HFIN.out.symm rfl, drewN_ex HQ.out _⟩

end Go.Proofs.YtppaklifacadpaaDoor
