/- The law: a moment is read as it was written, and a later one is written as a greater text. -/
import Derived.Test.YtppaklifacadpaaDoorDateAny
namespace Go.Proofs.YtppaklifacadpaaDoor
set_option linter.unusedVariables false
set_option linter.unusedSimpArgs false
open Go.RowKit

theorem less_eq : ∀ (x y : List UInt8), Op.bytesLess x y = decide (x < y)
  | [], [] => by simp [Op.bytesLess]
  | _ :: _, [] => by simp [Op.bytesLess]
  | [], _ :: _ => by simp [Op.bytesLess]
  | a :: x, b :: y => by
    rw [Op.bytesLess, less_eq x y, Bool.eq_iff_iff]
    simp only [Bool.or_eq_true, Bool.and_eq_true, decide_eq_true_eq, beq_iff_eq, List.cons_lt_cons_iff]

theorem date_size {s : ByteArray} {n : Int} (h : IsDate s.data.toList n) : s.size = 24 := by
  have hsz : s.size = s.data.toList.length := by rw [Array.length_toList]; rfl
  rw [hsz]; exact isDate_len h

set_option maxRecDepth 100000 in
set_option maxHeartbeats 4000000 in
theorem back_111 (a b : Int) (t : ByteArray) (w : World) (htab : Tab w) (hs : t.size ≤ 9223372036854775807) (a0 : 0 ≤ a) (a1 : a ≤ 253402300799999) (b0 : 0 ≤ b) (b1 : b ≤ 253402300799999) (n : Int) (ht : IsDate t.data.toList n) :
    Calls Tryd.prog 5 #[.int .i64 a, .int .i64 b, .string t] w fun e w' => e = .returned (.bool true) ∧ Below w.heap.size w w' := by
  have HT := Lib.hid htab; have TT := Lib.hid ht
  obtain ⟨n0, n1⟩ := isDate_bd ht
  clear htab ht
  have B0 : Hid (Below w.heap.size w w) := Lib.hid (Below.refl _ _)
  go_enter Tryd.func5, Tryd.ntmps5
  go_wp2_with fail
  refine (date_good a _ HT.out a0 a1).mono ?_; rintro e w1 ⟨⟨S, rfl, hS⟩, b'⟩
  have HS := Lib.hid hS; have B1 := Lib.hid b'; clear hS b'
  go_wp2_with fail
  refine (date_good b _ (HT.out.below B1.out (Nat.le_refl _)) b0 b1).mono ?_; rintro e w2 ⟨⟨Z, rfl, hZ⟩, b'⟩
  have HZ := Lib.hid hZ; have B2 := Lib.hid (B1.out.trans (b'.mono B1.out.size)); clear hZ b'
  have hsz := date_size HS.out
  have h24 : ((S.size : Int) == 24) = true := by simp; omega
  have h24' : ((S.size : Int) != 24) = false := by simp; omega
  have HLT := Lib.hid (isDate_lt HS.out HZ.out)
  go_wp2_with fail
  refine (read_good S a _ HS.out).mono ?_; rintro e w3 ⟨rfl, q3, hw⟩
  have B3 : Hid (Below w.heap.size w w3) := Lib.hid (by rw [hw]; exact below_drewN B2.out _)
  clear hw
  by_cases hab : a < b
  · have hlt : Op.bytesLess S.toList Z.toList = true := by rw [less_eq, decide_eq_true_eq, ByteArray.toList_eq, ByteArray.toList_eq, HLT.out]; omega
    have hab' : decide (a < b) = true := by simp only [decide_eq_true_eq]; exact hab
    go_wp2_with fail
    refine (read_good t n _ TT.out).mono ?_; rintro e w4 ⟨rfl, q4, hw⟩
    have B4 : Hid (Below w.heap.size w w4) := Lib.hid (by rw [hw]; exact below_drewN B3.out _)
    clear hw
    go_wp2_with fail
    refine (date_good n _ (HT.out.below B4.out (Nat.le_refl _)) n0 n1).mono ?_; rintro e w5 ⟨⟨V, rfl, hV⟩, b'⟩
    have B5 := Lib.hid (B4.out.trans (b'.mono B4.out.size)); clear b'
    obtain rfl : V = t := same_text _ _ (isDate_text hV TT.out)
    clear hV
    go_wp2_with fail
    refine (awake_any _).mono ?_; rintro e w6 ⟨rfl, k6, hw⟩
    have B6 : Hid (Below w.heap.size w w6) := Lib.hid (by rw [hw]; exact below_drewN B5.out _)
    clear hw
    go_wp2_with fail
    go_ret
    exact ⟨rfl, B6.out⟩
  · have hlt : Op.bytesLess S.toList Z.toList = false := by rw [less_eq, decide_eq_false_iff_not, ByteArray.toList_eq, ByteArray.toList_eq, HLT.out]; omega
    have hab' : decide (a < b) = false := by simp only [decide_eq_false_iff_not]; exact hab
    go_wp2_with fail
    refine (read_good t n _ TT.out).mono ?_; rintro e w4 ⟨rfl, q4, hw⟩
    have B4 : Hid (Below w.heap.size w w4) := Lib.hid (by rw [hw]; exact below_drewN B3.out _)
    clear hw
    go_wp2_with fail
    refine (date_good n _ (HT.out.below B4.out (Nat.le_refl _)) n0 n1).mono ?_; rintro e w5 ⟨⟨V, rfl, hV⟩, b'⟩
    have B5 := Lib.hid (B4.out.trans (b'.mono B4.out.size)); clear b'
    obtain rfl : V = t := same_text _ _ (isDate_text hV TT.out)
    clear hV
    go_wp2_with fail
    refine (awake_any _).mono ?_; rintro e w6 ⟨rfl, k6, hw⟩
    have B6 : Hid (Below w.heap.size w w6) := Lib.hid (by rw [hw]; exact below_drewN B5.out _)
    clear hw
    go_wp2_with fail
    go_ret
    exact ⟨rfl, B6.out⟩

set_option maxRecDepth 100000 in
set_option maxHeartbeats 4000000 in
theorem back_110 (a b : Int) (t : ByteArray) (w : World) (htab : Tab w) (hs : t.size ≤ 9223372036854775807) (a0 : 0 ≤ a) (a1 : a ≤ 253402300799999) (b0 : 0 ≤ b) (b1 : b ≤ 253402300799999) (ht : ¬ ∃ n, IsDate t.data.toList n) :
    Calls Tryd.prog 5 #[.int .i64 a, .int .i64 b, .string t] w fun e w' => e = .returned (.bool true) ∧ Below w.heap.size w w' := by
  have HT := Lib.hid htab; have TT := Lib.hid ht
  clear htab ht
  have B0 : Hid (Below w.heap.size w w) := Lib.hid (Below.refl _ _)
  go_enter Tryd.func5, Tryd.ntmps5
  go_wp2_with fail
  refine (date_good a _ HT.out a0 a1).mono ?_; rintro e w1 ⟨⟨S, rfl, hS⟩, b'⟩
  have HS := Lib.hid hS; have B1 := Lib.hid b'; clear hS b'
  go_wp2_with fail
  refine (date_good b _ (HT.out.below B1.out (Nat.le_refl _)) b0 b1).mono ?_; rintro e w2 ⟨⟨Z, rfl, hZ⟩, b'⟩
  have HZ := Lib.hid hZ; have B2 := Lib.hid (B1.out.trans (b'.mono B1.out.size)); clear hZ b'
  have hsz := date_size HS.out
  have h24 : ((S.size : Int) == 24) = true := by simp; omega
  have h24' : ((S.size : Int) != 24) = false := by simp; omega
  have HLT := Lib.hid (isDate_lt HS.out HZ.out)
  go_wp2_with fail
  refine (read_good S a _ HS.out).mono ?_; rintro e w3 ⟨rfl, q3, hw⟩
  have B3 : Hid (Below w.heap.size w w3) := Lib.hid (by rw [hw]; exact below_drewN B2.out _)
  clear hw
  by_cases hab : a < b
  · have hlt : Op.bytesLess S.toList Z.toList = true := by rw [less_eq, decide_eq_true_eq, ByteArray.toList_eq, ByteArray.toList_eq, HLT.out]; omega
    have hab' : decide (a < b) = true := by simp only [decide_eq_true_eq]; exact hab
    go_wp2_with fail
    refine (read_bad t _ hs TT.out).mono ?_; rintro e w4 ⟨rfl, q4, hw⟩
    have B4 : Hid (Below w.heap.size w w4) := Lib.hid (by rw [hw]; exact below_drewN B3.out _)
    clear hw
    go_wp2_with fail
    refine (awake_any _).mono ?_; rintro e w6 ⟨rfl, k6, hw⟩
    have B6 : Hid (Below w.heap.size w w6) := Lib.hid (by rw [hw]; exact below_drewN B4.out _)
    clear hw
    go_wp2_with fail
    go_ret
    exact ⟨rfl, B6.out⟩
  · have hlt : Op.bytesLess S.toList Z.toList = false := by rw [less_eq, decide_eq_false_iff_not, ByteArray.toList_eq, ByteArray.toList_eq, HLT.out]; omega
    have hab' : decide (a < b) = false := by simp only [decide_eq_false_iff_not]; exact hab
    go_wp2_with fail
    refine (read_bad t _ hs TT.out).mono ?_; rintro e w4 ⟨rfl, q4, hw⟩
    have B4 : Hid (Below w.heap.size w w4) := Lib.hid (by rw [hw]; exact below_drewN B3.out _)
    clear hw
    go_wp2_with fail
    refine (awake_any _).mono ?_; rintro e w6 ⟨rfl, k6, hw⟩
    have B6 : Hid (Below w.heap.size w w6) := Lib.hid (by rw [hw]; exact below_drewN B4.out _)
    clear hw
    go_wp2_with fail
    go_ret
    exact ⟨rfl, B6.out⟩

set_option maxRecDepth 100000 in
set_option maxHeartbeats 4000000 in
theorem back_101 (a b : Int) (t : ByteArray) (w : World) (htab : Tab w) (hs : t.size ≤ 9223372036854775807) (a0 : 0 ≤ a) (a1 : a ≤ 253402300799999) (b0 : b < 0 ∨ 253402300799999 < b) (n : Int) (ht : IsDate t.data.toList n) :
    Calls Tryd.prog 5 #[.int .i64 a, .int .i64 b, .string t] w fun e w' => e = .returned (.bool true) ∧ Below w.heap.size w w' := by
  have HT := Lib.hid htab; have TT := Lib.hid ht
  have B0' := Lib.hid b0; clear b0
  obtain ⟨n0, n1⟩ := isDate_bd ht
  clear htab ht
  have B0 : Hid (Below w.heap.size w w) := Lib.hid (Below.refl _ _)
  go_enter Tryd.func5, Tryd.ntmps5
  go_wp2_with fail
  refine (date_good a _ HT.out a0 a1).mono ?_; rintro e w1 ⟨⟨S, rfl, hS⟩, b'⟩
  have HS := Lib.hid hS; have B1 := Lib.hid b'; clear hS b'
  go_wp2_with fail
  refine (date_bad b _ B0'.out).mono ?_; rintro e w2 ⟨rfl, rfl⟩
  go_wp2_with fail
  refine (read_good t n _ TT.out).mono ?_; rintro e w4 ⟨rfl, q4, hw⟩
  have B4 : Hid (Below w.heap.size w w4) := Lib.hid (by rw [hw]; exact below_drewN B1.out _)
  clear hw
  go_wp2_with fail
  refine (date_good n _ (HT.out.below B4.out (Nat.le_refl _)) n0 n1).mono ?_; rintro e w5 ⟨⟨V, rfl, hV⟩, b'⟩
  have B5 := Lib.hid (B4.out.trans (b'.mono B4.out.size)); clear b'
  obtain rfl : V = t := same_text _ _ (isDate_text hV TT.out)
  clear hV
  go_wp2_with fail
  refine (awake_any _).mono ?_; rintro e w6 ⟨rfl, k6, hw⟩
  have B6 : Hid (Below w.heap.size w w6) := Lib.hid (by rw [hw]; exact below_drewN B5.out _)
  clear hw
  go_wp2_with fail
  go_ret
  exact ⟨rfl, B6.out⟩

set_option maxRecDepth 100000 in
set_option maxHeartbeats 4000000 in
theorem back_100 (a b : Int) (t : ByteArray) (w : World) (htab : Tab w) (hs : t.size ≤ 9223372036854775807) (a0 : 0 ≤ a) (a1 : a ≤ 253402300799999) (b0 : b < 0 ∨ 253402300799999 < b) (ht : ¬ ∃ n, IsDate t.data.toList n) :
    Calls Tryd.prog 5 #[.int .i64 a, .int .i64 b, .string t] w fun e w' => e = .returned (.bool true) ∧ Below w.heap.size w w' := by
  have HT := Lib.hid htab; have TT := Lib.hid ht
  have B0' := Lib.hid b0; clear b0
  clear htab ht
  have B0 : Hid (Below w.heap.size w w) := Lib.hid (Below.refl _ _)
  go_enter Tryd.func5, Tryd.ntmps5
  go_wp2_with fail
  refine (date_good a _ HT.out a0 a1).mono ?_; rintro e w1 ⟨⟨S, rfl, hS⟩, b'⟩
  have HS := Lib.hid hS; have B1 := Lib.hid b'; clear hS b'
  go_wp2_with fail
  refine (date_bad b _ B0'.out).mono ?_; rintro e w2 ⟨rfl, rfl⟩
  go_wp2_with fail
  refine (read_bad t _ hs TT.out).mono ?_; rintro e w4 ⟨rfl, q4, hw⟩
  have B4 : Hid (Below w.heap.size w w4) := Lib.hid (by rw [hw]; exact below_drewN B1.out _)
  clear hw
  go_wp2_with fail
  refine (awake_any _).mono ?_; rintro e w6 ⟨rfl, k6, hw⟩
  have B6 : Hid (Below w.heap.size w w6) := Lib.hid (by rw [hw]; exact below_drewN B4.out _)
  clear hw
  go_wp2_with fail
  go_ret
  exact ⟨rfl, B6.out⟩

set_option maxRecDepth 100000 in
set_option maxHeartbeats 4000000 in
theorem back_011 (a b : Int) (t : ByteArray) (w : World) (htab : Tab w) (hs : t.size ≤ 9223372036854775807) (a0 : a < 0 ∨ 253402300799999 < a) (b0 : 0 ≤ b) (b1 : b ≤ 253402300799999) (n : Int) (ht : IsDate t.data.toList n) :
    Calls Tryd.prog 5 #[.int .i64 a, .int .i64 b, .string t] w fun e w' => e = .returned (.bool true) ∧ Below w.heap.size w w' := by
  have HT := Lib.hid htab; have TT := Lib.hid ht
  have A0 := Lib.hid a0; clear a0
  obtain ⟨n0, n1⟩ := isDate_bd ht
  clear htab ht
  have B0 : Hid (Below w.heap.size w w) := Lib.hid (Below.refl _ _)
  go_enter Tryd.func5, Tryd.ntmps5
  go_wp2_with fail
  refine (date_bad a _ A0.out).mono ?_; rintro e w1 ⟨rfl, rfl⟩
  go_wp2_with fail
  refine (date_good b _ (HT.out.below B0.out (Nat.le_refl _)) b0 b1).mono ?_; rintro e w2 ⟨⟨Z, rfl, hZ⟩, b'⟩
  have HZ := Lib.hid hZ; have B2 := Lib.hid (B0.out.trans (b'.mono B0.out.size)); clear hZ b'
  go_wp2_with fail
  refine (read_good t n _ TT.out).mono ?_; rintro e w4 ⟨rfl, q4, hw⟩
  have B4 : Hid (Below w.heap.size w w4) := Lib.hid (by rw [hw]; exact below_drewN B2.out _)
  clear hw
  go_wp2_with fail
  refine (date_good n _ (HT.out.below B4.out (Nat.le_refl _)) n0 n1).mono ?_; rintro e w5 ⟨⟨V, rfl, hV⟩, b'⟩
  have B5 := Lib.hid (B4.out.trans (b'.mono B4.out.size)); clear b'
  obtain rfl : V = t := same_text _ _ (isDate_text hV TT.out)
  clear hV
  go_wp2_with fail
  refine (awake_any _).mono ?_; rintro e w6 ⟨rfl, k6, hw⟩
  have B6 : Hid (Below w.heap.size w w6) := Lib.hid (by rw [hw]; exact below_drewN B5.out _)
  clear hw
  go_wp2_with fail
  go_ret
  exact ⟨rfl, B6.out⟩

set_option maxRecDepth 100000 in
set_option maxHeartbeats 4000000 in
theorem back_010 (a b : Int) (t : ByteArray) (w : World) (htab : Tab w) (hs : t.size ≤ 9223372036854775807) (a0 : a < 0 ∨ 253402300799999 < a) (b0 : 0 ≤ b) (b1 : b ≤ 253402300799999) (ht : ¬ ∃ n, IsDate t.data.toList n) :
    Calls Tryd.prog 5 #[.int .i64 a, .int .i64 b, .string t] w fun e w' => e = .returned (.bool true) ∧ Below w.heap.size w w' := by
  have HT := Lib.hid htab; have TT := Lib.hid ht
  have A0 := Lib.hid a0; clear a0
  clear htab ht
  have B0 : Hid (Below w.heap.size w w) := Lib.hid (Below.refl _ _)
  go_enter Tryd.func5, Tryd.ntmps5
  go_wp2_with fail
  refine (date_bad a _ A0.out).mono ?_; rintro e w1 ⟨rfl, rfl⟩
  go_wp2_with fail
  refine (date_good b _ (HT.out.below B0.out (Nat.le_refl _)) b0 b1).mono ?_; rintro e w2 ⟨⟨Z, rfl, hZ⟩, b'⟩
  have HZ := Lib.hid hZ; have B2 := Lib.hid (B0.out.trans (b'.mono B0.out.size)); clear hZ b'
  go_wp2_with fail
  refine (read_bad t _ hs TT.out).mono ?_; rintro e w4 ⟨rfl, q4, hw⟩
  have B4 : Hid (Below w.heap.size w w4) := Lib.hid (by rw [hw]; exact below_drewN B2.out _)
  clear hw
  go_wp2_with fail
  refine (awake_any _).mono ?_; rintro e w6 ⟨rfl, k6, hw⟩
  have B6 : Hid (Below w.heap.size w w6) := Lib.hid (by rw [hw]; exact below_drewN B4.out _)
  clear hw
  go_wp2_with fail
  go_ret
  exact ⟨rfl, B6.out⟩

set_option maxRecDepth 100000 in
set_option maxHeartbeats 4000000 in
theorem back_001 (a b : Int) (t : ByteArray) (w : World) (htab : Tab w) (hs : t.size ≤ 9223372036854775807) (a0 : a < 0 ∨ 253402300799999 < a) (b0 : b < 0 ∨ 253402300799999 < b) (n : Int) (ht : IsDate t.data.toList n) :
    Calls Tryd.prog 5 #[.int .i64 a, .int .i64 b, .string t] w fun e w' => e = .returned (.bool true) ∧ Below w.heap.size w w' := by
  have HT := Lib.hid htab; have TT := Lib.hid ht
  have A0 := Lib.hid a0; clear a0
  have B0' := Lib.hid b0; clear b0
  obtain ⟨n0, n1⟩ := isDate_bd ht
  clear htab ht
  have B0 : Hid (Below w.heap.size w w) := Lib.hid (Below.refl _ _)
  go_enter Tryd.func5, Tryd.ntmps5
  go_wp2_with fail
  refine (date_bad a _ A0.out).mono ?_; rintro e w1 ⟨rfl, rfl⟩
  go_wp2_with fail
  refine (date_bad b _ B0'.out).mono ?_; rintro e w2 ⟨rfl, rfl⟩
  go_wp2_with fail
  refine (read_good t n _ TT.out).mono ?_; rintro e w4 ⟨rfl, q4, hw⟩
  have B4 : Hid (Below w.heap.size w w4) := Lib.hid (by rw [hw]; exact below_drewN B0.out _)
  clear hw
  go_wp2_with fail
  refine (date_good n _ (HT.out.below B4.out (Nat.le_refl _)) n0 n1).mono ?_; rintro e w5 ⟨⟨V, rfl, hV⟩, b'⟩
  have B5 := Lib.hid (B4.out.trans (b'.mono B4.out.size)); clear b'
  obtain rfl : V = t := same_text _ _ (isDate_text hV TT.out)
  clear hV
  go_wp2_with fail
  refine (awake_any _).mono ?_; rintro e w6 ⟨rfl, k6, hw⟩
  have B6 : Hid (Below w.heap.size w w6) := Lib.hid (by rw [hw]; exact below_drewN B5.out _)
  clear hw
  go_wp2_with fail
  go_ret
  exact ⟨rfl, B6.out⟩

set_option maxRecDepth 100000 in
set_option maxHeartbeats 4000000 in
theorem back_000 (a b : Int) (t : ByteArray) (w : World) (htab : Tab w) (hs : t.size ≤ 9223372036854775807) (a0 : a < 0 ∨ 253402300799999 < a) (b0 : b < 0 ∨ 253402300799999 < b) (ht : ¬ ∃ n, IsDate t.data.toList n) :
    Calls Tryd.prog 5 #[.int .i64 a, .int .i64 b, .string t] w fun e w' => e = .returned (.bool true) ∧ Below w.heap.size w w' := by
  have HT := Lib.hid htab; have TT := Lib.hid ht
  have A0 := Lib.hid a0; clear a0
  have B0' := Lib.hid b0; clear b0
  clear htab ht
  have B0 : Hid (Below w.heap.size w w) := Lib.hid (Below.refl _ _)
  go_enter Tryd.func5, Tryd.ntmps5
  go_wp2_with fail
  refine (date_bad a _ A0.out).mono ?_; rintro e w1 ⟨rfl, rfl⟩
  go_wp2_with fail
  refine (date_bad b _ B0'.out).mono ?_; rintro e w2 ⟨rfl, rfl⟩
  go_wp2_with fail
  refine (read_bad t _ hs TT.out).mono ?_; rintro e w4 ⟨rfl, q4, hw⟩
  have B4 : Hid (Below w.heap.size w w4) := Lib.hid (by rw [hw]; exact below_drewN B0.out _)
  clear hw
  go_wp2_with fail
  refine (awake_any _).mono ?_; rintro e w6 ⟨rfl, k6, hw⟩
  have B6 : Hid (Below w.heap.size w w6) := Lib.hid (by rw [hw]; exact below_drewN B4.out _)
  clear hw
  go_wp2_with fail
  go_ret
  exact ⟨rfl, B6.out⟩

theorem datesBack_any (a b : Int) (t : ByteArray) (w : World) (htab : Tab w) (hs : t.size ≤ maxLen) :
    Calls Tryd.prog 5 #[.int .i64 a, .int .i64 b, .string t] w fun e w' => e = .returned (.bool true) ∧ Below w.heap.size w w' := by
  replace hs : t.size ≤ 9223372036854775807 := by unfold maxLen at hs; omega
  by_cases hA : 0 ≤ a ∧ a ≤ 253402300799999 <;> by_cases hB : 0 ≤ b ∧ b ≤ 253402300799999 <;> by_cases hT : ∃ n, IsDate t.data.toList n
  · obtain ⟨n, hn⟩ := hT; exact back_111 a b t w htab hs hA.1 hA.2 hB.1 hB.2 n hn
  · exact back_110 a b t w htab hs hA.1 hA.2 hB.1 hB.2 hT
  · obtain ⟨n, hn⟩ := hT; exact back_101 a b t w htab hs hA.1 hA.2 (by omega) n hn
  · exact back_100 a b t w htab hs hA.1 hA.2 (by omega) hT
  · obtain ⟨n, hn⟩ := hT; exact back_011 a b t w htab hs (by omega) hB.1 hB.2 n hn
  · exact back_010 a b t w htab hs (by omega) hB.1 hB.2 hT
  · obtain ⟨n, hn⟩ := hT; exact back_001 a b t w htab hs (by omega) (by omega) n hn
  · exact back_000 a b t w htab hs (by omega) (by omega) hT

end Go.Proofs.YtppaklifacadpaaDoor
