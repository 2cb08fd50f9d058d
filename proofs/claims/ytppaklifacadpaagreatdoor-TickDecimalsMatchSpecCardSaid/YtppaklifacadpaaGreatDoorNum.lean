/- The small functions of package tick on whole numbers: within, isTime, isScale, isWay, size, signed, growsBy. -/
import Derived.Test.YtppaklifacadpaaGreatDoorRows
import Derived.WalkKit
import Derived.WalkSpells
import Derived.WalkLawsBesides
import Derived.Handy
namespace Go.Proofs.YtppaklifacadpaaGreatDoor
set_option linter.unusedVariables false
set_option linter.unusedSimpArgs false
open Go.RowKit

set_option maxHeartbeats 400000 in
theorem within_yes (n a b : Int) (w : World) (h1 : a ≤ n) (h2 : n ≤ b) :
    Calls Tryz.prog 11 #[.int .i64 n, .int .i64 a, .int .i64 b] w fun e w' => e = .returned (.bool true) ∧ w = w' := by
  go_enter Tryz.func11, Tryz.ntmps11
  go_wp2
  go_ret
  exact ⟨rfl, rfl⟩

set_option maxHeartbeats 400000 in
theorem within_no (n a b : Int) (w : World) (h : n < a ∨ b < n) :
    Calls Tryz.prog 11 #[.int .i64 n, .int .i64 a, .int .i64 b] w fun e w' => e = .returned (.bool false) ∧ w = w' := by
  by_cases h1 : a ≤ n
  · have h2 : decide (n ≤ b) = false := by simp; omega
    clear h
    go_enter Tryz.func11, Tryz.ntmps11
    go_wp2
    go_ret
    exact ⟨rfl, rfl⟩
  · have h2 : n < a := by omega
    clear h
    go_enter Tryz.func11, Tryz.ntmps11
    go_wp2
    go_ret
    exact ⟨rfl, rfl⟩

def isTimeN (n : Int) : Prop := -1000000000000000 ≤ n ∧ n ≤ 1000000000000000
def isScaleN (n : Int) : Prop := 1 ≤ n ∧ n ≤ 1000000000
instance (n : Int) : Decidable (isTimeN n) := by unfold isTimeN; infer_instance
instance (n : Int) : Decidable (isScaleN n) := by unfold isScaleN; infer_instance

theorem isTime_yes (n : Int) (w : World) (h : isTimeN n) :
    Calls Tryz.prog 9 #[.int .i64 n] w fun e w' => e = .returned (.bool true) ∧ w = w' := by
  obtain ⟨h1, h2⟩ := h
  go_enter Tryz.func9, Tryz.ntmps9
  go_wp2_with (go_at_call 11; refine (within_yes _ _ _ _ (by omega) (by omega)).mono ?_; rintro e w' ⟨rfl, rfl⟩)
  go_ret
  exact ⟨rfl, rfl⟩

theorem isTime_no (n : Int) (w : World) (h : ¬ isTimeN n) :
    Calls Tryz.prog 9 #[.int .i64 n] w fun e w' => e = .returned (.bool false) ∧ w = w' := by
  have h' : n < -1000000000000000 ∨ 1000000000000000 < n := by unfold isTimeN at h; omega
  clear h
  go_enter Tryz.func9, Tryz.ntmps9
  go_wp2_with (go_at_call 11; refine (within_no _ _ _ _ (by omega)).mono ?_; rintro e w' ⟨rfl, rfl⟩)
  go_ret
  exact ⟨rfl, rfl⟩

theorem isScale_yes (n : Int) (w : World) (h : isScaleN n) :
    Calls Tryz.prog 10 #[.int .i64 n] w fun e w' => e = .returned (.bool true) ∧ w = w' := by
  obtain ⟨h1, h2⟩ := h
  go_enter Tryz.func10, Tryz.ntmps10
  go_wp2_with (go_at_call 11; refine (within_yes _ _ _ _ (by omega) (by omega)).mono ?_; rintro e w' ⟨rfl, rfl⟩)
  go_ret
  exact ⟨rfl, rfl⟩

theorem isScale_no (n : Int) (w : World) (h : ¬ isScaleN n) :
    Calls Tryz.prog 10 #[.int .i64 n] w fun e w' => e = .returned (.bool false) ∧ w = w' := by
  have h' : n < 1 ∨ 1000000000 < n := by unfold isScaleN at h; omega
  clear h
  go_enter Tryz.func10, Tryz.ntmps10
  go_wp2_with (go_at_call 11; refine (within_no _ _ _ _ (by omega)).mono ?_; rintro e w' ⟨rfl, rfl⟩)
  go_ret
  exact ⟨rfl, rfl⟩

theorem isWay_yes (n : Int) (w : World) (h : 1 ≤ n ∧ n ≤ 3) : Calls Tryz.prog 22 #[.int .i64 n] w fun e w' => e = .returned (.bool true) ∧ w = w' := by
  obtain ⟨h1, h2⟩ := h
  go_enter Tryz.func22, Tryz.ntmps22
  go_wp2_with (go_at_call 11; refine (within_yes _ _ _ _ (by omega) (by omega)).mono ?_; rintro e w' ⟨rfl, rfl⟩)
  go_ret
  exact ⟨rfl, rfl⟩
theorem isWay_no (n : Int) (w : World) (h : n < 1 ∨ 3 < n) : Calls Tryz.prog 22 #[.int .i64 n] w fun e w' => e = .returned (.bool false) ∧ w = w' := by
  go_enter Tryz.func22, Tryz.ntmps22
  go_wp2_with (go_at_call 11; refine (within_no _ _ _ _ (by omega)).mono ?_; rintro e w' ⟨rfl, rfl⟩)
  go_ret
  exact ⟨rfl, rfl⟩

theorem ret_int {k : IntKind} {a b : Int} (h : a = b) : Ending.returned (.int k a) = .returned (.int k b) := by rw [h]
theorem ret_bool {a b : Bool} (h : a = b) : Ending.returned (.bool a) = .returned (.bool b) := by rw [h]

set_option maxHeartbeats 400000 in
theorem size_any (n : Int) (w : World) (h1 : -9223372036854775807 ≤ n) (h2 : n ≤ 9223372036854775807) :
    Calls Tryz.prog 13 #[.int .i64 n] w fun e w' => e = .returned (.int .i64 (n.natAbs : Int)) ∧ w = w' := by
  go_enter Tryz.func13, Tryz.ntmps13
  go_wp2
  all_goals
    go_ret
    exact ⟨ret_int (by omega), rfl⟩

set_option maxHeartbeats 400000 in
theorem signed_yes (n : Int) (w : World) (h1 : -9223372036854775807 ≤ n) (h2 : n ≤ 9223372036854775807) :
    Calls Tryz.prog 27 #[.int .i64 n, .bool true] w fun e w' => e = .returned (.int .i64 (-n)) ∧ w = w' := by
  go_enter Tryz.func27, Tryz.ntmps27
  go_wp2
  go_ret
  exact ⟨rfl, rfl⟩

set_option maxHeartbeats 400000 in
theorem signed_no (n : Int) (w : World) :
    Calls Tryz.prog 27 #[.int .i64 n, .bool false] w fun e w' => e = .returned (.int .i64 n) ∧ w = w' := by
  go_enter Tryz.func27, Tryz.ntmps27
  go_wp2
  go_ret
  exact ⟨rfl, rfl⟩

/-- Whether a rest makes a number that was rounded towards 0 one further from it. -/
def growsB (rest by' : Int) (neg : Bool) (way : Int) : Bool :=
  if way = 1 then neg && decide (0 < rest) else if way = 3 then !neg && decide (0 < rest) else decide (by' ≤ 2 * rest)

set_option maxHeartbeats 400000 in
theorem growsBy_any (rest by' way : Int) (neg : Bool) (w : World) (h0 : 0 ≤ rest) (h1 : rest < by') (h2 : by' ≤ 9223372036854775807) :
    Calls Tryz.prog 42 #[.int .u64 rest, .int .u64 by', .bool neg, .int .i64 way] w fun e w' => e = .returned (.bool (growsB rest by' neg way)) ∧ w = w' := by
  by_cases w1 : way = 1
  · subst w1
    by_cases hr : 0 < rest <;> cases neg
    all_goals
      go_enter Tryz.func42, Tryz.ntmps42
      go_wp2
      go_ret
      exact ⟨ret_bool (by simp [growsB, hr]), rfl⟩
  by_cases w3 : way = 3
  · subst w3
    by_cases hr : 0 < rest <;> cases neg
    all_goals
      go_enter Tryz.func42, Tryz.ntmps42
      go_wp2
      go_ret
      exact ⟨ret_bool (by simp [growsB, hr]), rfl⟩
  have e1 : (way == 1) = false := by simp [w1]
  have e3 : (way == 3) = false := by simp [w3]
  go_enter Tryz.func42, Tryz.ntmps42
  go_wp2
  go_ret
  exact ⟨ret_bool (by simp [growsB, w1, w3]; omega), rfl⟩

end Go.Proofs.YtppaklifacadpaaGreatDoor
