/- The small functions of package tick on whole numbers: isScale, isWay, signed, growsBy. -/
import Derived.Test.YtikpemmfmkdndaaNum0
import Derived.WalkKit
import Derived.WalkSpells
import Derived.WalkLawsBesides
import Derived.Handy
namespace Go.Proofs.Ytikpemmfmkdndaa
set_option linter.unusedVariables false
set_option linter.unusedSimpArgs false
open Go.RowKit

theorem isScale_yes (n : Int) (w : World) (h : isScaleN n) :
    Calls Try.prog 87 #[.int .i64 n] w fun e w' => e = .returned (.bool true) ∧ w = w' := by
  obtain ⟨h1, h2⟩ := h
  go_enter Try.func87, Try.ntmps87
  go_wp2_with (go_at_call 51; refine (within_yes _ _ _ _ (by omega) (by omega)).mono ?_; rintro e w' ⟨rfl, rfl⟩)
  go_ret
  exact ⟨rfl, rfl⟩

theorem isScale_no (n : Int) (w : World) (h : ¬ isScaleN n) :
    Calls Try.prog 87 #[.int .i64 n] w fun e w' => e = .returned (.bool false) ∧ w = w' := by
  have h' : n < 1 ∨ 1000000000 < n := by unfold isScaleN at h; omega
  clear h
  go_enter Try.func87, Try.ntmps87
  go_wp2_with (go_at_call 51; refine (within_no _ _ _ _ (by omega)).mono ?_; rintro e w' ⟨rfl, rfl⟩)
  go_ret
  exact ⟨rfl, rfl⟩

theorem isWay_yes (n : Int) (w : World) (h : 1 ≤ n ∧ n ≤ 3) : Calls Try.prog 88 #[.int .i64 n] w fun e w' => e = .returned (.bool true) ∧ w = w' := by
  obtain ⟨h1, h2⟩ := h
  go_enter Try.func88, Try.ntmps88
  go_wp2_with (go_at_call 51; refine (within_yes _ _ _ _ (by omega) (by omega)).mono ?_; rintro e w' ⟨rfl, rfl⟩)
  go_ret
  exact ⟨rfl, rfl⟩
theorem isWay_no (n : Int) (w : World) (h : n < 1 ∨ 3 < n) : Calls Try.prog 88 #[.int .i64 n] w fun e w' => e = .returned (.bool false) ∧ w = w' := by
  go_enter Try.func88, Try.ntmps88
  go_wp2_with (go_at_call 51; refine (within_no _ _ _ _ (by omega)).mono ?_; rintro e w' ⟨rfl, rfl⟩)
  go_ret
  exact ⟨rfl, rfl⟩

set_option maxHeartbeats 400000 in
theorem signed_yes (n : Int) (w : World) (h1 : -9223372036854775807 ≤ n) (h2 : n ≤ 9223372036854775807) :
    Calls Try.prog 103 #[.int .i64 n, .bool true] w fun e w' => e = .returned (.int .i64 (-n)) ∧ w = w' := by
  go_enter Try.func103, Try.ntmps103
  go_wp2
  go_ret
  exact ⟨rfl, rfl⟩

set_option maxHeartbeats 400000 in
theorem signed_no (n : Int) (w : World) :
    Calls Try.prog 103 #[.int .i64 n, .bool false] w fun e w' => e = .returned (.int .i64 n) ∧ w = w' := by
  go_enter Try.func103, Try.ntmps103
  go_wp2
  go_ret
  exact ⟨rfl, rfl⟩

/-- Whether a rest makes a number that was rounded towards 0 one further from it. -/
def growsB (rest by' : Int) (neg : Bool) (way : Int) : Bool :=
  if way = 1 then neg && decide (0 < rest) else if way = 3 then !neg && decide (0 < rest) else decide (by' ≤ 2 * rest)

set_option maxHeartbeats 400000 in
theorem growsBy_any (rest by' way : Int) (neg : Bool) (w : World) (h0 : 0 ≤ rest) (h1 : rest < by') (h2 : by' ≤ 9223372036854775807) :
    Calls Try.prog 105 #[.int .u64 rest, .int .u64 by', .bool neg, .int .i64 way] w fun e w' => e = .returned (.bool (growsB rest by' neg way)) ∧ w = w' := by
  by_cases w1 : way = 1
  · subst w1
    by_cases hr : 0 < rest <;> cases neg
    all_goals
      go_enter Try.func105, Try.ntmps105
      go_wp2
      go_ret
      exact ⟨ret_bool (by simp [growsB, hr]), rfl⟩
  by_cases w3 : way = 3
  · subst w3
    by_cases hr : 0 < rest <;> cases neg
    all_goals
      go_enter Try.func105, Try.ntmps105
      go_wp2
      go_ret
      exact ⟨ret_bool (by simp [growsB, hr]), rfl⟩
  have e1 : (way == 1) = false := by simp [w1]
  have e3 : (way == 3) = false := by simp [w3]
  go_enter Try.func105, Try.ntmps105
  go_wp2
  go_ret
  exact ⟨ret_bool (by simp [growsB, w1, w3]; omega), rfl⟩

end Go.Proofs.Ytikpemmfmkdndaa
