/- Small functions of timelines (program): isTick, isLength, isProgramme; the first one of faults. -/
import Derived.Test.YtiphipgheadakaaParts
import Derived.Test.YtiphipgheadakaaName
import Derived.Test.YtiphipgheadakaaStill
namespace Go.Proofs.Ytiphipgheadakaa
set_option linter.unusedVariables false
set_option linter.unusedSimpArgs false
open Go.RowKit

theorem sEmpty {s : ByteArray} (h : s.size = 0) : s = ⟨#[]⟩ := by
  cases s with
  | mk d => have : d = #[] := Array.size_eq_zero_iff.1 h; rw [this]
theorem sNe {s : ByteArray} (h : 0 < s.size) : (s.toList == []) = false := by
  have e : s.toList ≠ [] := by
    intro e
    have := congrArg List.length e
    rw [ByteArray.toList_eq, Array.length_toList] at this
    have h2 : s.data.size = s.size := rfl
    simp only [List.length_nil] at this
    omega
  cases h3 : s.toList with
  | nil => exact absurd h3 e
  | cons a l => rfl
theorem sNe2 {s : ByteArray} (h : 0 < s.size) : (s.toList != []) = true := by rw [bne, sNe h]; rfl
theorem sEq {s : ByteArray} (h : s.size = 0) : (s.toList == []) = true := by rw [sEmpty h, ByteArray.toList_eq]; rfl
theorem sEq2 {s : ByteArray} (h : s.size = 0) : (s.toList != []) = false := by rw [bne, sEq h]; rfl
theorem isAd_eq (s : ByteArray) (a b : Int) : (s.toList == []) = !isAd ⟨s, a, b⟩ := by
  unfold isAd
  by_cases h : 0 < s.size
  · rw [sNe h, decide_eq_true h]; rfl
  · rw [sEq (by omega), decide_eq_false h]; rfl
theorem tickP_any (n : Int) (w : World) :
    Calls Try.prog 42 #[.int .i64 n] w fun e w' => e = .returned (.bool (inB n 0 1000000000000000)) ∧ w = w' := by
  obtain ⟨x, hx⟩ : ∃ x, inB n 0 1000000000000000 = x := ⟨_, rfl⟩
  have HX := Lib.hid hx
  clear hx
  go_enter Try.func42, Try.ntmps42
  go_wp2_with fail
  refine (bwithin_any _ _ _ _).mono ?_; rintro e w' ⟨rfl, rfl⟩
  rw [HX.out]
  go_wp2_with fail
  go_ret
  exact ⟨bret_bool HX.out.symm, rfl⟩
theorem lengthP_any (n : Int) (w : World) :
    Calls Try.prog 59 #[.int .i64 n] w fun e w' => e = .returned (.bool (inB n 1 1000000000000000)) ∧ w = w' := by
  obtain ⟨x, hx⟩ : ∃ x, inB n 1 1000000000000000 = x := ⟨_, rfl⟩
  have HX := Lib.hid hx
  clear hx
  go_enter Try.func59, Try.ntmps59
  go_wp2_with fail
  refine (bwithin_any _ _ _ _).mono ?_; rintro e w' ⟨rfl, rfl⟩
  rw [HX.out]
  go_wp2_with fail
  go_ret
  exact ⟨bret_bool HX.out.symm, rfl⟩
theorem isProg_any (s : ByteArray) (a b : Int) (w : World) :
    Calls Try.prog 48 #[.agg #[.string s, .int .i64 a, .int .i64 b]] w fun e w' => e = .returned (.bool (!isAd ⟨s, a, b⟩)) ∧ Below w.heap.size w w' := by
  have FX := PBox.new w ⟨s, a, b⟩ 44
  have b1 : Below w.heap.size w (w.alloc (.cells #[.string s, .int .i64 a, .int .i64 b] 44)) := (Below.refl _ w).alloc (Nat.le_refl _) _
  obtain ⟨B, hB⟩ : ∃ B, (!isAd ⟨s, a, b⟩) = B := ⟨_, rfl⟩
  have h1 : (s.toList == []) = B := (isAd_eq s a b).trans hB
  rw [hB]
  clear hB
  go_enter Try.func48, Try.ntmps48
  go_upto_region 1 with fail
  generalize w.alloc (.cells #[.string s, .int .i64 a, .int .i64 b] 44) = W at *
  have k0 := FX.c0; have kl := FX.lt
  clear FX
  go_wp2_with fail
  go_ret
  exact ⟨rfl, b1⟩
theorem lfirst2 (f0 f1 : Int) (w : World) :
    Calls Try.prog 40 #[.slice (some ⟨w.heap.size, 0, none⟩) 2 2] (w.alloc (.cells #[.int .i64 f0, .int .i64 f1] 29)) fun e w' => e = .returned (.int .i64 (fstF [f0, f1])) ∧ w.alloc (.cells #[.int .i64 f0, .int .i64 f1] 29) = w' := by
  refine bfirst_any w.heap.size 0 2 2 [f0, f1] _ rfl (by omega) fun j hj => ?_
  rw [World.cell?_alloc_at _ _ _ _ (by simp)]
  match j, hj with
  | 0, _ => rfl
  | 1, _ => rfl
theorem lfirst4 (f0 f1 f2 f3 : Int) (w : World) :
    Calls Try.prog 40 #[.slice (some ⟨w.heap.size, 0, none⟩) 4 4] (w.alloc (.cells #[.int .i64 f0, .int .i64 f1, .int .i64 f2, .int .i64 f3] 29)) fun e w' => e = .returned (.int .i64 (fstF [f0, f1, f2, f3])) ∧ w.alloc (.cells #[.int .i64 f0, .int .i64 f1, .int .i64 f2, .int .i64 f3] 29) = w' := by
  refine bfirst_any w.heap.size 0 4 4 [f0, f1, f2, f3] _ rfl (by omega) fun j hj => ?_
  rw [World.cell?_alloc_at _ _ _ _ (by simp)]
  match j, hj with
  | 0, _ => rfl
  | 1, _ => rfl
  | 2, _ => rfl
  | 3, _ => rfl

end Go.Proofs.Ytiphipgheadakaa
