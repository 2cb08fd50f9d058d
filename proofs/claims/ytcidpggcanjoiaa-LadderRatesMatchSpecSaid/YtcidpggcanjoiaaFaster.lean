/- Rates of rows: fasterThan, times, rate (program). -/
import Derived.Test.YtcidpggcanjoiaaChkSeg
import Derived.Test.YtcidpggcanjoiaaMul
namespace Go.Proofs.Ytcidpggcanjoiaa
set_option linter.unusedVariables false
set_option linter.unusedSimpArgs false
open Go.RowKit Go.Deep

theorem ret2_ab {x y : Int} {a b : Bool} (h : a = b) : Ending.returned (.tuple #[.agg #[.int .i64 x, .int .i64 y], .bool a]) = .returned (.tuple #[.agg #[.int .i64 x, .int .i64 y], .bool b]) := by rw [h]
theorem two_words {h l P Q h' l' : Int} (l0 : 0 ≤ l) (l1 : l ≤ 18446744073709551615) (m0 : 0 ≤ l') (m1 : l' ≤ 18446744073709551615) (e : h * 18446744073709551616 + l = P) (e' : h' * 18446744073709551616 + l' = Q) :
    (h' < h → Q < P) ∧ (h < h' → ¬ Q < P) ∧ (h = h' → (l' < l ↔ Q < P)) := by
  refine ⟨fun _ => by omega, fun _ => by omega, fun _ => by omega⟩
set_option maxRecDepth 100000 in
set_option maxHeartbeats 2000000 in
theorem faster_any (b t pb pt : Int) (w : World) (b0 : 0 ≤ b) (b1 : b ≤ 9223372036854775807) (t0 : 0 ≤ t) (t1 : t ≤ 9223372036854775807) (p0 : 0 ≤ pb) (p1 : pb ≤ 9223372036854775807) (q0 : 0 ≤ pt) (q1 : pt ≤ 9223372036854775807) :
    Calls Try.prog 61 #[.agg #[.int .i64 b, .int .i64 t], .agg #[.int .i64 pb, .int .i64 pt]] w fun e w' => e = .returned (.bool (decide (pb * t < b * pt))) ∧ Below w.heap.size w w' := by
  obtain ⟨P, hP⟩ : ∃ P, b * pt = P := ⟨_, rfl⟩
  obtain ⟨Q, hQ⟩ : ∃ Q, pb * t = Q := ⟨_, rfl⟩
  rw [hP, hQ]
  have HP := Lib.hid hP
  have HQ := Lib.hid hQ
  clear hP hQ
  go_enter Try.func61, Try.ntmps61
  go_wp2_with fail
  refine (mul64_ex _ _ _ (by omega) (by omega) (by omega) (by omega)).mono ?_; rintro e w' ⟨⟨h, l, hh0, hh1, hl0, hl1, HA, rfl⟩, rfl⟩
  go_wp2_with fail
  refine (mul64_ex _ _ _ (by omega) (by omega) (by omega) (by omega)).mono ?_; rintro e w' ⟨⟨h', l', hh0', hh1', hl0', hl1', HA', rfl⟩, rfl⟩
  have HW := Lib.hid (two_words hl0 hl1 hl0' hl1' (HA.out.trans HP.out) (HA'.out.trans HQ.out))
  clear HA HA'
  have hb : Below w.heap.size w ((w.alloc (.cells #[.int .i64 b, .int .i64 t] 80)).alloc (.cells #[.int .i64 pb, .int .i64 pt] 80)) := ((Below.refl _ w).alloc (Nat.le_refl _) _).alloc (by simp) _
  by_cases hgt : h' < h
  · have hR := HW.out.1 hgt
    go_wp2_with fail
    go_ret
    exact ⟨bret_bool (by simp [hR]), hb⟩
  · have hd : decide (h' < h) = false := by simp; omega
    by_cases hq : h = h'
    · subst hq
      have HR := Lib.hid (HW.out.2.2 rfl)
      go_wp2_with fail
      go_ret
      exact ⟨bret_bool (decide_eq_decide.2 HR.out), hb⟩
    · have hn : (h == h') = false := by simp [hq]
      have hR := HW.out.2.1 (by omega)
      go_wp2_with fail
      go_ret
      exact ⟨bret_bool (by simp [hR]), hb⟩

end Go.Proofs.Ytcidpggcanjoiaa
