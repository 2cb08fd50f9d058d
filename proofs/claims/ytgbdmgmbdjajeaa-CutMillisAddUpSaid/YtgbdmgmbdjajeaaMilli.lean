/- Milliseconds of ticks: plain facts, and cut.millisOf. -/
import Derived.Test.YtgbdmgmbdjajeaaTick
import Derived.Test.YtgbdmgmbdjajeaaTimes4
import Derived.Test.YtgbdmgmbdjajeaaIntsC
import Derived.Deep.AppendLies
namespace Go.Proofs.Ytgbdmgmbdjajeaa
set_option linter.unusedVariables false
set_option linter.unusedSimpArgs false
open Go.RowKit Go.Deep

/-- The nearest millisecond of a tick. -/
def msQ (t sc : Int) : Int := t.tdiv sc * 1000 + portQ (t.tmod sc) 1000 sc 2
theorem tm_bd (t sc : Int) (h : 1 ≤ sc) : -sc < t.tmod sc ∧ t.tmod sc < sc ∧ sc * t.tdiv sc + t.tmod sc = t := by
  refine ⟨?_, Int.tmod_lt_of_pos t (by omega), Int.mul_tdiv_add_tmod t sc⟩
  by_cases h0 : 0 ≤ t
  · have := Int.tmod_nonneg sc h0; omega
  · have h1 : (-t).tmod sc = -(t.tmod sc) := Int.neg_tmod t sc
    have h2 := Int.tmod_lt_of_pos (-t) (show 0 < sc by omega)
    omega
theorem near_bd (r sc : Int) (h : 1 ≤ sc ∧ sc ≤ 1000000000) (h0 : -sc < r) (h1 : r < sc) : -1000 ≤ portQ r 1000 sc 2 ∧ portQ r 1000 sc 2 ≤ 1000 ∧ -sc ≤ 2 * (portQ r 1000 sc 2 * sc - 1000 * r) ∧ 2 * (portQ r 1000 sc 2 * sc - 1000 * r) ≤ sc := by
  have key : ∀ a : Int, 0 ≤ a → a < sc → ∃ v : Int, (if 4611686018427387904 ≤ a * 1000 / sc then 4611686018427387904 else if growsB (a * 1000 % sc) sc (decide (r < 0)) 2 = true then a * 1000 / sc + 1 else a * 1000 / sc) = v ∧ 0 ≤ v ∧ v ≤ 1000 ∧ -sc ≤ 2 * (v * sc - 1000 * a) ∧ 2 * (v * sc - 1000 * a) ≤ sc := by
    intro a a0 a1
    have e := Int.mul_ediv_add_emod (a * 1000) sc
    have e0 := Int.emod_nonneg (a * 1000) (show sc ≠ 0 by omega)
    have e1 := Int.emod_lt_of_pos (a * 1000) (show 0 < sc by omega)
    have q0 : 0 ≤ a * 1000 / sc := Int.ediv_nonneg (by omega) (by omega)
    have q1 : a * 1000 / sc < 1000 := by
      rw [Int.ediv_lt_iff_lt_mul (by omega)]
      omega
    refine ⟨_, rfl, ?_⟩
    rw [if_neg (by omega)]
    have hg : growsB (a * 1000 % sc) sc (decide (r < 0)) 2 = decide (sc ≤ 2 * (a * 1000 % sc)) := by simp [growsB]
    rw [hg]
    generalize a * 1000 / sc = q at *
    generalize a * 1000 % sc = m at *
    rw [Int.mul_comm] at e
    split
    · rename_i hd
      have hd' : sc ≤ 2 * m := by simpa using hd
      rw [Int.add_mul, Int.one_mul]
      omega
    · rename_i hd
      have hd' : ¬ sc ≤ 2 * m := by simpa using hd
      omega
  by_cases hr : r < 0
  · obtain ⟨v, hv, v0, v1, v2, v3⟩ := key (-r) (by omega) (by omega)
    have e : portQ r 1000 sc 2 = -v := by
      rw [← hv]
      simp only [portQ, show (r.natAbs : Int) = -r by omega, if_pos hr]
    rw [e, Int.neg_mul]
    omega
  · obtain ⟨v, hv, v0, v1, v2, v3⟩ := key r (by omega) (by omega)
    have e : portQ r 1000 sc 2 = v := by
      rw [← hv]
      simp only [portQ, show (r.natAbs : Int) = r by omega, if_neg hr]
    rw [e]
    omega
theorem msQ_close (t sc : Int) (h : 1 ≤ sc ∧ sc ≤ 1000000000) : -sc ≤ 2 * (msQ t sc * sc - 1000 * t) ∧ 2 * (msQ t sc * sc - 1000 * t) ≤ sc := by
  obtain ⟨a, b, c⟩ := tm_bd t sc h.1
  obtain ⟨-, -, d, e⟩ := near_bd (t.tmod sc) sc h a b
  unfold msQ
  rw [Int.add_mul, Int.mul_assoc, Int.mul_comm 1000 sc, ← Int.mul_assoc, Int.mul_comm (t.tdiv sc) sc]
  omega
theorem msQ_bd (t sc : Int) (h : 1 ≤ sc ∧ sc ≤ 1000000000) (h0 : -2000000000000000 ≤ t) (h1 : t ≤ 2000000000000000) : (-2000000000000000 ≤ t.tdiv sc ∧ t.tdiv sc ≤ 2000000000000000) ∧ -2000000000000001000 ≤ msQ t sc ∧ msQ t sc ≤ 2000000000000001000 := by
  obtain ⟨a, b, c⟩ := tm_bd t sc h.1
  obtain ⟨d, e, -, -⟩ := near_bd (t.tmod sc) sc h a b
  have hq : -2000000000000000 ≤ t.tdiv sc ∧ t.tdiv sc ≤ 2000000000000000 := by
    by_cases ht : 0 ≤ t
    · have := Int.tdiv_nonneg ht (show 0 ≤ sc by omega)
      have := Int.tdiv_le_self sc ht
      omega
    · have h2 : (-t).tdiv sc = -(t.tdiv sc) := Int.neg_tdiv t sc
      have := Int.tdiv_nonneg (show 0 ≤ -t by omega) (show 0 ≤ sc by omega)
      have := Int.tdiv_le_self sc (show 0 ≤ -t by omega)
      omega
  refine ⟨hq, ?_⟩
  unfold msQ
  omega
theorem cvt_ms (t sc : Int) (h : 1 ≤ sc ∧ sc ≤ 1000000000) : cvtV (t.tmod sc) sc 1000 2 = portQ (t.tmod sc) 1000 sc 2 := by
  obtain ⟨a, b, c⟩ := tm_bd t sc h.1
  obtain ⟨d, e, -, -⟩ := near_bd (t.tmod sc) sc h a b
  have h1 : isTimeN (t.tmod sc) := ⟨by omega, by omega⟩
  have h2 : isScaleN sc := h
  have h3 : isScaleN 1000 := ⟨by omega, by omega⟩
  have h4 : isTimeN (portQ (t.tmod sc) 1000 sc 2) := ⟨by omega, by omega⟩
  have : cvtF (t.tmod sc) sc 1000 2 = 0 := by simp [cvtF, h1, h2, h3, h4]
  rw [cvtV, if_pos this]
set_option maxHeartbeats 1000000 in
theorem ms_any (t sc : Int) (w : World) (h : 1 ≤ sc ∧ sc ≤ 1000000000) (h0 : -2000000000000000 ≤ t) (h1 : t ≤ 2000000000000000) :
    Calls Try.prog 48 #[.int .i64 t, .int .i64 sc] w fun e w' => e = .returned (.int .i64 (msQ t sc)) ∧ ∃ k, w' = w.drewN k := by
  obtain ⟨⟨q0, q1⟩, -⟩ := msQ_bd t sc h h0 h1
  obtain ⟨a, b, c⟩ := tm_bd t sc h.1
  obtain ⟨d, e, -, -⟩ := near_bd (t.tmod sc) sc h a b
  have HC := Lib.hid (cvt_ms t sc h)
  obtain ⟨P, hP⟩ : ∃ P, portQ (t.tmod sc) 1000 sc 2 = P := ⟨_, rfl⟩
  have HM : Hid (msQ t sc = t.tdiv sc * 1000 + P) := Lib.hid (by rw [msQ, hP])
  rw [hP] at d e
  rw [hP] at HC
  obtain ⟨s0, s1⟩ := h
  obtain ⟨r, hr⟩ : ∃ r, t.tmod sc = r := ⟨_, rfl⟩
  obtain ⟨q, hq⟩ : ∃ q, t.tdiv sc = q := ⟨_, rfl⟩
  rw [hr] at a b HC
  rw [hq] at q0 q1 HM
  have hwr : IntKind.i64.wrap (t.tmod sc) = r := by rw [hr]; exact IntWalk.i64_in _ ⟨by omega, by omega⟩
  have hwq : IntKind.i64.wrap (t.tdiv sc) = q := by rw [hq]; exact IntWalk.i64_in _ ⟨by omega, by omega⟩
  have hsn : (sc == 0) = false := by simp; omega
  clear c hP
  go_enter Try.func48, Try.ntmps48
  go_wp2_with fail
  refine (convert_any _ _ _ _ _).mono ?_; rintro e w' ⟨rfl, k, rfl⟩
  rw [HC.out]
  clear hr
  go_wp2_with fail
  go_ret
  exact ⟨bret_int HM.out.symm, _, rfl⟩

end Go.Proofs.Ytgbdmgmbdjajeaa
