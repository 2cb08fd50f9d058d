/- near, isStep (reference). -/
import Derived.Test.YtinckidkophobaaStepW
import Derived.Test.YtinckidkophobaaChkSeg
namespace Go.Proofs.Ytinckidkophobaa
set_option linter.unusedVariables false
set_option linter.unusedSimpArgs false
open Go.RowKit Go.Shelf Go.Deep

set_option maxHeartbeats 4000000 in
theorem near_any (a r : Rung) (p q : Int) (w : World) (ha : OkR a) (hr : OkR r) (hp : 1 ≤ p ∧ p ≤ 1000000000) (hq : 1 ≤ q ∧ q ≤ 1000000000) :
    Calls Try.prog 25 #[.int .i64 a.ra, .int .i64 r.ra, .agg #[.int .i64 p, .int .i64 q]] w fun e w' => e = .returned (.bool (!gapB a r p q)) ∧ Below w.heap.size w w' := by
  obtain ⟨-, ⟨ra0, ra1⟩, -, -⟩ := hr
  obtain ⟨-, ⟨la0, la1⟩, -, -⟩ := ha
  obtain ⟨hp0, hp1⟩ := hp
  obtain ⟨hq0, hq1⟩ := hq
  obtain ⟨M1, hM1⟩ : ∃ M1, r.ra * q = M1 := ⟨_, rfl⟩
  obtain ⟨M2, hM2⟩ : ∃ M2, a.ra * p = M2 := ⟨_, rfl⟩
  have b1 := mul_big (x := r.ra) (y := q) (by omega) (by omega) (by omega) (by omega)
  have b2 := mul_big (x := a.ra) (y := p) (by omega) (by omega) (by omega) (by omega)
  rw [hM1] at b1
  rw [hM2] at b2
  obtain ⟨m0, m1⟩ := b1
  obtain ⟨m2, m3⟩ := b2
  have w1 : IntKind.i64.wrap (r.ra * q) = M1 := by rw [hM1]; exact IntWalk.i64_in _ ⟨by omega, by omega⟩
  have w2 : IntKind.i64.wrap (a.ra * p) = M2 := by rw [hM2]; exact IntWalk.i64_in _ ⟨by omega, by omega⟩
  have HA : Hid (decide (M1 ≤ M2) = !gapB a r p q) := Lib.hid (by
    unfold gapB
    rw [hM1, hM2]
    by_cases h : M2 < M1
    · rw [decide_eq_true h, decide_eq_false (by omega)]; rfl
    · rw [decide_eq_false h, decide_eq_true (by omega)]; rfl)
  obtain ⟨R, hR⟩ : ∃ R, (!gapB a r p q) = R := ⟨_, rfl⟩
  rw [hR] at HA ⊢
  obtain ⟨x, hx⟩ : ∃ x, a.ra = x := ⟨_, rfl⟩
  obtain ⟨y, hy⟩ : ∃ y, r.ra = y := ⟨_, rfl⟩
  rw [hx] at w2 la0 la1 ⊢
  rw [hy] at w1 ra0 ra1 ⊢
  have C0 := Two.new w p q 24
  have hb : Below w.heap.size w (w.alloc (.cells #[.int .i64 p, .int .i64 q] 24)) := (Below.refl _ w).alloc (Nat.le_refl _) _
  clear hR hM1 hM2 hx hy
  go_enter Try.func25, Try.ntmps25
  go_upto_region 1 with fail
  generalize w.alloc (.cells #[.int .i64 p, .int .i64 q] 24) = W at *
  have z0 := C0.c0; have z1 := C0.c1
  clear C0
  go_wp2_with fail
  go_ret
  exact ⟨bret_bool HA.out, hb⟩
def isStB (p q : Int) : Bool := (inB p 1 1000000000 && inB q 1 1000000000) && decide (q ≤ p)
theorem stF_ref (rs : List Rung) (p q : Int) : stF rs p q = if rgF rs = 0 then (if isStB p q = true then 0 else 1) else rgF rs := by
  have e : stF rs p q = fstF (rgF rs :: [fIf (!inB p 1 1000000000) 1, fIf (!inB q 1 1000000000) 1, fIf (decide (p < q)) 1]) := rfl
  by_cases h0 : rgF rs = 0
  · rw [if_pos h0]
    unfold isStB
    by_cases h1 : inB p 1 1000000000 = true
    · by_cases h2 : inB q 1 1000000000 = true
      · by_cases h3 : q ≤ p
        · rw [e, h0, h1, h2, decide_eq_true h3, decide_eq_false (by omega : ¬ p < q)]; rfl
        · rw [e, h0, h1, h2, decide_eq_false h3, decide_eq_true (by omega : p < q)]; rfl
      · rw [Bool.not_eq_true] at h2
        rw [e, h0, h1, h2]; rfl
    · rw [Bool.not_eq_true] at h1
      rw [e, h0, h1]; rfl
  · rw [if_neg h0, e]
    unfold fstF
    simp [h0]
set_option maxHeartbeats 4000000 in
theorem isStep_any (p q : Int) (w : World) :
    Calls Try.prog 24 #[.agg #[.int .i64 p, .int .i64 q]] w fun e w' => e = .returned (.bool (isStB p q)) ∧ Below w.heap.size w w' := by
  obtain ⟨P, hP⟩ : ∃ P, inB p 1 1000000000 = P := ⟨_, rfl⟩
  obtain ⟨Q, hQ⟩ : ∃ Q, inB q 1 1000000000 = Q := ⟨_, rfl⟩
  have e : isStB p q = ((P && Q) && decide (q ≤ p)) := by unfold isStB; rw [hP, hQ]
  rw [e]
  have HP := Lib.hid hP
  have HQ := Lib.hid hQ
  have C0 := Two.new w p q 24
  have hb : Below w.heap.size w (w.alloc (.cells #[.int .i64 p, .int .i64 q] 24)) := (Below.refl _ w).alloc (Nat.le_refl _) _
  clear e hP hQ
  go_enter Try.func24, Try.ntmps24
  go_upto_region 1 with fail
  generalize w.alloc (.cells #[.int .i64 p, .int .i64 q] 24) = W at *
  have z0 := C0.c0; have z1 := C0.c1
  clear C0
  cases P
  · go_wp2_with fail
    refine (rwithin5_any _ _ _ _).mono ?_; rintro e w' ⟨rfl, rfl⟩
    rw [HP.out]
    go_wp2_with fail
    go_ret
    exact ⟨rfl, hb⟩
  · cases Q
    · go_wp2_with fail
      refine (rwithin5_any _ _ _ _).mono ?_; rintro e w' ⟨rfl, rfl⟩
      rw [HP.out]
      go_wp2_with fail
      refine (rwithin5_any _ _ _ _).mono ?_; rintro e w' ⟨rfl, rfl⟩
      rw [HQ.out]
      go_wp2_with fail
      go_ret
      exact ⟨rfl, hb⟩
    · go_wp2_with fail
      refine (rwithin5_any _ _ _ _).mono ?_; rintro e w' ⟨rfl, rfl⟩
      rw [HP.out]
      go_wp2_with fail
      refine (rwithin5_any _ _ _ _).mono ?_; rintro e w' ⟨rfl, rfl⟩
      rw [HQ.out]
      go_wp2_with fail
      go_ret
      exact ⟨rfl, hb⟩

end Go.Proofs.Ytinckidkophobaa
