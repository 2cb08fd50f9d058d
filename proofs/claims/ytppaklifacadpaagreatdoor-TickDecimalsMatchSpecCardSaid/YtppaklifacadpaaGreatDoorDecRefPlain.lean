/- Plain facts on decimals as the reference writes and reads them. No program in it (but the words of others). -/
import Derived.Test.YtppaklifacadpaaGreatDoorDecBack
import Derived.Test.YtppaklifacadpaaGreatDoorRoundW
namespace Go.Proofs.YtppaklifacadpaaGreatDoor
set_option linter.unusedVariables false
set_option linter.unusedSimpArgs false

theorem canon_digits (A : List UInt8) (hd : DigB A) (hne : A ≠ []) (h : 10 ^ (A.length - 1) ≤ dvalB A ∨ A.length = 1) : A = Lib.decDigits (dvalB A) := by
  obtain ⟨f1, f2⟩ := decDigits_facts (dvalB A)
  obtain ⟨g1, g2⟩ := decDigits_low (dvalB A)
  have hlt := dvalB_lt A hd
  have hlt2 := dvalB_lt _ f1
  rw [f2] at hlt2
  have hl := List.length_pos_iff.2 hne
  have hl2 := List.length_pos_iff.2 g1
  refine dval_inj _ _ hd f1 ?_ f2.symm
  generalize hv : dvalB A = v at *
  generalize hD : Lib.decDigits v = D at *
  by_cases h0 : 0 < v
  · have k2 := g2 h0
    rcases h with h | h
    · rcases Nat.lt_trichotomy A.length D.length with x | x | x
      · have := Nat.pow_le_pow_right (show 1 ≤ 10 by omega) (show A.length ≤ D.length - 1 by omega)
        omega
      · exact x
      · have := Nat.pow_le_pow_right (show 1 ≤ 10 by omega) (show D.length ≤ A.length - 1 by omega)
        omega
    · rw [h] at hlt
      rw [← hD, Lib.decDigits_one (by omega)]; simp [h]
  · have hv0 : v = 0 := by omega
    rcases h with h | h
    · have := Nat.pow_pos (n := A.length - 1) (show 0 < 10 by omega); omega
    · rw [← hD, Lib.decDigits_one (by omega)]; simp [h]

theorem text_split {Q W P : Int} {k : Nat} (h0 : 0 ≤ W) (p0 : 0 ≤ P) (p1 : P < ((10 ^ k : Nat) : Int)) (hQ : Q = W * ((10 ^ k : Nat) : Int) + P) (hk : 0 < k) :
    k < (padL Q (k + 1)).length ∧ (padL Q (k + 1)).take ((padL Q (k + 1)).length - k) = Lib.decDigits W.toNat ∧ (padL Q (k + 1)).drop ((padL Q (k + 1)).length - k) = padL P k := by
  have hU : 0 < 10 ^ k := Nat.pow_pos (by omega)
  have hWU : 0 ≤ W * ((10 ^ k : Nat) : Int) := Int.mul_nonneg h0 (by omega)
  have q0 : 0 ≤ Q := by omega
  obtain ⟨f1, f2⟩ := decDigits_facts Q.toNat
  obtain ⟨g1, g2⟩ := decDigits_low Q.toNat
  obtain ⟨b1, b2, b3⟩ := padL_facts P k (by omega) p0 p1
  generalize hT : padL Q (k + 1) = T
  have hTd : DigB T := by rw [← hT]; exact (DigB.zeros _).append f1
  have hTv : (dvalB T : Int) = Q := by rw [← hT]; unfold padL; rw [dvalB_zeros, f2]; omega
  have hTl : T.length = k + 1 - (Lib.decDigits Q.toNat).length + (Lib.decDigits Q.toNat).length := by rw [← hT]; unfold padL; rw [List.length_append, List.length_replicate]
  have hlen : k < T.length := by omega
  have hsp : T.take (T.length - k) ++ T.drop (T.length - k) = T := List.take_append_drop _ _
  have hAl : (T.take (T.length - k)).length = T.length - k := by rw [List.length_take]; omega
  have hBl : (T.drop (T.length - k)).length = k := by rw [List.length_drop]; omega
  have hAd := hTd.take (T.length - k)
  have hBd := hTd.drop (T.length - k)
  have hv : dvalB T = dvalB (T.take (T.length - k)) * 10 ^ k + dvalB (T.drop (T.length - k)) := by
    conv => lhs; rw [← hsp]
    rw [dvalB_append, hBl]
  have hBlt := dvalB_lt _ hBd
  rw [hBl] at hBlt
  generalize hA : T.take (T.length - k) = A at *
  generalize hB : T.drop (T.length - k) = B at *
  have hval : (dvalB A : Int) = W ∧ (dvalB B : Int) = P := by
    have e : ((dvalB A : Int)) * ((10 ^ k : Nat) : Int) + (dvalB B : Int) = W * ((10 ^ k : Nat) : Int) + P := by
      rw [← hQ, ← hTv, hv, Int.natCast_add, Int.natCast_mul]
    generalize hU2 : ((10 ^ k : Nat) : Int) = U at *
    have hUp : 0 < U := by omega
    have hBU : (dvalB B : Int) < U := by omega
    rcases Int.lt_trichotomy (dvalB A : Int) W with x | x | x
    · have := Int.mul_le_mul_of_nonneg_right (show (dvalB A : Int) + 1 ≤ W by omega) (show 0 ≤ U by omega)
      rw [Int.add_mul, Int.one_mul] at this; omega
    · refine ⟨x, ?_⟩; rw [x] at e; omega
    · have := Int.mul_le_mul_of_nonneg_right (show W + 1 ≤ (dvalB A : Int) by omega) (show 0 ≤ U by omega)
      rw [Int.add_mul, Int.one_mul] at this; omega
  obtain ⟨v1, v2⟩ := hval
  refine ⟨hlen, ?_, dval_inj _ _ hBd b2 (by omega) (by omega)⟩
  have hAne : A ≠ [] := fun hx => by rw [hx] at hAl; simp at hAl; omega
  have hc := canon_digits A hAd hAne (by
    by_cases hs : (Lib.decDigits Q.toNat).length ≤ k + 1
    · right; omega
    · left
      have hq : 0 < Q.toNat := by
        apply Decidable.byContradiction; intro hx
        rw [Lib.decDigits_one (by omega)] at hs
        simp at hs
      have h1 := g2 hq
      rw [hAl]
      have hTL : T.length = (Lib.decDigits Q.toNat).length := by omega
      rw [hTL]
      generalize (Lib.decDigits Q.toNat).length = L at *
      have e : L - 1 = (L - k - 1) + k := by omega
      rw [e, Nat.pow_add] at h1
      apply Decidable.byContradiction; intro hx
      have h2 := Nat.mul_le_mul_right (10 ^ k) (show dvalB A + 1 ≤ 10 ^ (L - k - 1) by omega)
      rw [Nat.add_mul, Nat.one_mul] at h2
      omega)
  rw [hc]
  congr 1
  omega

theorem grows2 (R d : Int) (a b : Bool) : growsB R d a 2 = growsB R d b 2 := by simp [growsB]

/-- The rounded number of units is the whole part, and the places. -/
theorem dec_Q {n s W P : Int} {k : Nat} (hs : isScaleN s) (hk : k ≤ 9) (h : DecP n s k W P) (neg : Bool) :
    rdV neg 2 ((n.natAbs : Int) * ((10 ^ k : Nat) : Int)) s = W * ((10 ^ k : Nat) : Int) + P ∧ 0 ≤ W ∧ 0 ≤ P ∧ P < ((10 ^ k : Nat) : Int) := by
  obtain ⟨s0, s1⟩ := hs
  obtain ⟨h⟩ := h
  have hU9 := pow9 k hk
  generalize hU : ((10 ^ k : Nat) : Int) = U at *
  generalize ha : (n.natAbs : Int) = a at *
  have a0 : 0 ≤ a := by omega
  have r0 : 0 ≤ a % s := Int.emod_nonneg _ (by omega)
  have r1 : a % s < s := Int.emod_lt_of_pos _ (by omega)
  have q0 : 0 ≤ a / s := Int.ediv_nonneg a0 (by omega)
  have hdm : s * (a / s) + a % s = a := Int.mul_ediv_add_emod a s
  have hpb := part_bd r0 r1 hU9.1 hU9.2
  generalize a % s = r at *
  generalize a / s = q at *
  have hZ : a * U = r * U + s * (q * U) := by
    rw [← hdm, Int.add_mul, Int.mul_assoc]; omega
  have e1 : a * U / s = r * U / s + q * U := by rw [hZ]; exact Int.add_mul_ediv_left _ _ (by omega)
  have e2 : a * U % s = r * U % s := by rw [hZ]; exact Int.add_mul_emod_self_left _ _ _
  have hm : r * U ≤ (s - 1) * U := Int.mul_le_mul_of_nonneg_right (by omega) (by omega)
  have hq1 : r * U / s < U := by
    rw [Int.ediv_lt_iff_lt_mul (by omega)]
    rw [Int.sub_mul] at hm
    rw [Int.mul_comm U s]
    omega
  have hport : portQ r U s 2 = r * U / s + (if growsB (r * U % s) s neg 2 = true then 1 else 0) := by
    unfold portQ
    simp only [show ((r.natAbs : Nat) : Int) = r by omega]
    rw [if_neg (by omega), if_neg (by omega), grows2 _ _ (decide (r < 0)) neg]
    split <;> omega
  have hrd : rdV neg 2 (a * U) s = q * U + portQ r U s 2 := by
    unfold rdV
    rw [e1, e2, hport]; omega
  rw [hrd]
  rcases h with ⟨h1, h2, h3⟩ | ⟨h1, h2, h3⟩
  · subst h2; subst h3
    rw [h1, Int.add_mul]; omega
  · subst h3
    rw [h1] at hpb ⊢
    omega

theorem rdV_zero (neg : Bool) (way Y : Int) (hY : 0 < Y) : rdV neg way 0 Y = 0 := by
  unfold rdV
  rw [Int.zero_ediv, Int.zero_emod, growsB_zero _ _ _ hY]; rfl
theorem rdV_add (neg : Bool) (way A B Y : Int) (hY : 0 < Y) : rdV neg way (A * Y + B) Y = A + rdV neg way B Y := by
  unfold rdV
  rw [Int.add_comm (A * Y) B, Int.mul_comm A Y, Int.add_mul_ediv_left _ _ (by omega), Int.add_mul_emod_self_left]; omega
theorem portQ_rd (neg : Bool) (P s U way : Int) (p0 : 0 ≤ P) (s0 : 0 < s) (hU : 0 < U) (hb : P * s / U < 4611686018427387904) :
    portQ (if neg then -P else P) s U way = if neg then -(rdV neg way (P * s) U) else rdV neg way (P * s) U := by
  by_cases hP : P = 0
  · subst hP
    rw [Int.zero_mul, rdV_zero _ _ _ hU]
    have : portQ 0 s U way = 0 := by rw [portQ_exact 0 s U 0 way (by simp) hU (by omega)]; simp
    cases neg <;> simpa using this
  · have hn : (((if neg then -P else P).natAbs : Nat) : Int) = P := by cases neg <;> simp <;> omega
    have hl : decide ((if neg then -P else P) < 0) = neg := by cases neg <;> simp <;> omega
    have hc : ¬ 4611686018427387904 ≤ P * s / U := by omega
    unfold portQ rdV
    simp only [hn, hl, if_neg hc]
    cases neg
    · have h0 : ¬ ((if false = true then -P else P) < 0) := by simp; omega
      rw [if_neg h0]
      simp only [Bool.false_eq_true, if_false]
      split <;> omega
    · have h0 : (if true = true then -P else P) < 0 := by simp; omega
      rw [if_pos h0]
      simp only [if_true]
      split <;> omega

/-- What the program reckons of a decimal, and what the reference does. -/
theorem dec_read (neg : Bool) (way s : Int) (W P m : Nat) (hs : isScaleN s) (hm : m ≤ 9) (hP : P < 10 ^ m) (X p T rd : Int) (hX : X = ((W * 10 ^ m + P : Nat) : Int)) (hp : p = (if neg then -X else X) * s)
    (hT : T = portQ (if neg then -(min (W : Int) 1000000000000001) else min (W : Int) 1000000000000001) s 1 way + portQ (if neg then -(P : Int) else P) s ((10 ^ m : Nat) : Int) way)
    (hrd : rd = rdV (decide (p < 0)) way (p.natAbs : Int) ((10 ^ m : Nat) : Int)) :
    (isTimeN T ↔ rd ≤ 1000000000000000) ∧ (rd ≤ 1000000000000000 → sgnI (decide (p < 0)) rd = T) := by
  obtain ⟨s0, s1⟩ := hs
  have hU9 := pow9 m hm
  have hPU : (P : Int) < ((10 ^ m : Nat) : Int) := by omega
  rw [Int.natCast_add, Int.natCast_mul] at hX
  generalize hU : ((10 ^ m : Nat) : Int) = U at *
  have hU1 : U = ((10 ^ m : Nat) : Int) := hU.symm
  have hPs0 : 0 ≤ (P : Int) * s := Int.mul_nonneg (by omega) (by omega)
  have hPsU : (P : Int) * s ≤ (U - 1) * s := Int.mul_le_mul_of_nonneg_right (by omega) (by omega)
  have hPq : (P : Int) * s / U < s := by
    rw [Int.ediv_lt_iff_lt_mul (by omega)]
    rw [Int.sub_mul, Int.mul_comm U s] at hPsU
    omega
  have hPq0 : 0 ≤ (P : Int) * s / U := Int.ediv_nonneg hPs0 (by omega)
  obtain ⟨g, hg⟩ : ∃ g, rdV neg way ((P : Int) * s) U = g := ⟨_, rfl⟩
  have hgb : 0 ≤ g ∧ g ≤ s := by
    rw [← hg]; unfold rdV; split <;> omega
  have hWs0 : 0 ≤ (W : Int) * s := Int.mul_nonneg (by omega) (by omega)
  have hX0 : 0 ≤ X := by rw [hX]; have := Int.mul_nonneg (show 0 ≤ (W : Int) by omega) (show 0 ≤ U by omega); omega
  have hXs : X * s = ((W : Int) * s) * U + (P : Int) * s := by
    rw [hX, Int.add_mul, Int.mul_assoc, Int.mul_comm U s, ← Int.mul_assoc]
  have hXs0 : 0 ≤ X * s := Int.mul_nonneg hX0 (by omega)
  have hpa : (p.natAbs : Int) = X * s := by
    rw [hp]; cases neg
    · simp only [Bool.false_eq_true, if_false]; omega
    · simp only [if_true]; rw [Int.neg_mul]; omega
  have hrd2 : rd = (W : Int) * s + g := by
    rw [hrd, hpa, hXs]
    by_cases hz : X * s = 0
    · have hPs : (P : Int) * s = 0 := by
        have := Int.mul_nonneg hWs0 (show 0 ≤ U by omega); omega
      have hWs : (W : Int) * s = 0 := by
        rw [hPs] at hXs
        rcases Int.mul_eq_zero.1 (show (W : Int) * s * U = 0 by omega) with h | h
        · exact h
        · omega
      rw [← hg, hPs, hWs]
      rw [show (0 : Int) * U + 0 = 0 by simp, rdV_zero _ _ _ (by omega), rdV_zero _ _ _ (by omega)]; rfl
    · have hl : decide (p < 0) = neg := by
        rw [hp]; cases neg
        · simp; omega
        · simp only [if_true, decide_eq_true_eq]
          rw [Int.neg_mul]; omega
      rw [rdV_add _ _ _ _ _ (by omega), hl, hg]
  have hsgn : sgnI (decide (p < 0)) rd = if neg then -rd else rd := by
    by_cases hz : X * s = 0
    · have hp0 : p = 0 := by rw [hp]; cases neg <;> simp at * <;> omega
      have hr0 : rd = 0 := by
        rw [hrd, hpa, hz, rdV_zero _ _ _ (by omega)]
      rw [hr0]; unfold sgnI; cases neg <;> simp
    · have hl : decide (p < 0) = neg := by
        rw [hp]; cases neg
        · simp; omega
        · simp only [if_true, decide_eq_true_eq]
          rw [Int.neg_mul]; omega
      rw [hl]; rfl
  have hT2 := portQ_rd neg (P : Int) s U way (by omega) (by omega) (by omega) (by omega)
  rw [hg] at hT2
  rw [hsgn]
  by_cases hbig : (W : Int) ≤ 1000000000000000 ∧ (W : Int) * s < 4611686018427387904
  · have hmin : min (W : Int) 1000000000000001 = W := by omega
    have h1 := portQ_rd neg (W : Int) s 1 way (by omega) (by omega) (by omega) (by rw [Int.ediv_one]; omega)
    have h2 : rdV neg way ((W : Int) * s) 1 = (W : Int) * s := by
      have := rdV_add neg way ((W : Int) * s) 0 1 (by omega)
      rw [rdV_zero _ _ _ (by omega), Int.mul_one] at this
      simpa using this
    rw [h2] at h1
    rw [hmin, h1, hT2] at hT
    have hTT : T = if neg then -rd else rd := by rw [hT, hrd2]; cases neg <;> simp <;> omega
    rw [hTT]
    unfold isTimeN
    cases neg <;> simp <;> omega
  · have hrb : 1000000000000001 ≤ rd := by
      rw [hrd2]
      by_cases h1 : (W : Int) ≤ 1000000000000000
      · have : ¬ (W : Int) * s < 4611686018427387904 := fun hx => hbig ⟨h1, hx⟩
        omega
      · have := Int.mul_le_mul_of_nonneg_left (show 1 ≤ s by omega) (show 0 ≤ (W : Int) by omega)
        omega
    have hmp : 0 ≤ min (W : Int) 1000000000000001 := by omega
    obtain ⟨M, hM⟩ : ∃ M, min (W : Int) 1000000000000001 = M := ⟨_, rfl⟩
    rw [hM] at hT hmp
    have hMs : 1000000000000001 ≤ M * s := by
      by_cases h1 : (W : Int) ≤ 1000000000000000
      · have : ¬ (W : Int) * s < 4611686018427387904 := fun hx => hbig ⟨h1, hx⟩
        have hMW : M = W := by omega
        rw [hMW]; omega
      · have hM1 : M = 1000000000000001 := by omega
        rw [hM1]
        have := Int.mul_le_mul_of_nonneg_left (show 1 ≤ s by omega) (show (0 : Int) ≤ 1000000000000001 by omega)
        omega
    have hfirst : ∃ z, 1000000000000001 ≤ z ∧ portQ (if neg then -M else M) s 1 way = if neg then -z else z := by
      by_cases hc : M * s < 4611686018427387904
      · have h1 := portQ_rd neg M s 1 way (by omega) (by omega) (by omega) (by rw [Int.ediv_one]; omega)
        have h2 : rdV neg way (M * s) 1 = M * s := by
          have := rdV_add neg way (M * s) 0 1 (by omega)
          rw [rdV_zero _ _ _ (by omega), Int.mul_one] at this
          simpa using this
        rw [h2] at h1
        exact ⟨M * s, hMs, h1⟩
      · refine ⟨4611686018427387904, by omega, ?_⟩
        have hMp : 0 < M := by
          apply Decidable.byContradiction; intro hx
          have : M = 0 := by omega
          subst this
          simp at hMs
        have hn : (((if neg then -M else M).natAbs : Nat) : Int) = M := by cases neg <;> simp <;> omega
        have hc2 : 4611686018427387904 ≤ M * s := by omega
        unfold portQ
        simp only [hn, Int.ediv_one, if_pos hc2]
        cases neg
        · rw [if_neg (by simp; omega)]; simp
        · rw [if_pos (by simp; omega)]; simp
    obtain ⟨z, hz, hz2⟩ := hfirst
    rw [hz2, hT2] at hT
    constructor
    · rw [hT]; unfold isTimeN
      cases neg <;> simp <;> omega
    · intro hx; omega

end Go.Proofs.YtppaklifacadpaaGreatDoor
