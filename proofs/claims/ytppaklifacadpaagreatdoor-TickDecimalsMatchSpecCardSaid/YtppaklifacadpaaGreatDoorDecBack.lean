/- The law: a time of a scale that is a power of ten is read from its decimal as it was. -/
import Derived.Test.YtppaklifacadpaaGreatDoorReadDec
namespace Go.Proofs.YtppaklifacadpaaGreatDoor
set_option linter.unusedVariables false
set_option linter.unusedSimpArgs false
open Go.RowKit

theorem growsB_zero (d : Int) (neg : Bool) (way : Int) (hd : 0 < d) : growsB 0 d neg way = false := by
  unfold growsB
  split
  · simp
  · split
    · simp
    · simp; omega
theorem portQ_exact (x s d q way : Int) (h : (x.natAbs : Int) * s = q * d) (hd : 0 < d) (hq : q < 4611686018427387904) : portQ x s d way = if x < 0 then -q else q := by
  have e1 : (x.natAbs : Int) * s / d = q := by rw [h]; exact Int.mul_ediv_cancel _ (by omega)
  have e2 : (x.natAbs : Int) * s % d = 0 := by rw [h]; exact Int.mul_emod_left _ _
  have e3 : ¬ 4611686018427387904 ≤ q := by omega
  unfold portQ
  simp only [e1, e2, growsB_zero _ _ _ hd, if_neg e3]
  simp

theorem decDigits_head (u : Nat) : 0 < u → (Lib.decDigits u).head? ≠ some 48 := by
  induction u using Nat.strongRecOn with
  | ind u ih =>
    intro h0
    by_cases h : u < 10
    · rw [Lib.decDigits_one h]
      simp only [List.head?_cons, ne_eq, Option.some.injEq]
      intro hx
      have := byte48 u h
      rw [hx] at this
      have h48 : (48 : UInt8).toNat = 48 := rfl
      omega
    · have i1 := ih (u / 10) (by omega) (by omega)
      have i2 := (decDigits_low (u / 10)).1
      rw [Lib.decDigits, dif_neg h]
      cases hl : Lib.decDigits (u / 10) with
      | nil => exact absurd hl i2
      | cons b r => rw [hl] at i1; simpa using i1
theorem decDigits_ok (u : Nat) : NumOk (Lib.decDigits u) := by
  refine ⟨(allDig_iff _).2 ⟨(decDigits_facts u).1, (decDigits_low u).1⟩, ?_⟩
  by_cases h : 0 < u
  · exact .inr (decDigits_head u h)
  · left; rw [Lib.decDigits_one (by omega)]; have : u = 0 := by omega
    subst this; rfl

theorem takeD_digits : ∀ (a b : List UInt8), DigB a → takeD (a ++ 46 :: b) = a ∧ dropD (a ++ 46 :: b) = 46 :: b
  | [], b, _ => by simp [takeD, dropD]
  | x :: r, b, h => by
    have h1 := h x (by simp)
    have hx : x ≠ 46 := fun hx => by rw [hx] at h1; simp at h1
    obtain ⟨i1, i2⟩ := takeD_digits r b h.tail
    constructor
    · rw [List.cons_append, takeD, List.takeWhile_cons]; simp [hx]; exact i1
    · rw [List.cons_append, dropD, List.dropWhile_cons]; simp [hx]; exact i2
theorem takeD_all : ∀ (a : List UInt8), DigB a → takeD a = a ∧ dropD a = []
  | [], _ => by simp [takeD, dropD]
  | x :: r, h => by
    have h1 := h x (by simp)
    have hx : x ≠ 46 := fun hx => by rw [hx] at h1; simp at h1
    obtain ⟨i1, i2⟩ := takeD_all r h.tail
    constructor
    · rw [takeD, List.takeWhile_cons]; simp [hx]; exact i1
    · rw [dropD, List.dropWhile_cons]; simp [hx]; exact i2

theorem head_digit (u : Nat) (b : List UInt8) : (Lib.decDigits u ++ b).head? ≠ some 45 := by
  have h1 := (decDigits_facts u).1
  have h2 := (decDigits_low u).1
  cases hl : Lib.decDigits u with
  | nil => exact absurd hl h2
  | cons x r =>
    rw [hl] at h1
    have := h1 x (by simp)
    simp
    intro hx; rw [hx] at this; simp at this

/-- What is written as a decimal is read. -/
theorem dec_back {W P s : Int} {k : Nat} (neg : Bool) (way : Int) (hk : k ≤ 9) (W0 : 0 ≤ W) (W1 : W ≤ 1000000000000000) (P0 : 0 ≤ P) (P1 : P < ((10 ^ k : Nat) : Int)) :
    DecOk (decOf neg W P k) ∧ decQ (decOf neg W P k) s way = portQ (if neg then -W else W) s 1 way + portQ (if neg then -P else P) s ((10 ^ k : Nat) : Int) way := by
  obtain ⟨f1, f2⟩ := decDigits_facts W.toNat
  have hl16 := dec_len16 W.toNat (by omega)
  have hok := decDigits_ok W.toNat
  generalize hR : (Lib.decDigits W.toNat ++ if 0 < k then 46 :: padL P k else []) = R
  have hhead : R.head? ≠ some 45 := by rw [← hR]; exact head_digit _ _
  have hdef : decOf neg W P k = (if neg then [45] else []) ++ R := by unfold decOf; rw [hR]
  have hbody : bodyD (decOf neg W P k) = R := by
    rw [hdef]; unfold bodyD
    cases neg
    · simp [hhead]
    · simp
  have hsg : ∀ x, sgD (decOf neg W P k) x = if neg then -x else x := by
    intro x
    rw [hdef]; unfold sgD
    cases neg
    · simp [hhead]
    · simp
  have hlenP : 0 < k → (padL P k).length = k ∧ DigB (padL P k) ∧ (dvalB (padL P k) : Int) = P := fun h => padL_facts P k (by omega) P0 P1
  have htd : takeD R = Lib.decDigits W.toNat ∧ dropD R = if 0 < k then 46 :: padL P k else [] := by
    rw [← hR]
    by_cases h : 0 < k
    · rw [if_pos h]; exact takeD_digits _ _ f1
    · rw [if_neg h, List.append_nil]; exact takeD_all _ f1
  have hnW : numV (Lib.decDigits W.toNat) = W := by rw [numV_small _ (by rw [f2]; omega), f2]; omega
  have hlen : (decOf neg W P k).length ≤ 30 := by
    rw [hdef, ← hR]
    have h1 : (if neg then [(45 : UInt8)] else []).length ≤ 1 := by cases neg <;> simp
    by_cases h : 0 < k
    · have := (hlenP h).1
      rw [if_pos h]; simp only [List.length_append, List.length_cons]; omega
    · rw [if_neg h]; simp only [List.length_append, List.length_nil]; omega
  have hp9 := pow9 k hk
  constructor
  · refine ⟨hlen, by rw [hbody, htd.1]; exact hok, ?_⟩
    rw [hbody, htd.2]
    by_cases h : 0 < k
    · rw [if_pos h]
      intro _
      obtain ⟨a, b, c⟩ := hlenP h
      exact ⟨(allDig_iff _).2 ⟨b, fun hx => by simp only [List.tail_cons] at hx; rw [hx] at a; simp at a; omega⟩, by simp only [List.tail_cons]; omega⟩
    · rw [if_neg h]; exact fun hx => absurd rfl hx
  · unfold decQ
    rw [hbody, htd.1, htd.2, hsg, hsg, hnW]
    by_cases h : 0 < k
    · obtain ⟨a, b, c⟩ := hlenP h
      rw [if_pos h, List.tail_cons, a, numV_small _ (by omega), c]
    · have hk0 : k = 0 := by omega
      subst hk0
      have hP : P = 0 := by simp at P1; omega
      subst hP
      rfl

/-- The decimal of a time of a scale that is a power of ten has no rest. -/
theorem dec_exact {n W P : Int} {p k : Nat} (ht : isTimeN n) (hpk : p ≤ k) (hk : k ≤ 9) (h : DecP n ((10 ^ p : Nat) : Int) k W P) :
    0 ≤ W ∧ W ≤ 1000000000000000 ∧ 0 ≤ P ∧ P < ((10 ^ k : Nat) : Int) ∧ (n = 0 ∨ 0 < W ∨ 0 < P) ∧
      ∀ way, portQ (if decide (n < 0 ∧ (0 < W ∨ 0 < P)) = true then -W else W) ((10 ^ p : Nat) : Int) 1 way + portQ (if decide (n < 0 ∧ (0 < W ∨ 0 < P)) = true then -P else P) ((10 ^ p : Nat) : Int) ((10 ^ k : Nat) : Int) way = n := by
  obtain ⟨t0, t1⟩ := ht
  obtain ⟨h⟩ := h
  have hp9 := pow9 p (by omega)
  have hk9 := pow9 k hk
  have hpow : ((10 ^ k : Nat) : Int) = ((10 ^ p : Nat) : Int) * ((10 ^ (k - p) : Nat) : Int) := by
    rw [← Int.natCast_mul, ← Nat.pow_add]; congr 2; omega
  have hd9 := pow9 (k - p) (by omega)
  generalize hs : ((10 ^ p : Nat) : Int) = s at *
  generalize hU : ((10 ^ k : Nat) : Int) = U at *
  generalize hD : ((10 ^ (k - p) : Nat) : Int) = D at *
  generalize ha : (n.natAbs : Int) = a at *
  have a0 : 0 ≤ a := by omega
  have r0 : 0 ≤ a % s := Int.emod_nonneg _ (by omega)
  have r1 : a % s < s := Int.emod_lt_of_pos _ (by omega)
  have q0 : 0 ≤ a / s := Int.ediv_nonneg a0 (by omega)
  have q1 : a / s ≤ a := Int.ediv_le_self _ a0
  have hdm : s * (a / s) + a % s = a := Int.mul_ediv_add_emod a s
  generalize a % s = r at *
  generalize a / s = q at *
  have hrD : r * D < U := by
    have h1 : r * D ≤ (s - 1) * D := Int.mul_le_mul_of_nonneg_right (by omega) (by omega)
    rw [Int.sub_mul] at h1
    omega
  have hrD0 : 0 ≤ r * D := Int.mul_nonneg r0 (by omega)
  have hex : portQ r U s 2 = r * D := by
    rw [portQ_exact r U s (r * D) 2 (by rw [show ((r.natAbs : Nat) : Int) = r by omega, hpow, Int.mul_comm s D, ← Int.mul_assoc]) (by omega) (by omega), if_neg (by omega)]
  rw [hex] at h
  rcases h with ⟨h1, -, -⟩ | ⟨h1, h2, h3⟩
  · omega
  subst h1
  subst h3
  have hPs : (r * D) * s = r * U := by rw [hpow, Int.mul_assoc, Int.mul_comm D s]
  have hmin : 0 < r → 0 < r * D := fun h => Int.mul_pos h (by omega)
  have hqs : q * s ≤ a := by rw [Int.mul_comm]; omega
  have hqs0 : 0 ≤ q * s := Int.mul_nonneg q0 (by omega)
  have hrU : ∀ x : Int, x = r * D ∨ x = -(r * D) → (x.natAbs : Int) * s = r * U := by
    intro x hx
    rw [show ((x.natAbs : Nat) : Int) = r * D by omega, hPs]
  have hqW : ∀ x : Int, x = q ∨ x = -q → (x.natAbs : Int) * s = (q * s) * 1 := by
    intro x hx
    rw [show ((x.natAbs : Nat) : Int) = q by omega, Int.mul_one]
  have hsum : q * s + r = a := by rw [Int.mul_comm]; exact hdm
  have hne : n = 0 ∨ 0 < q ∨ 0 < r * D := by
    by_cases hq : 0 < q
    · exact .inr (.inl hq)
    · by_cases hr : 0 < r
      · exact .inr (.inr (hmin hr))
      · left
        have : q = 0 := by omega
        subst this
        simp at hsum
        omega
  refine ⟨q0, by omega, hrD0, hrD, hne, fun way => ?_⟩
  by_cases hn : n < 0
  · rw [if_pos (by simp only [decide_eq_true_eq]; omega), if_pos (by simp only [decide_eq_true_eq]; omega)]
    rw [portQ_exact (-q) s 1 (q * s) way (hqW _ (.inr rfl)) (by omega) (by omega), portQ_exact (-(r * D)) s U r way (hrU _ (.inr rfl)) (by omega) (by omega)]
    have e1 : (if -q < 0 then -(q * s) else q * s) = -(q * s) := by
      split
      · rfl
      · have : q = 0 := by omega
        subst this; simp
    have e2 : (if -(r * D) < 0 then -r else r) = -r := by
      split
      · rfl
      · by_cases hr : 0 < r
        · have := hmin hr; omega
        · omega
    rw [e1, e2]; omega
  · rw [if_neg (by simp only [decide_eq_true_eq]; omega), if_neg (by simp only [decide_eq_true_eq]; omega)]
    rw [portQ_exact q s 1 (q * s) way (hqW _ (.inl rfl)) (by omega) (by omega), portQ_exact (r * D) s U r way (hrU _ (.inl rfl)) (by omega) (by omega)]
    rw [if_neg (by omega), if_neg (by omega)]; omega

end Go.Proofs.YtppaklifacadpaaGreatDoor
