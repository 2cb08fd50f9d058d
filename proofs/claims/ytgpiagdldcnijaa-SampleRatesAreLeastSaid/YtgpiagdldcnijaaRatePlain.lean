/- Plain facts of rates and delays of samples: the least rate is enough, and one less is not. -/
import Derived.Test.YtgpiagdldcnijaaBoxPlain
namespace Go.Proofs.Ytgpiagdldcnijaa
set_option linter.unusedVariables false
set_option linter.unusedSimpArgs false
open Go.RowKit

/-- Bytes of the first k samples. -/
def sizeTo (ss : List Smp) : Nat → Int
  | 0 => 0
  | k + 1 => sizeTo ss k + (ss.getD k smp0).z
def tickAt (ss : List Smp) (i : Nat) : Int := (ss.getD i smp0).t - (ss.getD 0 smp0).t
def upQ (n b : Int) : Int := (n + b - 1) / b
def dlyTo (ss : List Smp) (S rate : Int) : Nat → Int
  | 0 => 0
  | k + 1 => max (dlyTo ss S rate k) (upQ (sizeTo ss (k + 1) * S) rate - tickAt ss k)
def leastStep (r b S at_ : Int) : Int := if b = 0 then r else if at_ = 0 then 1000000001 else max r (upQ (b * S) at_)
def leastTo (ss : List Smp) (S delay : Int) : Nat → Int
  | 0 => 0
  | k + 1 => leastStep (leastTo ss S delay k) (sizeTo ss (k + 1)) S (delay + tickAt ss k)
def arrQ (all S rate at_ : Int) : Int := if upQ (all * S) rate ≤ at_ then all else rate * at_ / S
def fulTo (ss : List Smp) (S rate delay : Int) : Nat → Int
  | 0 => 0
  | k + 1 => max (fulTo ss S rate delay k) (arrQ (sizeTo ss ss.length) S rate (delay + tickAt ss k) - sizeTo ss k)

def chkP (ss : List Smp) (S : Int) : Int := if chkF ss = 0 then fIf (!inB S 1 1000000000) 1 else chkF ss
def rateIn (r : Int) : Prop := 1 ≤ r ∧ r ≤ 1000000000
def waitIn (d : Int) : Prop := 0 ≤ d ∧ d ≤ 1000000000000
instance (r : Int) : Decidable (rateIn r) := inferInstanceAs (Decidable (_ ∧ _))
instance (r : Int) : Decidable (waitIn r) := inferInstanceAs (Decidable (_ ∧ _))
def dlyF (ss : List Smp) (S rate : Int) : Int := if chkP ss S = 0 then (if rateIn rate then (if dlyTo ss S rate ss.length ≤ 1000000000000 then 0 else 1) else 1) else chkP ss S
def dlyV (ss : List Smp) (S rate : Int) : Int := if dlyF ss S rate = 0 then dlyTo ss S rate ss.length else 0
def lrF (ss : List Smp) (S delay : Int) : Int := if chkP ss S = 0 then (if waitIn delay then (if leastTo ss S delay ss.length ≤ 1000000000 then 0 else 1) else 1) else chkP ss S
def lrV (ss : List Smp) (S delay : Int) : Int := if lrF ss S delay = 0 then leastTo ss S delay ss.length else 0
def fulF (ss : List Smp) (S rate delay : Int) : Int := if chkP ss S = 0 then (if rateIn rate ∧ waitIn delay then (if dlyTo ss S rate ss.length ≤ delay then 0 else 11) else 1) else chkP ss S
def fulV (ss : List Smp) (S rate delay : Int) : Int := if fulF ss S rate delay = 0 then fulTo ss S rate delay ss.length else 0

theorem chkP_zero (ss : List Smp) (S : Int) : chkP ss S = 0 ↔ Good ss ∧ 1 ≤ S ∧ S ≤ 1000000000 := by
  unfold chkP
  split
  · rename_i h
    rw [fIf_zero (by decide)]
    simp only [Bool.not_eq_false', inB_iff]
    exact ⟨fun e => ⟨(chkF_zero ss).1 h, e⟩, fun e => e.2⟩
  · rename_i h
    exact ⟨fun e => absurd e h, fun e => absurd ((chkF_zero ss).2 e.1) h⟩

theorem upQ_le {n b a : Int} (hb : 1 ≤ b) : upQ n b ≤ a ↔ n ≤ a * b := by
  unfold upQ
  constructor
  · intro h
    have h1 := Int.lt_mul_ediv_self_add (x := n + b - 1) (k := b) (by omega)
    have h2 : b * ((n + b - 1) / b) ≤ b * a := Int.mul_le_mul_of_nonneg_left h (by omega)
    rw [Int.mul_comm a b]
    omega
  · intro h
    have : (n + b - 1) / b < a + 1 := by
      rw [Int.ediv_lt_iff_lt_mul (by omega), Int.add_mul]
      omega
    omega
theorem upQ_nonneg {n b : Int} (hn : 0 ≤ n) (hb : 1 ≤ b) : 0 ≤ upQ n b := Int.ediv_nonneg (by omega) (by omega)
theorem upQ_bd {n b : Int} (hn : 0 ≤ n) (hb : 1 ≤ b) : upQ n b ≤ n := by
  rw [upQ_le hb]
  have := Int.mul_le_mul_of_nonneg_left hb hn
  omega

theorem sizeTo_bd {ss : List Smp} (g : Good ss) : ∀ k, k ≤ ss.length → 0 ≤ sizeTo ss k ∧ sizeTo ss k ≤ k * 100000
  | 0, _ => by simp [sizeTo]
  | k + 1, h => by
    have := sizeTo_bd g k (by omega)
    have := (g.ok k (by omega)).2.2.2
    rw [sizeTo]
    omega
theorem sizeTo_mono {ss : List Smp} (g : Good ss) (k : Nat) : ∀ d, k + d ≤ ss.length → sizeTo ss k ≤ sizeTo ss (k + d)
  | 0, _ => Int.le_refl _
  | d + 1, h => by
    have := sizeTo_mono g k d (by omega)
    have h2 := (g.ok (k + d) (by omega)).2.2.2.1
    have e : sizeTo ss (k + (d + 1)) = sizeTo ss (k + d) + (ss.getD (k + d) smp0).z := rfl
    omega
theorem tick_bd {ss : List Smp} (g : Good ss) (i : Nat) (h : i < ss.length) : 0 ≤ tickAt ss i ∧ tickAt ss i ≤ 2000000000000000 := by
  have a := g.rise 0 i (by omega) h
  have b := (g.ok i h).1
  have c := (g.ok 0 (by omega)).1
  unfold tickAt
  omega
/-- From a bound on bytes to one on their product with the scale. -/
theorem prod_bd {x S : Int} (h0 : 0 ≤ x) (h1 : x ≤ 500000000) (s0 : 1 ≤ S) (s1 : S ≤ 1000000000) : 0 ≤ x * S ∧ x * S ≤ 500000000000000000 := by
  refine ⟨Int.mul_nonneg h0 (by omega), ?_⟩
  calc x * S ≤ 500000000 * S := Int.mul_le_mul_of_nonneg_right h1 (by omega)
    _ ≤ 500000000000000000 := by omega

theorem dlyTo_le {ss : List Smp} {S rate d : Int} (hr : 1 ≤ rate) (hd : 0 ≤ d) : ∀ k, dlyTo ss S rate k ≤ d ↔ ∀ i, i < k → sizeTo ss (i + 1) * S ≤ (d + tickAt ss i) * rate
  | 0 => ⟨fun _ i h => by omega, fun _ => hd⟩
  | k + 1 => by
    have ih := dlyTo_le (ss := ss) (S := S) hr hd k
    have e : dlyTo ss S rate (k + 1) ≤ d ↔ dlyTo ss S rate k ≤ d ∧ upQ (sizeTo ss (k + 1) * S) rate ≤ d + tickAt ss k := by
      rw [dlyTo]; omega
    rw [e, upQ_le hr, ih]
    constructor
    · rintro ⟨a, b⟩ i hi
      by_cases h : i = k
      · subst h; exact b
      · exact a i (by omega)
    · intro h
      exact ⟨fun i hi => h i (by omega), h k (by omega)⟩
theorem dlyTo_nonneg (ss : List Smp) (S rate : Int) : ∀ k, 0 ≤ dlyTo ss S rate k
  | 0 => Int.le_refl _
  | k + 1 => by have := dlyTo_nonneg ss S rate k; rw [dlyTo]; omega

/-- The least rate meets each sample, and, if it is not 0, one that a lesser rate doesn't. -/
theorem leastTo_is {ss : List Smp} {S delay : Int} (g : Good ss) (s0 : 1 ≤ S) (hd : 0 ≤ delay) : ∀ k, k ≤ ss.length → 0 ≤ leastTo ss S delay k ∧ (leastTo ss S delay k ≤ 1000000000 →
    (∀ i, i < k → sizeTo ss (i + 1) * S ≤ (delay + tickAt ss i) * leastTo ss S delay k) ∧ (leastTo ss S delay k ≠ 0 → ∃ i, i < k ∧ (delay + tickAt ss i) * (leastTo ss S delay k - 1) < sizeTo ss (i + 1) * S))
  | 0, _ => ⟨Int.le_refl _, fun _ => ⟨fun i h => by omega, fun h => absurd rfl h⟩⟩
  | k + 1, hk => by
    obtain ⟨i0, ih⟩ := leastTo_is g s0 hd k (by omega)
    obtain ⟨t0, t1⟩ := tick_bd g k (by omega)
    obtain ⟨z0, z1⟩ := sizeTo_bd g (k + 1) hk
    have hb0 : 0 ≤ sizeTo ss (k + 1) * S := Int.mul_nonneg z0 (by omega)
    rw [leastTo]
    generalize leastTo ss S delay k = r at *
    unfold leastStep
    split
    · rename_i hz
      refine ⟨i0, fun hr => ?_⟩
      obtain ⟨a, b⟩ := ih hr
      refine ⟨fun i hi => ?_, fun h => ?_⟩
      · by_cases e : i = k
        · subst e; rw [hz, Int.zero_mul]; exact Int.mul_nonneg (by omega) i0
        · exact a i (by omega)
      · obtain ⟨i, hi, h⟩ := b h; exact ⟨i, by omega, h⟩
    · rename_i hz
      split
      · exact ⟨by omega, fun h => by omega⟩
      · rename_i ha
        have ha1 : 1 ≤ delay + tickAt ss k := by omega
        have hq : ∀ a, upQ (sizeTo ss (k + 1) * S) (delay + tickAt ss k) ≤ a ↔ sizeTo ss (k + 1) * S ≤ a * (delay + tickAt ss k) := fun a => upQ_le ha1
        generalize upQ (sizeTo ss (k + 1) * S) (delay + tickAt ss k) = q at *
        obtain ⟨M, hM⟩ : ∃ M, max r q = M := ⟨_, rfl⟩
        have m0 : r ≤ M := by omega
        have m1 : q ≤ M := by omega
        have m2 : M = r ∨ M = q := by omega
        rw [hM]
        clear hM
        refine ⟨by omega, fun hr => ?_⟩
        obtain ⟨a, b⟩ := ih (by omega)
        have B := Lib.hid b
        clear b ih
        refine ⟨fun i hi => ?_, fun h => ?_⟩
        · by_cases e : i = k
          · subst e
            have := (hq M).1 m1
            rw [Int.mul_comm (delay + _)]; exact this
          · have h1 := a i (by omega)
            obtain ⟨t2, -⟩ := tick_bd g i (by omega)
            have h2 : (delay + tickAt ss i) * r ≤ (delay + tickAt ss i) * M := Int.mul_le_mul_of_nonneg_left m0 (by omega)
            omega
        · by_cases e : M = r
          · subst e
            obtain ⟨i, hi, h⟩ := B.out h; exact ⟨i, by omega, h⟩
          · have hm : M = q := by omega
            subst hm
            refine ⟨k, by omega, ?_⟩
            have : ¬ M ≤ M - 1 := by omega
            rw [hq] at this
            rw [Int.mul_comm]
            omega

theorem arrQ_bd {all S rate a : Int} (h0 : 0 ≤ all) (hs : 1 ≤ S) (hr : 1 ≤ rate) (ha : 0 ≤ a) : 0 ≤ arrQ all S rate a ∧ arrQ all S rate a ≤ all := by
  unfold arrQ
  split
  · exact ⟨h0, Int.le_refl _⟩
  · rename_i h
    rw [upQ_le hr] at h
    refine ⟨Int.ediv_nonneg (Int.mul_nonneg (by omega) ha) (by omega), ?_⟩
    have : rate * a / S < all + 1 := by
      rw [Int.ediv_lt_iff_lt_mul (by omega), Int.add_mul]
      rw [Int.mul_comm a rate] at h
      omega
    omega
theorem fulTo_bd {ss : List Smp} {S rate delay : Int} (g : Good ss) (hs : 1 ≤ S) (hr : 1 ≤ rate) (hd : 0 ≤ delay) : ∀ k, k ≤ ss.length → 0 ≤ fulTo ss S rate delay k ∧ fulTo ss S rate delay k ≤ sizeTo ss ss.length
  | 0, _ => ⟨Int.le_refl _, (sizeTo_bd g _ (Nat.le_refl _)).1⟩
  | k + 1, h => by
    obtain ⟨a, b⟩ := fulTo_bd (S := S) (rate := rate) (delay := delay) g hs hr hd k (by omega)
    obtain ⟨t0, t1⟩ := tick_bd g k (by omega)
    have c := sizeTo_bd g k (by omega)
    have d := (sizeTo_bd g _ (Nat.le_refl _)).1
    obtain ⟨e, f⟩ := arrQ_bd (a := delay + tickAt ss k) d hs hr (by omega)
    rw [fulTo]
    omega

/-- What the law asks of the rates. -/
theorem rates_least (ss : List Smp) (S delay : Int) (hf : lrF ss S delay = 0) (h0 : lrV ss S delay ≠ 0) :
    Good ss ∧ (1 ≤ S ∧ S ≤ 1000000000) ∧ waitIn delay ∧ rateIn (lrV ss S delay) ∧ (dlyF ss S (lrV ss S delay) = 0 ∧ dlyV ss S (lrV ss S delay) ≤ delay) ∧ fulF ss S (lrV ss S delay) delay = 0 ∧ (0 ≤ fulV ss S (lrV ss S delay) delay ∧ fulV ss S (lrV ss S delay) delay ≤ sizeTo ss ss.length) ∧
    (lrV ss S delay ≠ 1 → dlyF ss S (lrV ss S delay - 1) = 1 ∨ dlyF ss S (lrV ss S delay - 1) = 0 ∧ delay < dlyV ss S (lrV ss S delay - 1)) := by
  have hv : lrV ss S delay = leastTo ss S delay ss.length := by rw [lrV, if_pos hf]
  have hc : chkP ss S = 0 := by
    by_cases h : chkP ss S = 0
    · exact h
    · rw [lrF, if_neg h] at hf; exact hf
  obtain ⟨g, s0, s1⟩ := (chkP_zero ss S).1 hc
  rw [lrF, if_pos hc] at hf
  by_cases hw : waitIn delay
  · rw [if_pos hw] at hf
    by_cases hl : leastTo ss S delay ss.length ≤ 1000000000
    · obtain ⟨l0, li⟩ := leastTo_is g s0 hw.1 ss.length (Nat.le_refl _)
      obtain ⟨la, lb⟩ := li hl
      have LB := Lib.hid lb
      clear lb li
      rw [hv] at h0 ⊢
      generalize leastTo ss S delay ss.length = r at *
      have hr : rateIn r := ⟨by omega, hl⟩
      have hd : dlyTo ss S r ss.length ≤ delay := (dlyTo_le hr.1 hw.1 _).2 la
      have hd0 := dlyTo_nonneg ss S r ss.length
      have hdF : dlyF ss S r = 0 := by rw [dlyF, if_pos hc, if_pos hr, if_pos (by have := hw.2; omega)]
      have hfF : fulF ss S r delay = 0 := by rw [fulF, if_pos hc, if_pos ⟨hr, hw⟩, if_pos hd]
      refine ⟨g, ⟨s0, s1⟩, hw, hr, ⟨hdF, by rw [dlyV, if_pos hdF]; exact hd⟩, hfF, ?_, fun h1 => ?_⟩
      · rw [fulV, if_pos hfF]; exact fulTo_bd g s0 hr.1 hw.1 _ (Nat.le_refl _)
      · obtain ⟨i, hi, hlt⟩ := LB.out h0
        have hr' : rateIn (r - 1) := ⟨by omega, by omega⟩
        have hn : ¬ dlyTo ss S (r - 1) ss.length ≤ delay := by
          rw [dlyTo_le hr'.1 hw.1]
          intro h
          have := h i hi
          omega
        by_cases h9 : dlyTo ss S (r - 1) ss.length ≤ 1000000000000
        · have hF : dlyF ss S (r - 1) = 0 := by rw [dlyF, if_pos hc, if_pos hr', if_pos h9]
          exact .inr ⟨hF, by rw [dlyV, if_pos hF]; omega⟩
        · exact .inl (by rw [dlyF, if_pos hc, if_pos hr', if_neg h9])
    · rw [if_neg hl] at hf; omega
  · rw [if_neg hw] at hf; omega

end Go.Proofs.Ytgpiagdldcnijaa
