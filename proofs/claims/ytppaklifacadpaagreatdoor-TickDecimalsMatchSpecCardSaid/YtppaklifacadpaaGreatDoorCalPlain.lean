/- Plain facts on the calendar. No program in it. -/
import Derived.Test.YtppaklifacadpaaGreatDoorLval
namespace Go.Proofs.YtppaklifacadpaaGreatDoor
set_option linter.unusedVariables false
set_option linter.unusedSimpArgs false

/-- Leap years from 1 on, before a year. -/
def lB (y : Int) : Int := (y - 1) / 4 - (y - 1) / 100 + (y - 1) / 400
/-- Days before a year, from 1970 on. -/
def dB (y : Int) : Int := (y - 1970) * 365 + lB y - 477
/-- Days of a month. -/
def mD (y m : Int) : Int := if m = 2 then 28 + (lB (y + 1) - lB y) else if m = 4 ∨ m = 6 ∨ m = 9 ∨ m = 11 then 30 else 31
def leapB (y : Int) : Bool := (y % 4 == 0 && !(y % 100 == 0)) || y % 400 == 0

theorem lB_step (y : Int) : lB (y + 1) - lB y = if leapB y = true then 1 else 0 := by
  unfold lB leapB
  rw [Int.add_sub_cancel]
  by_cases h4 : y % 4 = 0 <;> by_cases h100 : y % 100 = 0 <;> by_cases h400 : y % 400 = 0 <;> simp [h4, h100, h400] <;> omega
theorem lB_01 (y : Int) : lB (y + 1) - lB y = 0 ∨ lB (y + 1) - lB y = 1 := by
  rw [lB_step]; split <;> simp
theorem dB_step (y : Int) : dB (y + 1) = dB y + 365 + (lB (y + 1) - lB y) := by unfold dB; omega
theorem mD_bd (y m : Int) : 28 ≤ mD y m ∧ mD y m ≤ 31 := by
  unfold mD
  have := lB_01 y
  split
  · omega
  · split <;> omega
theorem dB_mono_nat (a : Int) (k : Nat) : dB a + 365 * k ≤ dB (a + k) := by
  induction k with
  | zero => simp
  | succ k ih =>
    have h1 := dB_step (a + k)
    have h2 := lB_01 (a + k)
    have e : a + ((k + 1 : Nat) : Int) = a + k + 1 := by omega
    rw [e]
    omega
theorem dB_up_nat (a : Int) (k : Nat) : dB (a + k) ≤ dB a + 366 * k := by
  induction k with
  | zero => simp
  | succ k ih =>
    have h1 := dB_step (a + k)
    have h2 := lB_01 (a + k)
    have e : a + ((k + 1 : Nat) : Int) = a + k + 1 := by omega
    rw [e]
    omega
theorem dB_mono {a b : Int} (h : a ≤ b) : dB a + 365 * (b - a) ≤ dB b := by
  have := dB_mono_nat a (b - a).toNat
  have e : ((b - a).toNat : Int) = b - a := by omega
  rw [e] at this
  rwa [show a + (b - a) = b by omega] at this
theorem dB_up {a b : Int} (h : a ≤ b) : dB b ≤ dB a + 366 * (b - a) := by
  have := dB_up_nat a (b - a).toNat
  have e : ((b - a).toNat : Int) = b - a := by omega
  rw [e] at this
  rwa [show a + (b - a) = b by omega] at this
theorem dB_1970 : dB 1970 = 0 := by decide

/-- Y is the year of the day n. -/
structure IsYear (n Y : Int) : Prop where
  y0 : 1970 ≤ Y
  le : dB Y ≤ n
  lt : n < dB (Y + 1)

theorem year_ex (k : Nat) : ∃ Y, IsYear k Y := by
  induction k with
  | zero => exact ⟨1970, by omega, by rw [dB_1970]; omega, by rw [dB_step, dB_1970]; have := lB_01 1970; omega⟩
  | succ k ih =>
    obtain ⟨Y, h1, h2, h3⟩ := ih
    by_cases h : ((k + 1 : Nat) : Int) < dB (Y + 1)
    · exact ⟨Y, h1, by omega, h⟩
    · exact ⟨Y + 1, by omega, by omega, by have := dB_step (Y + 1); have := lB_01 (Y + 1); omega⟩
theorem year_le {n Y : Int} (h : IsYear n Y) : Y ≤ 1970 + n := by
  have := dB_mono h.y0
  rw [dB_1970] at this
  have := h.le
  have := h.y0
  omega
theorem year_first {n Y : Int} (h : IsYear n Y) (n0 : 0 ≤ n) : 1970 + n / 366 ≤ Y := by
  apply Decidable.byContradiction; intro hx
  have h1 := dB_up (show (1970 : Int) ≤ Y + 1 by have := h.y0; omega)
  rw [dB_1970] at h1
  have := h.lt
  omega
theorem year_more {n Y y : Int} (h : IsYear n Y) (hy : y ≤ Y) : dB (y + 1) ≤ n ↔ y < Y := by
  constructor
  · intro h1
    apply Decidable.byContradiction; intro hx
    have : y = Y := by omega
    rw [this] at h1
    have := h.lt
    omega
  · intro h1
    have := dB_mono (show y + 1 ≤ Y by omega)
    have := h.le
    omega

/-- From month m on, d days on: the month and the day, both counted as the loop does. -/
def monF (y : Int) : Nat → Int → Int → Int × Int
  | 0, m, d => (m, d)
  | n + 1, m, d => if mD y m ≤ d then monF y n (m + 1) (d - mD y m) else (m, d)
theorem monF_more {y m d : Int} {n : Nat} (h : mD y m ≤ d) (hn : d.toNat ≤ n + 1) : monF y (n + 1) m d = monF y n (m + 1) (d - mD y m) := by rw [monF, if_pos h]
theorem monF_end {y m d : Int} (n : Nat) (h : ¬ mD y m ≤ d) : monF y n m d = (m, d) := by
  cases n with
  | zero => rfl
  | succ n => rw [monF, if_neg h]
/-- The month and the day of the year, from 0 on. -/
def calM (y d : Int) : Int × Int := monF y d.toNat 1 d

theorem monF_bd {y : Int} : ∀ (n : Nat) (m d : Int), 0 ≤ d → 1 ≤ m → 1 ≤ (monF y n m d).1 ∧ (monF y n m d).1 ≤ m + n ∧ 0 ≤ (monF y n m d).2 ∧ (monF y n m d).2 ≤ d
  | 0, m, d, hd, hm => by simp [monF]; omega
  | n + 1, m, d, hd, hm => by
    have hb := mD_bd y m
    rw [monF]
    split
    · have := monF_bd (y := y) n (m + 1) (d - mD y m) (by omega) (by omega)
      omega
    · simp; omega

end Go.Proofs.YtppaklifacadpaaGreatDoor
