/- Plain facts on the calendar: the month and the day of a day of the year, and back; the moments in order. No program in it. -/
import Derived.Test.YtppaklifacadpaaGreatDoorCalPlain
namespace Go.Proofs.YtppaklifacadpaaGreatDoor
set_option linter.unusedVariables false
set_option linter.unusedSimpArgs false

/-- Days of the months before one. -/
def mS (y : Int) : Nat → Int
  | 0 => 0
  | n + 1 => mS y n + mD y ((n : Int) + 1)
def dateOk (Y M D h m s : Int) : Prop := 1970 ≤ Y ∧ (1 ≤ M ∧ M ≤ 12) ∧ (1 ≤ D ∧ D ≤ mD Y M) ∧ h ≤ 23 ∧ m ≤ 59 ∧ s ≤ 59
def dateN (Y M D h m s u : Int) : Int := (dB Y + mS Y (M - 1).toNat + D - 1) * 86400000 + h * 3600000 + m * 60000 + s * 1000 + u

theorem mS_bd (y : Int) (n : Nat) : 0 ≤ mS y n ∧ mS y n ≤ 31 * n := by
  induction n with
  | zero => simp [mS]
  | succ n ih => have := mD_bd y ((n : Int) + 1); rw [mS]; omega

theorem mS_step (y : Int) (m : Int) (h : 1 ≤ m) : mS y m.toNat = mS y (m - 1).toNat + mD y m := by
  have e : m.toNat = (m - 1).toNat + 1 := by omega
  rw [e, mS]
  have e2 : (((m - 1).toNat : Nat) : Int) + 1 = m := by omega
  rw [e2]
theorem mD_long (y m : Int) (h : m ≠ 2) : 30 ≤ mD y m := by
  unfold mD
  rw [if_neg h]
  split <;> omega
theorem mS_year (y : Int) : mS y 12 = dB (y + 1) - dB y := by
  have h := dB_step y
  simp [mS, mD]
  omega
theorem mS_mono_add (y : Int) (a k : Nat) : mS y a + 28 * k ≤ mS y (a + k) := by
  induction k with
  | zero => simp
  | succ k ih =>
    have h1 := mD_bd y (((a + k : Nat) : Int) + 1)
    have e : mS y (a + (k + 1)) = mS y (a + k) + mD y (((a + k : Nat) : Int) + 1) := rfl
    rw [e]
    omega
theorem mS_mono (y : Int) {a b : Nat} (h : a ≤ b) : mS y a ≤ mS y b := by
  have := mS_mono_add y a (b - a)
  rw [show a + (b - a) = b by omega] at this
  omega

theorem monF_sum {y d0 : Int} : ∀ (n : Nat) (m d : Int), 0 ≤ d → 1 ≤ m → d.toNat ≤ n → mS y (m - 1).toNat + d = d0 →
    mS y ((monF y n m d).1 - 1).toNat + (monF y n m d).2 = d0 ∧ (monF y n m d).2 < mD y (monF y n m d).1
  | 0, m, d, hd, hm, hn, hs => by
    have hb := mD_bd y m
    simp only [monF]
    exact ⟨hs, by omega⟩
  | n + 1, m, d, hd, hm, hn, hs => by
    have hb := mD_bd y m
    rw [monF]
    split
    · refine monF_sum (y := y) n (m + 1) (d - mD y m) (by omega) (by omega) (by omega) ?_
      have hst := mS_step y m hm
      rw [show m + 1 - 1 = m by omega, hst]
      omega
    · exact ⟨hs, by simp only; omega⟩

theorem calM_spec {Y d : Int} (h0 : 0 ≤ d) (h1 : d < dB (Y + 1) - dB Y) :
    1 ≤ (calM Y d).1 ∧ (calM Y d).1 ≤ 12 ∧ 0 ≤ (calM Y d).2 ∧ (calM Y d).2 < mD Y (calM Y d).1 ∧ mS Y ((calM Y d).1 - 1).toNat + (calM Y d).2 = d := by
  obtain ⟨a, b, c, e⟩ := monF_bd (y := Y) d.toNat 1 d h0 (by omega)
  obtain ⟨f, g⟩ := monF_sum (y := Y) (d0 := d) d.toNat 1 d h0 (by omega) (by omega) (by simp [mS])
  refine ⟨a, ?_, c, g, f⟩
  show (monF Y d.toNat 1 d).1 ≤ 12
  apply Decidable.byContradiction; intro hx
  have h2 := mS_mono Y (show 12 ≤ ((monF Y d.toNat 1 d).1 - 1).toNat by omega)
  rw [mS_year] at h2
  omega

theorem md_unique {Y M r M' r' : Int} (h1 : 1 ≤ M) (h2 : 1 ≤ M') (a : 0 ≤ r) (b : r < mD Y M) (c : 0 ≤ r') (d : r' < mD Y M') (e : mS Y (M - 1).toNat + r = mS Y (M' - 1).toNat + r') : M = M' ∧ r = r' := by
  have s1 := mS_step Y M h1
  have s2 := mS_step Y M' h2
  rcases Int.lt_trichotomy M M' with h | h | h
  · have := mS_mono Y (show M.toNat ≤ (M' - 1).toNat by omega)
    omega
  · subst h; exact ⟨rfl, by omega⟩
  · have := mS_mono Y (show M'.toNat ≤ (M - 1).toNat by omega)
    omega

theorem calM_of {Y M D : Int} (h1 : 1 ≤ M) (h2 : M ≤ 12) (h3 : 1 ≤ D) (h4 : D ≤ mD Y M) :
    0 ≤ mS Y (M - 1).toNat + D - 1 ∧ mS Y (M - 1).toNat + D - 1 < dB (Y + 1) - dB Y ∧ calM Y (mS Y (M - 1).toNat + D - 1) = (M, D - 1) := by
  have hb := (mS_bd Y (M - 1).toNat).1
  have hst := mS_step Y M h1
  have hm := mS_mono Y (show M.toNat ≤ 12 by omega)
  rw [mS_year] at hm
  have u0 : 0 ≤ mS Y (M - 1).toNat + D - 1 := by omega
  have u1 : mS Y (M - 1).toNat + D - 1 < dB (Y + 1) - dB Y := by omega
  obtain ⟨k1, k2, k3, k4, k5⟩ := calM_spec u0 u1
  obtain ⟨e1, e2⟩ := md_unique (Y := Y) k1 h1 k3 k4 (show 0 ≤ D - 1 by omega) (by omega) (by omega)
  exact ⟨u0, u1, Prod.ext e1 e2⟩

theorem year_unique {n Y Z : Int} (h : IsYear n Y) (k : IsYear n Z) : Y = Z := by
  rcases Int.lt_trichotomy Y Z with hx | hx | hx
  · have := dB_mono (show Y + 1 ≤ Z by omega)
    have := h.lt; have := k.le
    omega
  · exact hx
  · have := dB_mono (show Z + 1 ≤ Y by omega)
    have := k.lt; have := h.le
    omega

/-- A date of the calendar. -/
structure Civil (Y M D h m s u : Int) : Prop where
  y : 1970 ≤ Y
  m1 : 1 ≤ M
  m2 : M ≤ 12
  d1 : 1 ≤ D
  d2 : D ≤ mD Y M
  h0 : 0 ≤ h
  h1 : h ≤ 23
  n0 : 0 ≤ m
  n1 : m ≤ 59
  s0 : 0 ≤ s
  s1 : s ≤ 59
  u0 : 0 ≤ u
  u1 : u ≤ 999

theorem civil_day {Y M D h m s u : Int} (c : Civil Y M D h m s u) : dateN Y M D h m s u / 86400000 = dB Y + (mS Y (M - 1).toNat + D - 1) ∧ dateN Y M D h m s u % 86400000 = h * 3600000 + m * 60000 + s * 1000 + u := by
  obtain ⟨c1, c2, c3, c4, c5, c6, c7, c8, c9, c10, c11, c12, c13⟩ := c
  unfold dateN
  generalize mS Y (M - 1).toNat = S
  generalize dB Y = B
  omega
theorem civil_year {Y M D h m s u : Int} (c : Civil Y M D h m s u) : IsYear (dateN Y M D h m s u / 86400000) Y := by
  rw [(civil_day c).1]
  obtain ⟨k0, k1, -⟩ := calM_of (Y := Y) c.m1 c.m2 c.d1 c.d2
  exact ⟨c.y, by omega, by omega⟩
theorem civil_cal {Y M D h m s u : Int} (c : Civil Y M D h m s u) : calM Y (dateN Y M D h m s u / 86400000 - dB Y) = (M, D - 1) := by
  rw [(civil_day c).1]
  obtain ⟨-, -, k⟩ := calM_of (Y := Y) c.m1 c.m2 c.d1 c.d2
  rw [show dB Y + (mS Y (M - 1).toNat + D - 1) - dB Y = mS Y (M - 1).toNat + D - 1 by omega]
  exact k
theorem civil_rest {Y M D h m s u : Int} (c : Civil Y M D h m s u) :
    dateN Y M D h m s u % 86400000 / 3600000 = h ∧ dateN Y M D h m s u % 86400000 / 60000 % 60 = m ∧ dateN Y M D h m s u % 86400000 / 1000 % 60 = s ∧ dateN Y M D h m s u % 86400000 % 1000 = u := by
  rw [(civil_day c).2]
  obtain ⟨c1, c2, c3, c4, c5, c6, c7, c8, c9, c10, c11, c12, c13⟩ := c
  omega
theorem civil_bd {Y M D h m s u : Int} (c : Civil Y M D h m s u) (hY : Y ≤ 9999) : 0 ≤ dateN Y M D h m s u ∧ dateN Y M D h m s u ≤ 253402300799999 := by
  have hd := civil_day c
  have hy := civil_year c
  have h1 := dB_mono c.y
  rw [dB_1970] at h1
  have h2 := dB_mono (show Y + 1 ≤ 10000 by omega)
  have e : dB 10000 = 2932897 := by decide
  rw [e] at h2
  obtain ⟨k0, k1, k2⟩ := hy
  have := c.y
  omega

/-- The parts of a moment are a date. -/
theorem civil_of {n Y : Int} {h m s u : Int} (n0 : 0 ≤ n) (hY : IsYear (n / 86400000) Y) (e1 : n % 86400000 / 3600000 = h) (e2 : n % 86400000 / 60000 % 60 = m) (e3 : n % 86400000 / 1000 % 60 = s) (e4 : n % 86400000 % 1000 = u) :
    Civil Y (calM Y (n / 86400000 - dB Y)).1 ((calM Y (n / 86400000 - dB Y)).2 + 1) h m s u ∧ dateN Y (calM Y (n / 86400000 - dB Y)).1 ((calM Y (n / 86400000 - dB Y)).2 + 1) h m s u = n := by
  obtain ⟨k0, k1, k2⟩ := hY
  obtain ⟨a, b, c, d, e⟩ := calM_spec (Y := Y) (d := n / 86400000 - dB Y) (by omega) (by omega)
  generalize hM : (calM Y (n / 86400000 - dB Y)).1 = M at *
  generalize hr : (calM Y (n / 86400000 - dB Y)).2 = r at *
  refine ⟨⟨k0, a, b, by omega, by omega, by omega, by omega, by omega, by omega, by omega, by omega, by omega, by omega⟩, ?_⟩
  unfold dateN
  generalize mS Y (M - 1).toNat = S at *
  generalize dB Y = B at *
  omega

/-- Which of two dates is the earlier one. -/
def Earlier (Y M D h m s u Y' M' D' h' m' s' u' : Int) : Prop :=
  Y < Y' ∨ Y = Y' ∧ (M < M' ∨ M = M' ∧ (D < D' ∨ D = D' ∧ (h < h' ∨ h = h' ∧ (m < m' ∨ m = m' ∧ (s < s' ∨ s = s' ∧ u < u')))))
theorem earlier_lt {Y M D h m s u Y' M' D' h' m' s' u' : Int} (c : Civil Y M D h m s u) (c' : Civil Y' M' D' h' m' s' u') (e : Earlier Y M D h m s u Y' M' D' h' m' s' u') :
    dateN Y M D h m s u < dateN Y' M' D' h' m' s' u' := by
  obtain ⟨d1, d2⟩ := civil_day c
  obtain ⟨d1', d2'⟩ := civil_day c'
  have y1 := civil_year c
  have y2 := civil_year c'
  rcases e with e | ⟨rfl, e⟩
  · have h1 := dB_mono (show Y + 1 ≤ Y' by omega)
    have := y1.lt; have := y2.le
    omega
  rcases e with e | ⟨rfl, e⟩
  · have h1 := mS_mono Y (show M.toNat ≤ (M' - 1).toNat by have := c.m1; omega)
    have h2 := mS_step Y M c.m1
    have := c.d2; have := c'.d1
    omega
  obtain ⟨c1, c2, c3, c4, c5, c6, c7, c8, c9, c10, c11, c12, c13⟩ := c
  obtain ⟨b1, b2, b3, b4, b5, b6, b7, b8, b9, b10, b11, b12, b13⟩ := c'
  unfold dateN
  generalize mS Y (M - 1).toNat = S
  generalize dB Y = B
  omega
theorem earlier_cases (Y M D h m s u Y' M' D' h' m' s' u' : Int) : Earlier Y M D h m s u Y' M' D' h' m' s' u' ∨ Earlier Y' M' D' h' m' s' u' Y M D h m s u ∨ (Y = Y' ∧ M = M' ∧ D = D' ∧ h = h' ∧ m = m' ∧ s = s' ∧ u = u') := by
  unfold Earlier
  omega

end Go.Proofs.YtppaklifacadpaaGreatDoor
