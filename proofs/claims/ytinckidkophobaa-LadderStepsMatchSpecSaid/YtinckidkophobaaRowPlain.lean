/- Plain facts on sums of rows, rates, and the greatest rate of rows of segments. -/
namespace Go.Proofs.Ytinckidkophobaa
set_option linter.unusedVariables false
set_option linter.unusedSimpArgs false

/-- The sum of the first numbers of a row. -/
def psum (f : Nat → Int) : Nat → Int
  | 0 => 0
  | n + 1 => psum f n + f n
theorem psum_congr {f g : Nat → Int} : ∀ (n : Nat), (∀ j, j < n → f j = g j) → psum f n = psum g n
  | 0, _ => rfl
  | n + 1, h => by rw [psum, psum, psum_congr n (fun j hj => h j (by omega)), h n (by omega)]
theorem psum_shift (f : Nat → Int) (i : Nat) : ∀ m, psum (fun j => f (i + j)) m = psum f (i + m) - psum f i
  | 0 => by simp [psum]
  | m + 1 => by
    have h := psum_shift f i m
    rw [psum, h, show i + (m + 1) = (i + m) + 1 by omega, psum]
    omega
theorem psum_bd {f : Nat → Int} {a c : Int} : ∀ (n : Nat), (∀ j, j < n → a ≤ f j ∧ f j ≤ c) → a * n ≤ psum f n ∧ psum f n ≤ c * n
  | 0, _ => by simp [psum]
  | n + 1, h => by
    have h1 := psum_bd n (fun j hj => h j (by omega))
    have h2 := h n (by omega)
    have e1 : a * ((n + 1 : Nat) : Int) = a * n + a := by rw [show ((n + 1 : Nat) : Int) = (n : Int) + 1 by omega, Int.mul_add, Int.mul_one]
    have e2 : c * ((n + 1 : Nat) : Int) = c * n + c := by rw [show ((n + 1 : Nat) : Int) = (n : Int) + 1 by omega, Int.mul_add, Int.mul_one]
    rw [psum, e1, e2]
    omega
theorem psum_sub {f : Nat → Int} {a c : Int} {n : Nat} (h : ∀ j, j < n → a ≤ f j ∧ f j ≤ c) (i k : Nat) (hik : i ≤ k) (hk : k ≤ n) : a * ((k - i : Nat) : Int) ≤ psum f k - psum f i ∧ psum f k - psum f i ≤ c * ((k - i : Nat) : Int) := by
  have h1 := psum_bd (f := fun j => f (i + j)) (a := a) (c := c) (k - i) (fun j hj => h (i + j) (by omega))
  rw [psum_shift f i (k - i), show i + (k - i) = k by omega] at h1
  exact h1

/-- A row of segments is looked at: it is taken where it is as long as is asked, and faster than what there is. -/
def pkStep (lo hi b t : Int) (st : Option (Int × Int)) : Option (Int × Int) :=
  if lo ≤ t ∧ t ≤ hi ∧ (st = none ∨ (st.getD (0, 0)).1 * t < b * (st.getD (0, 0)).2) then some (b, t) else st
/-- All rows that begin at i, and end behind k on. -/
def pkIn (F G : Nat → Int) (lo hi : Int) (i : Nat) : Nat → Nat → Option (Int × Int) → Option (Int × Int)
  | 0, _, st => st
  | m + 1, k, st => pkIn F G lo hi i m (k + 1) (pkStep lo hi (psum F (k + 1) - psum F i) (psum G (k + 1) - psum G i) st)
/-- All rows that begin at i on. -/
def pkAll (F G : Nat → Int) (lo hi : Int) (n : Nat) : Nat → Nat → Option (Int × Int) → Option (Int × Int)
  | 0, _, st => st
  | m + 1, i, st => pkAll F G lo hi n m (i + 1) (pkIn F G lo hi i (n - i) i st)

theorem pkStep_far {lo hi b t : Int} {st : Option (Int × Int)} (h : hi < t) : pkStep lo hi b t st = st := by
  unfold pkStep
  rw [if_neg (by omega)]
theorem pkIn_far {F G : Nat → Int} {lo hi : Int} {i : Nat} : ∀ (m k : Nat) (st : Option (Int × Int)), (∀ j, k < j → j ≤ k + m → hi < psum G j - psum G i) → pkIn F G lo hi i m k st = st
  | 0, _, _, _ => rfl
  | m + 1, k, st, h => by
    rw [pkIn, pkStep_far (h (k + 1) (by omega) (by omega))]
    exact pkIn_far m (k + 1) st (fun j h1 h2 => h j (by omega) (by omega))

/-- What is kept has terms within bounds. -/
def pkOk (B T : Int) (st : Option (Int × Int)) : Prop := st = none ∨ ∃ b t, st = some (b, t) ∧ 0 ≤ b ∧ b ≤ B ∧ 1 ≤ t ∧ t ≤ T
theorem pkOk.step {B T lo hi b t : Int} {st : Option (Int × Int)} (h : pkOk B T st) (h1 : 0 ≤ b ∧ b ≤ B) (h2 : 1 ≤ t ∧ t ≤ T) : pkOk B T (pkStep lo hi b t st) := by
  unfold pkStep
  split
  · exact .inr ⟨b, t, rfl, h1.1, h1.2, h2.1, h2.2⟩
  · exact h
/-- What is kept is as fast as a row. -/
def pkDom (b t : Int) (st : Option (Int × Int)) : Prop := ∃ pb pt, st = some (pb, pt) ∧ 0 < pt ∧ b * pt ≤ pb * t
theorem dom_trans {b t pb pt c u : Int} (ht : 0 < t) (hpt : 0 < pt) (hu : 0 < u) (h1 : b * pt ≤ pb * t) (h2 : pb * u ≤ c * pt) : b * u ≤ c * t := by
  have k1 : b * pt * u ≤ pb * t * u := Int.mul_le_mul_of_nonneg_right h1 (by omega)
  have k2 : pb * u * t ≤ c * pt * t := Int.mul_le_mul_of_nonneg_right h2 (by omega)
  have e1 : pb * t * u = pb * u * t := by ac_rfl
  have e2 : b * pt * u = b * u * pt := by ac_rfl
  have e3 : c * pt * t = c * t * pt := by ac_rfl
  refine Int.le_of_mul_le_mul_right (a := pt) ?_ hpt
  rw [← e2, ← e3]
  omega
theorem pkDom.step {b t lo hi c u : Int} {st : Option (Int × Int)} (h : pkDom b t st) (ht : 0 < t) (hu : 0 < u) : pkDom b t (pkStep lo hi c u st) := by
  obtain ⟨pb, pt, rfl, h0, h1⟩ := h
  unfold pkStep
  split
  · rename_i hc
    refine ⟨c, u, rfl, hu, dom_trans ht h0 hu h1 ?_⟩
    rcases hc.2.2 with h2 | h2
    · cases h2
    · simpa using Int.le_of_lt h2
  · exact ⟨pb, pt, rfl, h0, h1⟩
theorem pkDom.self {B T b t lo hi : Int} {st : Option (Int × Int)} (h : pkOk B T st) (ht : 0 < t) (hlo : lo ≤ t) (hhi : t ≤ hi) : pkDom b t (pkStep lo hi b t st) := by
  unfold pkStep
  split
  · exact ⟨b, t, rfl, ht, Int.le_refl _⟩
  · rename_i hc
    rcases h with rfl | ⟨pb, pt, rfl, h0, h1, h2, h3⟩
    · exact absurd ⟨hlo, hhi, .inl rfl⟩ hc
    · refine ⟨pb, pt, rfl, by omega, ?_⟩
      have : ¬ pb * t < b * pt := fun h => hc ⟨hlo, hhi, .inr h⟩
      omega

/-- Sizes from 0 on and lengths from 1 on, both bounded. -/
structure RowsOk (F G : Nat → Int) (n : Nat) : Prop where
  len : n ≤ 500
  size : ∀ j, j < n → 0 ≤ F j ∧ F j ≤ 1000000000
  long : ∀ j, j < n → 1 ≤ G j ∧ G j ≤ 1000000000
theorem RowsOk.sz {F G : Nat → Int} {n : Nat} (h : RowsOk F G n) (i k : Nat) (hik : i ≤ k) (hk : k ≤ n) : 0 ≤ psum F k - psum F i ∧ psum F k - psum F i ≤ 500000000000 := by
  have h1 := psum_sub h.size i k hik hk
  have h2 := h.len
  have : 1000000000 * ((k - i : Nat) : Int) ≤ 500000000000 := by omega
  omega
theorem RowsOk.lg {F G : Nat → Int} {n : Nat} (h : RowsOk F G n) (i k : Nat) (hik : i ≤ k) (hk : k ≤ n) : ((k - i : Nat) : Int) ≤ psum G k - psum G i ∧ psum G k - psum G i ≤ 500000000000 := by
  have h1 := psum_sub h.long i k hik hk
  have h2 := h.len
  have : 1000000000 * ((k - i : Nat) : Int) ≤ 500000000000 := by omega
  omega
theorem RowsOk.grow {F G : Nat → Int} {n : Nat} (h : RowsOk F G n) (i k j : Nat) (hkj : k ≤ j) (hj : j ≤ n) : psum G k - psum G i ≤ psum G j - psum G i := by
  have := h.lg k j hkj hj
  omega
theorem pkIn_ok {F G : Nat → Int} {lo hi : Int} {n i : Nat} (h : RowsOk F G n) : ∀ (m k : Nat) (st : Option (Int × Int)), i ≤ k → k + m ≤ n → pkOk 500000000000 500000000000 st → pkOk 500000000000 500000000000 (pkIn F G lo hi i m k st)
  | 0, _, _, _, _, h0 => h0
  | m + 1, k, st, hi, hk, h0 => by
    rw [pkIn]
    refine pkIn_ok h m (k + 1) _ (by omega) (by omega) (h0.step (h.sz i (k + 1) (by omega) (by omega)) ?_)
    have := h.lg i (k + 1) (by omega) (by omega)
    omega
theorem pkIn_dom {F G : Nat → Int} {lo hi b t : Int} {n i : Nat} (h : RowsOk F G n) (ht : 0 < t) : ∀ (m k : Nat) (st : Option (Int × Int)), i ≤ k → k + m ≤ n → pkDom b t st → pkDom b t (pkIn F G lo hi i m k st)
  | 0, _, _, _, _, h0 => h0
  | m + 1, k, st, hi, hk, h0 => by
    rw [pkIn]
    refine pkIn_dom h ht m (k + 1) _ (by omega) (by omega) (h0.step ht ?_)
    have := h.lg i (k + 1) (by omega) (by omega)
    omega
theorem pkAll_dom {F G : Nat → Int} {lo hi b t : Int} {n : Nat} (h : RowsOk F G n) (ht : 0 < t) : ∀ (m i : Nat) (st : Option (Int × Int)), i + m ≤ n → pkDom b t st → pkDom b t (pkAll F G lo hi n m i st)
  | 0, _, _, _, h0 => h0
  | m + 1, i, st, hk, h0 => by
    rw [pkAll]
    exact pkAll_dom h ht m (i + 1) _ (by omega) (pkIn_dom h ht (n - i) i st (by omega) (by omega) h0)
theorem pkAll_ok {F G : Nat → Int} {lo hi : Int} {n : Nat} (h : RowsOk F G n) : ∀ (m i : Nat) (st : Option (Int × Int)), i + m ≤ n → pkOk 500000000000 500000000000 st → pkOk 500000000000 500000000000 (pkAll F G lo hi n m i st)
  | 0, _, _, _, h0 => h0
  | m + 1, i, st, hk, h0 => by
    rw [pkAll]
    exact pkAll_ok h m (i + 1) _ (by omega) (pkIn_ok h (n - i) i st (by omega) (by omega) h0)
theorem pkIn_last {F G : Nat → Int} {lo hi : Int} {i : Nat} : ∀ (m k : Nat) (st : Option (Int × Int)), pkIn F G lo hi i (m + 1) k st = pkStep lo hi (psum F (k + m + 1) - psum F i) (psum G (k + m + 1) - psum G i) (pkIn F G lo hi i m k st)
  | 0, k, st => rfl
  | m + 1, k, st => by
    rw [pkIn, pkIn_last m (k + 1), pkIn, show k + 1 + m + 1 = k + (m + 1) + 1 by omega]
/-- All segments together are a row: what is found is as fast as they are. -/
theorem pkAll_whole {F G : Nat → Int} {lo hi : Int} {n : Nat} (h : RowsOk F G n) (hn : 0 < n) (hlo : lo ≤ psum G n) (hhi : psum G n ≤ hi) : pkDom (psum F n) (psum G n) (pkAll F G lo hi n n 0 none) := by
  obtain ⟨m, rfl⟩ : ∃ m, n = m + 1 := ⟨n - 1, by omega⟩
  have ht : 0 < psum G (m + 1) := by
    have := h.lg 0 (m + 1) (by omega) (by omega)
    simp only [psum] at this ⊢
    omega
  rw [pkAll]
  refine pkAll_dom h ht m 1 _ (by omega) ?_
  rw [Nat.sub_zero, pkIn_last m 0 none]
  simp only [Nat.zero_add, psum, Int.sub_zero]
  exact pkDom.self (pkIn_ok h m 0 none (by omega) (by omega) (.inl rfl)) (by simpa [psum] using ht) (by simpa [psum] using hlo) (by simpa [psum] using hhi)

/-- The greatest common divisor, as a number. -/
def gcdI (a b : Int) : Int := (Int.gcd a b : Int)
theorem gcdI_pos {a b : Int} (h : 0 < b) : 0 < gcdI a b := by
  have : Int.gcd a b ≠ 0 := fun e => by
    have := Int.gcd_eq_zero_iff.1 e
    omega
  unfold gcdI
  omega
theorem gcdI_le {a b : Int} (h : 0 < b) : gcdI a b ≤ b := Int.le_of_dvd h (Int.gcd_dvd_right a b)
theorem gcdI_left (a b : Int) : a / gcdI a b * gcdI a b = a := Int.ediv_mul_cancel (Int.gcd_dvd_left a b)
theorem gcdI_right (a b : Int) : b / gcdI a b * gcdI a b = b := Int.ediv_mul_cancel (Int.gcd_dvd_right a b)
theorem gcdI_comm (a b : Int) : gcdI a b = gcdI b a := by unfold gcdI; rw [Int.gcd_comm]
theorem gcdI_zero (a : Int) (h : 0 ≤ a) : gcdI a 0 = a := by unfold gcdI; rw [Int.gcd_zero_right]; omega
/-- Euclid's step. -/
theorem gcdI_step (a b : Int) : gcdI b (a % b) = gcdI a b := by
  unfold gcdI
  congr 1
  apply Nat.dvd_antisymm
  · refine Int.dvd_coe_gcd ?_ (Int.gcd_dvd_left _ _) |> Int.ofNat_dvd.1
    have h1 : ((Int.gcd b (a % b) : Nat) : Int) ∣ b := Int.gcd_dvd_left _ _
    have h2 : ((Int.gcd b (a % b) : Nat) : Int) ∣ a % b := Int.gcd_dvd_right _ _
    have h3 := Int.dvd_add (Int.dvd_mul_of_dvd_left (c := a / b) h1) h2
    rwa [Int.mul_ediv_add_emod] at h3
  · refine Int.dvd_coe_gcd (Int.gcd_dvd_right _ _) ?_ |> Int.ofNat_dvd.1
    have h1 : ((Int.gcd a b : Nat) : Int) ∣ a := Int.gcd_dvd_left _ _
    have h2 : ((Int.gcd a b : Nat) : Int) ∣ b := Int.gcd_dvd_right _ _
    rw [Int.emod_def]
    exact Int.dvd_sub h1 (Int.dvd_mul_of_dvd_left (c := a / b) h2)
theorem div_pos {a g : Int} (hg : 0 < g) (ha : 0 < a) (h : a / g * g = a) : 0 < a / g := by
  rcases Int.lt_trichotomy 0 (a / g) with h1 | h1 | h1
  · exact h1
  · rw [← h1] at h; omega
  · have := Int.mul_neg_of_neg_of_pos h1 hg; omega
theorem div_nn {a g : Int} (hg : 0 < g) (ha : 0 ≤ a) : 0 ≤ a / g ∧ a / g ≤ a := ⟨Int.ediv_nonneg ha (by omega), Int.ediv_le_self g ha⟩

/-- The bits per second of so many bytes in so many ticks: the terms, and what they are cut down by. -/
def rtN (b t s : Int) : Int := 8 * b / gcdI (8 * b) t * (s / gcdI s (t / gcdI (8 * b) t))
def rtD (b t s : Int) : Int := t / gcdI (8 * b) t / gcdI s (t / gcdI (8 * b) t)
def rtF (b t s : Int) : Int := if rtN b t s ≤ 9223372036854775807 then 0 else 1

structure RtFacts (b t s : Int) : Prop where
  g : 0 < gcdI (8 * b) t
  n0 : 0 ≤ 8 * b / gcdI (8 * b) t
  n1 : 8 * b / gcdI (8 * b) t ≤ 8 * b
  t0 : 0 < t / gcdI (8 * b) t
  t1 : t / gcdI (8 * b) t ≤ t
  h : 0 < gcdI s (t / gcdI (8 * b) t)
  s0 : 0 < s / gcdI s (t / gcdI (8 * b) t)
  s1 : s / gcdI s (t / gcdI (8 * b) t) ≤ s
  d0 : 0 < rtD b t s
  d1 : rtD b t s ≤ t
  val : rtN b t s * t = 8 * b * s * rtD b t s
theorem rt_facts {b t s : Int} (hb : 0 ≤ b) (ht : 0 < t) (hs : 0 < s) : RtFacts b t s := by
  have hg := gcdI_pos (a := 8 * b) ht
  have e1 := gcdI_left (8 * b) t
  have e2 := gcdI_right (8 * b) t
  obtain ⟨x, hx⟩ : ∃ x, 8 * b / gcdI (8 * b) t = x := ⟨_, rfl⟩
  obtain ⟨y, hy⟩ : ∃ y, t / gcdI (8 * b) t = y := ⟨_, rfl⟩
  have hx0 : 0 ≤ x ∧ x ≤ 8 * b := by rw [← hx]; exact div_nn hg (by omega)
  have hy0 : 0 < y := by rw [← hy]; exact div_pos hg ht e2
  have hy1 : y ≤ t := by rw [← hy]; exact Int.ediv_le_self _ (by omega)
  have hh := gcdI_pos (a := s) hy0
  have e3 := gcdI_left s y
  have e4 := gcdI_right s y
  obtain ⟨u, hu⟩ : ∃ u, s / gcdI s y = u := ⟨_, rfl⟩
  obtain ⟨v, hv⟩ : ∃ v, y / gcdI s y = v := ⟨_, rfl⟩
  have hu0 : 0 < u := by rw [← hu]; exact div_pos hh hs e3
  have hu1 : u ≤ s := by rw [← hu]; exact Int.ediv_le_self _ (by omega)
  have hv0 : 0 < v := by rw [← hv]; exact div_pos hh hy0 e4
  have hv1 : v ≤ y := by rw [← hv]; exact Int.ediv_le_self _ (by omega)
  have hN : rtN b t s = x * u := by rw [rtN, hx, hy, hu]
  have hD : rtD b t s = v := by rw [rtD, hy, hv]
  refine ⟨hg, by rw [hx]; exact hx0.1, by rw [hx]; exact hx0.2, by rw [hy]; exact hy0, by rw [hy]; exact hy1, by rw [hy]; exact hh, by rw [hy, hu]; exact hu0, by rw [hy, hu]; exact hu1, by rw [hD]; exact hv0, by rw [hD]; omega, ?_⟩
  rw [hN, hD]
  rw [hx] at e1
  rw [hy] at e2
  rw [hu] at e3
  rw [hv] at e4
  generalize gcdI (8 * b) t = g at *
  generalize gcdI s y = h at *
  rw [← e1, ← e2, ← e3, ← e4]
  ac_rfl
theorem rt_less {pb pt B T s : Int} (h1 : RtFacts pb pt s) (h2 : RtFacts B T s) (hs : 0 < s) (hp : 0 < pt) (hT : 0 < T) (h : B * pt ≤ pb * T) : ¬ rtN pb pt s * rtD B T s < rtN B T s * rtD pb pt s := by
  have v1 := h1.val
  have v2 := h2.val
  have d1 := h1.d0
  have d2 := h2.d0
  generalize rtN pb pt s = p1 at *
  generalize rtD pb pt s = q1 at *
  generalize rtN B T s = p2 at *
  generalize rtD B T s = q2 at *
  have hm : 0 ≤ 8 * s * q1 * q2 := Int.mul_nonneg (Int.mul_nonneg (by omega) (by omega)) (by omega)
  have k : (B * pt) * (8 * s * q1 * q2) ≤ (pb * T) * (8 * s * q1 * q2) := Int.mul_le_mul_of_nonneg_right h hm
  have e1 : (B * pt) * (8 * s * q1 * q2) = (p2 * q1) * (pt * T) := by
    have : (B * pt) * (8 * s * q1 * q2) = (8 * B * s * q2) * (pt * q1) := by ac_rfl
    rw [this, ← v2]
    ac_rfl
  have e2 : (pb * T) * (8 * s * q1 * q2) = (p1 * q2) * (pt * T) := by
    have : (pb * T) * (8 * s * q1 * q2) = (8 * pb * s * q1) * (T * q2) := by ac_rfl
    rw [this, ← v1]
    ac_rfl
  have hpt := Int.mul_pos hp hT
  rw [e1, e2] at k
  have := Int.le_of_mul_le_mul_right k hpt
  omega

/-- The faults of sizes, lengths and their scale. -/
def segF (F G : List Int) (s : Int) : Int :=
  if F.length = 0 then 9 else if 500 < F.length then 2 else if G.length ≠ F.length then 3
  else if ∃ j, j < F.length ∧ ¬ ((0 ≤ F.getD j 0 ∧ F.getD j 0 ≤ 1000000000) ∧ (1 ≤ G.getD j 0 ∧ G.getD j 0 ≤ 1000000000)) then 1
  else if 1 ≤ s ∧ s ≤ 1000000000 then 0 else 1
theorem segF_zero {F G : List Int} {s : Int} (h : segF F G s = 0) : 0 < F.length ∧ G.length = F.length ∧ RowsOk (fun j => F.getD j 0) (fun j => G.getD j 0) F.length ∧ 1 ≤ s ∧ s ≤ 1000000000 := by
  unfold segF at h
  split at h <;> try omega
  split at h <;> try omega
  split at h <;> try omega
  split at h <;> try omega
  split at h <;> try omega
  rename_i h0 h1 h2 h3 h4
  have hall : ∀ j, j < F.length → ((0 ≤ F.getD j 0 ∧ F.getD j 0 ≤ 1000000000) ∧ (1 ≤ G.getD j 0 ∧ G.getD j 0 ≤ 1000000000)) := fun j hj => Decidable.byContradiction fun hn => h3 ⟨j, hj, hn⟩
  exact ⟨by omega, by omega, ⟨by omega, fun j hj => (hall j hj).1, fun j hj => (hall j hj).2⟩, h4.1, h4.2⟩

end Go.Proofs.Ytinckidkophobaa
