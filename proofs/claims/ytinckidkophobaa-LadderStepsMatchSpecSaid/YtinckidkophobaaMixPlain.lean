/- Plain facts: what a hull has at a rate. -/
import Derived.Test.YtinckidkophobaaHullPlain2
import Derived.Test.YtinckidkophobaaMean5
namespace Go.Proofs.Ytinckidkophobaa
set_option linter.unusedVariables false
set_option linter.unusedSimpArgs false

theorem countP_split (p : Nat → Bool) : ∀ n, (∀ a b, a ≤ b → b < n → p a = true → p b = true) → ((List.range n).countP (fun i => !p i) ≤ n ∧ (∀ i, i < (List.range n).countP (fun i => !p i) → p i = false) ∧ ∀ i, (List.range n).countP (fun i => !p i) ≤ i → i < n → p i = true)
  | 0, _ => ⟨by simp, fun i hi => by simp at hi, fun i _ hi => by omega⟩
  | n + 1, h => by
    obtain ⟨h1, h2, h3⟩ := countP_split p n (fun a b hab hb => h a b hab (by omega))
    rw [List.range_succ, List.countP_append]
    cases hp : p n with
    | true =>
      have e : (List.range n).countP (fun i => !p i) + [n].countP (fun i => !p i) = (List.range n).countP (fun i => !p i) := by simp [hp]
      rw [e]
      refine ⟨by omega, h2, fun i hi hin => ?_⟩
      by_cases ein : i = n
      · rw [ein]; exact hp
      · exact h3 i hi (by omega)
    | false =>
      have hall : ∀ i, i < n → p i = false := fun i hi => by
        cases hpi : p i with
        | false => rfl
        | true => have := h i n (by omega) (by omega) hpi; rw [hp] at this; cases this
      have hc : (List.range n).countP (fun i => !p i) = n := by
        have : (List.range n).countP (fun i => !p i) = (List.range n).length := List.countP_eq_length.2 (fun i hi => by rw [hall i (by simpa using hi)]; rfl)
        simpa using this
      have e : (List.range n).countP (fun i => !p i) + [n].countP (fun i => !p i) = n + 1 := by rw [hc]; simp [hp]
      rw [e]
      refine ⟨by omega, fun i hi => ?_, fun i hi hin => by omega⟩
      by_cases ein : i = n
      · rw [ein]; exact hp
      · exact hall i (by omega)
/-- How many of the first m corners are not dearer than q. -/
def ntH (rs : List Rung) (m : Nat) (q : Int) : Nat := (List.range m).countP (fun i => !decide (q < (rs.getD (hI rs i) rung0).ra))
structure HullCut (rs : List Rung) (m : Nat) (q : Int) (c : Nat) : Prop where
  le : c ≤ m
  low : ∀ i, i < c → (rs.getD (hI rs i) rung0).ra ≤ q
  high : ∀ i, c ≤ i → i < m → q < (rs.getD (hI rs i) rung0).ra
theorem hull_mono {rs : List Rung} {n m : Nat} (h : HullAt rs n m) : ∀ a b, a ≤ b → b < m → (rs.getD (hI rs a) rung0).ra ≤ (rs.getD (hI rs b) rung0).ra := by
  intro a b hab
  induction b with
  | zero => intro _; have : a = 0 := by omega
            subst this; exact Int.le_refl _
  | succ b ih =>
    intro hb
    by_cases e : a = b + 1
    · subst e; exact Int.le_refl _
    · have h1 := ih (by omega) (by omega)
      have h2 := (h.up (b + 1) (by omega) hb).1
      rw [Nat.add_sub_cancel] at h2
      omega
theorem hull_cut {rs : List Rung} {n m : Nat} (h : HullAt rs n m) (q : Int) : HullCut rs m q (ntH rs m q) := by
  obtain ⟨h1, h2, h3⟩ := countP_split (fun i => decide (q < (rs.getD (hI rs i) rung0).ra)) m (fun a b hab hb hp => by
    have := of_decide_eq_true hp
    have := hull_mono h a b hab hb
    exact decide_eq_true (by omega))
  exact ⟨h1, fun i hi => by have := of_decide_eq_false (h2 i hi); omega, fun i hi hm => of_decide_eq_true (h3 i hi hm)⟩
def mixN (lo hi : Rung) (q : Int) : Int := lo.qu * (hi.ra - q) + hi.qu * (q - lo.ra)
theorem mixN_eq (lo hi : Rung) (q : Int) : lo.qu * (hi.ra - lo.ra) + (hi.qu - lo.qu) * (q - lo.ra) = mixN lo hi q := by
  unfold mixN
  simp only [Int.mul_sub, Int.sub_mul]
  omega
/-- What the hull has at q, of whose corners c are not dearer. -/
structure OnOk (rs : List Rung) (m : Nat) (q : Int) (c : Nat) (X Y : Int) (B : Bool) : Prop where
  none : c = 0 → X = 0 ∧ Y = 0 ∧ B = false
  last : 0 < c → c = m → X = (rs.getD (hI rs (c - 1)) rung0).qu ∧ Y = 1 ∧ B = true
  mid : 0 < c → c < m → X = mixN (rs.getD (hI rs (c - 1)) rung0) (rs.getD (hI rs c) rung0) q / gcdI (mixN (rs.getD (hI rs (c - 1)) rung0) (rs.getD (hI rs c) rung0) q) ((rs.getD (hI rs c) rung0).ra - (rs.getD (hI rs (c - 1)) rung0).ra) ∧
    Y = ((rs.getD (hI rs c) rung0).ra - (rs.getD (hI rs (c - 1)) rung0).ra) / gcdI (mixN (rs.getD (hI rs (c - 1)) rung0) (rs.getD (hI rs c) rung0) q) ((rs.getD (hI rs c) rung0).ra - (rs.getD (hI rs (c - 1)) rung0).ra) ∧ B = true
theorem on_ex (rs : List Rung) (m : Nat) (q : Int) (c : Nat) (h : c ≤ m) : ∃ X Y B, OnOk rs m q c X Y B := by
  by_cases h0 : c = 0
  · exact ⟨0, 0, false, fun _ => ⟨rfl, rfl, rfl⟩, fun h => by omega, fun h => by omega⟩
  · by_cases h1 : c = m
    · exact ⟨_, _, true, fun h => by omega, fun _ _ => ⟨rfl, rfl, rfl⟩, fun _ h => by omega⟩
    · exact ⟨_, _, true, fun h => by omega, fun _ h => by omega, fun _ _ => ⟨rfl, rfl, rfl⟩⟩
theorem gcdI_one (x : Int) (h : 0 ≤ x) : gcdI x 1 = 1 := by
  have h1 := gcdI_le (a := x) (b := 1) (by decide)
  have h2 := gcdI_pos (a := x) (b := 1) (by decide)
  omega
theorem mul_range {x y a b : Int} (h1 : 0 ≤ x) (h2 : x ≤ a) (h3 : 0 ≤ y) (h4 : y ≤ b) : 0 ≤ x * y ∧ x * y ≤ a * b :=
  ⟨Int.mul_nonneg h1 h3, Int.mul_le_mul h2 h4 h3 (by omega)⟩

end Go.Proofs.Ytinckidkophobaa
