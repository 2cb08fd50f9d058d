/- Plain facts: with fewer renditions a viewer takes no better one. -/
import Derived.Test.YtinckidkophobaaViews
namespace Go.Proofs.Ytinckidkophobaa
set_option linter.unusedVariables false
set_option linter.unusedSimpArgs false

theorem tkI_facts (v : Vw) (rs : List Rung) : ∀ k, (tkI v rs k = none → ∀ j, j < k → canT v (rs.getD j rung0) = false) ∧
    ∀ i, tkI v rs k = some i → canT v (rs.getD i rung0) = true ∧ ∀ j, j < k → canT v (rs.getD j rung0) = true → (rs.getD j rung0).qu ≤ (rs.getD i rung0).qu
  | 0 => ⟨fun _ j hj => by omega, fun i h => by simp [tkI] at h⟩
  | k + 1 => by
    obtain ⟨h1, h2⟩ := tkI_facts v rs k
    rw [tkI]
    split
    · rename_i hc
      obtain ⟨hc1, hc2⟩ := hc
      refine ⟨fun h => by simp at h, fun i h => ?_⟩
      simp only [Option.some.injEq] at h
      subst h
      refine ⟨hc1, fun j hj hcj => ?_⟩
      by_cases e : j = k
      · subst e; exact Int.le_refl _
      · cases ht : tkI v rs k with
        | none => rw [h1 ht j (by omega)] at hcj; simp at hcj
        | some i =>
          rw [ht] at hc2
          have h4 : (rs.getD i rung0).qu < (rs.getD k rung0).qu := by
            rcases hc2 with h | h
            · cases h
            · exact h
          have := (h2 i ht).2 j (by omega) hcj
          omega
    · rename_i hc
      refine ⟨fun h j hj => ?_, fun i h => ?_⟩
      · by_cases e : j = k
        · subst e
          cases hb : canT v (rs.getD j rung0) with
          | false => rfl
          | true => exact absurd ⟨hb, .inl h⟩ hc
        · exact h1 h j (by omega)
      · refine ⟨(h2 i h).1, fun j hj hcj => ?_⟩
        by_cases e : j = k
        · subst e
          rw [h] at hc
          exact Int.not_lt.1 fun h4 => hc ⟨hcj, .inr h4⟩
        · exact (h2 i h).2 j (by omega) hcj
theorem tkQ_pick {v : Vw} {rs ys : List Rung} (hv : 0 ≤ v.wt) (hq : ∀ i, i < rs.length → 0 ≤ (rs.getD i rung0).qu) (f : Nat → Nat)
    (hf : ∀ i, i < ys.length → f i < rs.length ∧ ys.getD i rung0 = rs.getD (f i) rung0) : tkQ v ys ≤ tkQ v rs := by
  have h0 : 0 ≤ tkQ v rs := by
    unfold tkQ
    cases h : tkI v rs rs.length with
    | none => simp
    | some i => exact Int.mul_nonneg hv (hq i (tkI_lt v rs _ _ h))
  cases h : tkI v ys ys.length with
  | none => rw [tkQ, h]; exact h0
  | some i =>
    have hi := tkI_lt v ys _ _ h
    obtain ⟨h1, h2⟩ := (tkI_facts v ys ys.length).2 i h
    obtain ⟨f1, f2⟩ := hf i hi
    rw [f2] at h1
    cases g : tkI v rs rs.length with
    | none => rw [(tkI_facts v rs rs.length).1 g (f i) f1] at h1; simp at h1
    | some i' =>
      have := ((tkI_facts v rs rs.length).2 i' g).2 (f i) f1 h1
      rw [tkQ, tkQ, h, g]
      simp only
      rw [f2]
      exact Int.mul_le_mul_of_nonneg_left this hv
theorem worthTo_pick {rs ys : List Rung} {vs : List Vw} (hv : ∀ j, j < vs.length → 0 ≤ (vs.getD j vw0).wt) (hq : ∀ i, i < rs.length → 0 ≤ (rs.getD i rung0).qu) (f : Nat → Nat)
    (hf : ∀ i, i < ys.length → f i < rs.length ∧ ys.getD i rung0 = rs.getD (f i) rung0) : ∀ k, k ≤ vs.length → worthTo ys vs k ≤ worthTo rs vs k
  | 0, _ => by simp [worthTo]
  | k + 1, hk => by
    have h1 := worthTo_pick hv hq f hf k (by omega)
    have h2 := tkQ_pick (v := vs.getD k vw0) (hv k (by omega)) hq f hf
    rw [worthTo, worthTo]
    omega
/-- A list without one of its elements. -/
def without (rs : List Rung) (p : Nat) : List Rung := rs.take p ++ rs.drop (p + 1)
theorem without_len {rs : List Rung} {p : Nat} (h : p < rs.length) : (without rs p).length = rs.length - 1 := by
  unfold without; rw [List.length_append, List.length_take, List.length_drop]; omega
theorem without_at {rs : List Rung} {p : Nat} (h : p < rs.length) (i : Nat) : (without rs p).getD i rung0 = rs.getD (if i < p then i else i + 1) rung0 := by
  unfold without
  rw [List.getD_eq_getElem?_getD, List.getD_eq_getElem?_getD, List.getElem?_append, List.length_take, Nat.min_eq_left (by omega)]
  by_cases hi : i < p
  · rw [if_pos hi, if_pos hi, List.getElem?_take, if_pos hi]
  · rw [if_neg hi, if_neg hi, List.getElem?_drop, show p + 1 + (i - p) = i + 1 by omega]
theorem without_ok {rs : List Rung} {p : Nat} (g : OkRs rs) (h : p < rs.length) : OkRs (without rs p) := by
  have hl := without_len h
  refine g.pick (fun i => if i < p then i else i + 1) (fun i j hij hj => ?_) (fun i hi => ⟨?_, without_at h i⟩)
  · by_cases h1 : i < p <;> by_cases h2 : j < p <;> simp [h1, h2] <;> omega
  · by_cases h1 : i < p <;> simp [h1] <;> omega
theorem without_less {rs : List Rung} {vs : List Vw} {p : Nat} (g : OkRs rs) (h : p < rs.length) (hv : ∀ j, j < vs.length → vwOk (vs.getD j vw0)) : worthTo (without rs p) vs vs.length ≤ worthTo rs vs vs.length := by
  have hl := without_len h
  refine worthTo_pick (fun j hj => by have := (hv j hj).2.2.1; omega) (fun i hi => (g.ok i hi).qu.1) (fun i => if i < p then i else i + 1) (fun i hi => ⟨?_, without_at h i⟩) _ (Nat.le_refl _)
  by_cases h1 : i < p <;> simp [h1] <;> omega

end Go.Proofs.Ytinckidkophobaa
