/- Plain facts of corners by their places; what is picked. -/
import Derived.Test.YtinckidkophobaaHull
import Derived.Test.YtinckidkophobaaSens
namespace Go.Proofs.Ytinckidkophobaa
set_option linter.unusedVariables false
set_option linter.unusedSimpArgs false

theorem chain_at {rs : List Rung} : ∀ {st : List Nat}, Chain rs st → ∀ j, j + 1 < st.length → ((rs.getD (st.getD (j + 1) 0) rung0).ra < (rs.getD (st.getD j 0) rung0).ra ∧ (rs.getD (st.getD (j + 1) 0) rung0).qu < (rs.getD (st.getD j 0) rung0).qu) ∧ (j + 2 < st.length → aboveB (rs.getD (st.getD (j + 1) 0) rung0) (rs.getD (st.getD (j + 2) 0) rung0) (rs.getD (st.getD j 0) rung0) = true)
  | [], _, j, hj => by simp at hj
  | [_], _, j, hj => by simp at hj
  | a :: b :: t, h, 0, hj => by
    refine ⟨⟨h.1.1, h.1.2.1⟩, fun h2 => ?_⟩
    cases t with
    | nil => simp at h2
    | cons c t => exact h.1.2.2.2 c rfl
  | a :: b :: t, h, j + 1, hj => by
    have := chain_at h.2 j (by simp at hj ⊢; omega)
    refine ⟨this.1, fun h2 => this.2 (by simp at h2 ⊢; omega)⟩
/-- The corner at a place, from the first one on. -/
def hI (rs : List Rung) (i : Nat) : Nat := (hullTo rs rs.length).reverse.getD i 0
theorem rev_at (st : List Nat) (i : Nat) (h : i < st.length) : st.reverse.getD i 0 = st.getD (st.length - 1 - i) 0 := by
  rw [List.getD_eq_getElem?_getD, List.getD_eq_getElem?_getD, List.getElem?_eq_getElem (by simpa using h), List.getElem?_eq_getElem (by omega), List.getElem_reverse]
theorem hI_at (rs : List Rung) (i : Nat) (h : i < (hullTo rs rs.length).length) : (cornI (hullTo rs rs.length)).getD i 0 = (hI rs i : Int) := by
  unfold cornI hI
  rw [List.getD_eq_getElem?_getD, List.getElem?_map, List.getD_eq_getElem?_getD, List.getElem?_eq_getElem (by simpa using h)]
  rfl
structure HullAt (rs : List Rung) (n m : Nat) : Prop where
  lt : ∀ i, i < m → hI rs i < n
  sen : ∀ i, i < m → (pickI (senB rs) rs n).contains (hI rs i : Int) = true
  up : ∀ i, 0 < i → i < m → (rs.getD (hI rs (i - 1)) rung0).ra < (rs.getD (hI rs i) rung0).ra ∧ (rs.getD (hI rs (i - 1)) rung0).qu < (rs.getD (hI rs i) rung0).qu
  flat : ∀ i, 1 < i → i < m → aboveB (rs.getD (hI rs (i - 1)) rung0) (rs.getD (hI rs (i - 2)) rung0) (rs.getD (hI rs i) rung0) = true
  some : 0 < n → 0 < m
theorem pickI_has (p : Rung → Bool) (rs : List Rung) : ∀ k i, i < k → p (rs.getD i rung0) = true → (pickI p rs k).contains (i : Int) = true
  | 0, i, h, _ => by omega
  | k + 1, i, h, hp => by
    rw [pickI]
    by_cases e : i = k
    · subst e
      rw [if_pos hp, List.contains_iff_mem]
      simp
    · have := pickI_has p rs k i (by omega) hp
      split
      · rw [List.contains_iff_mem] at this ⊢
        exact List.mem_append_left _ this
      · exact this
theorem hull_at {rs : List Rung} (g : OkRs rs) : HullAt rs rs.length (hullTo rs rs.length).length := by
  have h := hull_ok (rs := rs) (fun i j hij hj => g.rate i j hij hj) rs.length (Nat.le_refl _)
  have hmem : ∀ i, i < (hullTo rs rs.length).length → hI rs i ∈ hullTo rs rs.length := fun i hi => by
    unfold hI
    rw [List.getD_eq_getElem?_getD, List.getElem?_eq_getElem (by simpa using hi)]
    exact List.mem_reverse.1 (List.getElem_mem _)
  refine ⟨fun i hi => h.lt _ (hmem i hi), fun i hi => ?_, fun i h0 hi => ?_, fun i h1 hi => ?_, fun h0 => ?_⟩
  · refine pickI_has _ _ _ _ (h.lt _ (hmem i hi)) ?_
    have hb := h.best _ (hmem i hi)
    unfold senB
    rw [Bool.not_eq_true', List.any_eq_false]
    intro x hx
    obtain ⟨j, hj, rfl⟩ := List.mem_iff_getElem.1 hx
    have hb2 := hb j hj
    rw [List.getD_eq_getElem?_getD, List.getElem?_eq_getElem hj] at hb2
    simp only [Option.getD_some] at hb2
    intro hc
    unfold beatsB at hc
    simp only [Bool.and_eq_true, Bool.or_eq_true, bne_iff_ne, decide_eq_true_eq] at hc
    obtain ⟨⟨hd, h1⟩, h2⟩ := hc
    obtain ⟨h3, h4⟩ := hb2 h1
    have h5 := h4 (by omega)
    rcases hd with hd | hd
    · exact hd h5
    · exact hd (by omega)
  · have h2 := (chain_at h.chain ((hullTo rs rs.length).length - 1 - i) (by omega)).1
    unfold hI
    rw [rev_at _ _ hi, rev_at _ _ (by omega)]
    rw [show (hullTo rs rs.length).length - 1 - i + 1 = (hullTo rs rs.length).length - 1 - (i - 1) by omega] at h2
    exact h2
  · have h2 := (chain_at h.chain ((hullTo rs rs.length).length - 1 - i) (by omega)).2 (by omega)
    unfold hI
    rw [rev_at _ _ hi, rev_at _ _ (by omega), rev_at _ _ (by omega)]
    rw [show (hullTo rs rs.length).length - 1 - i + 1 = (hullTo rs rs.length).length - 1 - (i - 1) by omega, show (hullTo rs rs.length).length - 1 - i + 2 = (hullTo rs rs.length).length - 1 - (i - 2) by omega] at h2
    exact h2
  · obtain ⟨a, ha, -⟩ := h.top 0 h0
    cases e : hullTo rs rs.length with
    | nil => rw [e] at ha; simp at ha
    | cons b t => simp

end Go.Proofs.Ytinckidkophobaa
