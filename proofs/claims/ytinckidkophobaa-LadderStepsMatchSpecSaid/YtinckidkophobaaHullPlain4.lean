/- Plain facts: the corners that the reference finds are those of the program. -/
import Derived.Test.YtinckidkophobaaHullPlain3
namespace Go.Proofs.Ytinckidkophobaa
set_option linter.unusedVariables false
set_option linter.unusedSimpArgs false

/-- No other rendition of the same rate is better, or as good and before it. -/
def Fst (rs : List Rung) (i : Nat) : Prop := ∀ k, k < rs.length → (rs.getD k rung0).ra = (rs.getD i rung0).ra → (rs.getD k rung0).qu ≤ (rs.getD i rung0).qu ∧ ((rs.getD k rung0).qu = (rs.getD i rung0).qu → i ≤ k)
/-- It lies above all lines between others. -/
def Cor (rs : List Rung) (i : Nat) : Prop := ∀ a b, a < rs.length → b < rs.length → (rs.getD a rung0).ra < (rs.getD i rung0).ra → (rs.getD i rung0).ra < (rs.getD b rung0).ra → aboveB (rs.getD i rung0) (rs.getD a rung0) (rs.getD b rung0) = true
/-- It is better than all before it. -/
def Rcd (rs : List Rung) (i : Nat) : Prop := ∀ j, j < i → (rs.getD j rung0).qu < (rs.getD i rung0).qu
def Crn (rs : List Rung) (i : Nat) : Prop := Fst rs i ∧ Cor rs i ∧ Rcd rs i
theorem above_mono {i a b : Rung} (h1 : a.ra < i.ra) (h2 : i.ra < b.ra) (hq : a.qu < i.qu) (hb : b.qu ≤ i.qu) : aboveB i a b = true := by
  refine decide_eq_true ?_
  have h3 := Int.mul_le_mul_of_nonneg_right (show b.qu - a.qu ≤ i.qu - a.qu by omega) (show 0 ≤ i.ra - a.ra by omega)
  have h4 := Int.mul_lt_mul_of_pos_left (show i.ra - a.ra < b.ra - a.ra by omega) (show 0 < i.qu - a.qu by omega)
  omega
/-- Steeper before, flatter behind: above. -/
theorem above_mid {lo i hi a b : Rung} (h1 : lo.ra < i.ra) (h2 : i.ra < hi.ra) (ha : a.ra < i.ra) (hb : i.ra < b.ra) (hm : aboveB i lo hi = true) (ua : undr lo i a) (ub : undr i hi b) : aboveB i a b = true := by
  have hm := of_decide_eq_true hm
  unfold undr at *
  refine decide_eq_true ?_
  obtain ⟨D, hD⟩ : ∃ D, i.ra - lo.ra = D := ⟨_, rfl⟩
  obtain ⟨E, hE⟩ : ∃ E, hi.ra - i.ra = E := ⟨_, rfl⟩
  obtain ⟨R, hR⟩ : ∃ R, i.ra - a.ra = R := ⟨_, rfl⟩
  obtain ⟨T, hT⟩ : ∃ T, b.ra - i.ra = T := ⟨_, rfl⟩
  obtain ⟨M, hM⟩ : ∃ M, i.qu - lo.qu = M := ⟨_, rfl⟩
  obtain ⟨P, hP⟩ : ∃ P, hi.qu - i.qu = P := ⟨_, rfl⟩
  obtain ⟨X, hX⟩ : ∃ X, i.qu - a.qu = X := ⟨_, rfl⟩
  obtain ⟨Y, hY⟩ : ∃ Y, b.qu - i.qu = Y := ⟨_, rfl⟩
  have d0 : 0 < D := by omega
  have e0 : 0 < E := by omega
  have r0 : 0 < R := by omega
  have t0 : 0 < T := by omega
  rw [show a.qu - lo.qu = M - X by omega, show a.ra - lo.ra = D - R by omega, hD, hM] at ua
  rw [show hi.qu - lo.qu = P + M by omega, show hi.ra - lo.ra = E + D by omega, hD, hM] at hm
  rw [hY, hE, hP, hT] at ub
  rw [show b.qu - a.qu = Y + X by omega, show b.ra - a.ra = T + R by omega, hX, hR]
  rw [Int.sub_mul, Int.mul_sub] at ua
  rw [Int.add_mul, Int.mul_add] at hm
  rw [Int.add_mul, Int.mul_add]
  have a1 : M * R ≤ X * D := by omega
  have a2 : P * D < M * E := by omega
  have b1 := Int.mul_le_mul_of_nonneg_right a1 (Int.le_of_lt e0)
  have b2 := Int.mul_lt_mul_of_pos_right a2 r0
  have e1 : M * R * E = M * E * R := by ac_rfl
  have e2 : P * D * R = P * R * D := by ac_rfl
  have e3 : X * D * E = X * E * D := by ac_rfl
  have s1 : P * R * D < X * E * D := by omega
  have s2 : P * R < X * E := Int.lt_of_mul_lt_mul_right s1 (Int.le_of_lt d0)
  have c1 := Int.mul_le_mul_of_nonneg_right ub (Int.le_of_lt r0)
  have c2 := Int.mul_lt_mul_of_pos_right s2 t0
  have f1 : P * T * R = P * R * T := by ac_rfl
  have f2 : Y * E * R = Y * R * E := by ac_rfl
  have f3 : X * E * T = X * T * E := by ac_rfl
  have s3 : Y * R * E < X * T * E := by omega
  have s4 : Y * R < X * T := Int.lt_of_mul_lt_mul_right s3 (Int.le_of_lt e0)
  omega
theorem cor_in {rs : List Rung} : ∀ (st : List Nat) (hi : Nat), Chain rs (hi :: st) → Edges rs rs.length (hi :: st) → ∀ i ∈ st, Cor rs i
  | [], _, _, _, i, h => by simp at h
  | c :: t, hi, hc, he, i, h => by
    rcases List.mem_cons.1 h with rfl | h
    · intro a b ha hb h1 h2
      cases t with
      | nil => have := he.2 a ha; omega
      | cons lo t => exact above_mid hc.2.1.1 hc.1.1 h1 h2 (hc.1.2.2.2 lo rfl) (he.2.1 a ha) (he.1 b hb)
    · exact cor_in t c hc.2 he.2 i h
theorem rcd_in {rs : List Rung} (hr : ∀ i j, i ≤ j → j < rs.length → (rs.getD i rung0).ra ≤ (rs.getD j rung0).ra) : ∀ k, k ≤ rs.length → ∀ i ∈ hullTo rs k, Rcd rs i
  | 0, _, i, h => by simp [hullTo] at h
  | k + 1, hk, i, h => by
    have g := hull_ok hr k (by omega)
    have ih := rcd_in hr k (by omega)
    rw [hullTo] at h
    obtain ⟨st, hst⟩ : ∃ st, hullTo rs k = st := ⟨_, rfl⟩
    rw [hst] at g ih h
    cases st with
    | nil =>
      simp only [hullStep, List.mem_singleton] at h
      subst h
      intro j hj
      obtain ⟨a, ha, -⟩ := g.top j hj
      simp at ha
    | cons a t =>
      rw [hullStep] at h
      split at h
      · exact ih i h
      · rename_i hq
        rcases List.mem_cons.1 h with rfl | h
        · intro j hj
          obtain ⟨a', h1, h2⟩ := g.top j hj
          simp only [List.head?_cons, Option.some.injEq] at h1
          subst h1
          omega
        · exact ih i (popTo_sub _ _ _ i h)
theorem hull_sound {rs : List Rung} (hr : ∀ i j, i ≤ j → j < rs.length → (rs.getD i rung0).ra ≤ (rs.getD j rung0).ra) : ∀ i ∈ hullTo rs rs.length, i < rs.length ∧ Crn rs i := by
  intro i hi
  have g := hull_ok hr rs.length (Nat.le_refl _)
  have he := edges_ok hr rs.length (Nat.le_refl _)
  have hrc := rcd_in hr rs.length (Nat.le_refl _) i hi
  have hlt := g.lt i hi
  refine ⟨hlt, fun k hk hra => ?_, ?_, hrc⟩
  · have h1 := (g.best i hi k hk (by omega)).1
    refine ⟨h1, fun e => ?_⟩
    by_cases hki : k < i
    · have := hrc k hki; omega
    · omega
  · obtain ⟨st, hst⟩ : ∃ st, hullTo rs rs.length = st := ⟨_, rfl⟩
    rw [hst] at g he hi
    cases st with
    | nil => simp at hi
    | cons c t =>
      rcases List.mem_cons.1 hi with rfl | hi2
      · intro a b ha hb h1 h2
        obtain ⟨c', e1, e2⟩ := g.top b hb
        simp only [List.head?_cons, Option.some.injEq] at e1
        subst e1
        obtain ⟨b1, b2⟩ := g.best i List.mem_cons_self a ha (by omega)
        have : ¬ (rs.getD a rung0).qu = (rs.getD i rung0).qu := fun e => by have := b2 e; omega
        exact above_mono h1 h2 (by omega) e2
      · exact cor_in t c g.chain he i hi2
theorem pop_keeps {rs : List Rung} {k i : Nat} (hc : Crn rs i) (hk : k < rs.length) (hlt : (rs.getD i rung0).ra ≤ (rs.getD k rung0).ra) (hq : (rs.getD i rung0).qu < (rs.getD k rung0).qu) : ∀ st, (∀ a ∈ st, a < rs.length) → Chain rs st → i ∈ st → i ∈ popTo rs (rs.getD k rung0) st
  | [], _, _, h => by simp at h
  | a :: t, hl, hch, h => by
    rw [popTo]
    split
    · exact h
    · rename_i hs
      rcases List.mem_cons.1 h with rfl | h
      · exfalso
        have hne : (rs.getD i rung0).ra < (rs.getD k rung0).ra := by
          by_cases e : (rs.getD k rung0).ra = (rs.getD i rung0).ra
          · have := (hc.1 k hk e).1; omega
          · omega
        apply hs
        cases t with
        | nil => exact decide_eq_true hne
        | cons b t =>
          rw [stayB, decide_eq_true hne, Bool.true_and]
          exact hc.2.1 b k (hl b (by simp)) hk hch.1.1 hne
      · exact pop_keeps hc hk hlt hq t (fun x hx => hl x (List.mem_cons_of_mem _ hx)) hch.tail h
theorem hull_complete {rs : List Rung} (hr : ∀ i j, i ≤ j → j < rs.length → (rs.getD i rung0).ra ≤ (rs.getD j rung0).ra) {i : Nat} (hi : i < rs.length) (hc : Crn rs i) : ∀ k, i < k → k ≤ rs.length → i ∈ hullTo rs k
  | 0, h, _ => by omega
  | k + 1, h, hk => by
    have g := hull_ok hr k (by omega)
    rw [hullTo]
    by_cases e : i = k
    · subst e
      obtain ⟨st, hst⟩ : ∃ st, hullTo rs i = st := ⟨_, rfl⟩
      rw [hst] at g ⊢
      cases st with
      | nil => simp [hullStep]
      | cons a t =>
        have := hc.2.2 a (g.lt a List.mem_cons_self)
        rw [hullStep, if_neg (by omega)]
        simp
    · have ih := hull_complete hr hi hc k (by omega) (by omega)
      obtain ⟨st, hst⟩ : ∃ st, hullTo rs k = st := ⟨_, rfl⟩
      rw [hst] at g ih ⊢
      cases st with
      | nil => simp at ih
      | cons a t =>
        rw [hullStep]
        split
        · exact ih
        · rename_i hq
          obtain ⟨a', h1, h2⟩ := g.top i (by omega)
          simp only [List.head?_cons, Option.some.injEq] at h1
          subst h1
          exact List.mem_cons_of_mem _ (pop_keeps hc (by omega) (hr i k (by omega) (by omega)) (by omega) _ (fun x hx => by have := g.lt x hx; omega) g.chain ih)
theorem chain_dec {rs : List Rung} : ∀ st, Chain rs st → st.Pairwise (fun a b => b < a)
  | [], _ => List.Pairwise.nil
  | [a], _ => by simp
  | a :: b :: t, h => by
    have ih := chain_dec (b :: t) h.2
    refine List.Pairwise.cons (fun x hx => ?_) ih
    rcases List.mem_cons.1 hx with rfl | hx
    · exact h.1.2.2.1
    · have := (List.pairwise_cons.1 ih).1 x hx
      have := h.1.2.2.1
      omega
theorem dec_unique : ∀ (l m : List Nat), l.Pairwise (fun a b => b < a) → m.Pairwise (fun a b => b < a) → (∀ x, x ∈ l ↔ x ∈ m) → l = m
  | [], [], _, _, _ => rfl
  | [], b :: m, _, _, h => by have := (h b).2 List.mem_cons_self; simp at this
  | a :: l, [], _, _, h => by have := (h a).1 List.mem_cons_self; simp at this
  | a :: l, b :: m, hl, hm, h => by
    obtain ⟨l1, l2⟩ := List.pairwise_cons.1 hl
    obtain ⟨m1, m2⟩ := List.pairwise_cons.1 hm
    have hab : a = b := by
      rcases List.mem_cons.1 ((h a).1 List.mem_cons_self) with e | e
      · exact e
      · rcases List.mem_cons.1 ((h b).2 List.mem_cons_self) with e2 | e2
        · exact e2.symm
        · have := m1 a e; have := l1 b e2; omega
    subst hab
    congr 1
    refine dec_unique l m l2 m2 fun x => ⟨fun hx => ?_, fun hx => ?_⟩
    · rcases List.mem_cons.1 ((h x).1 (List.mem_cons_of_mem _ hx)) with e | e
      · have := l1 x hx; omega
      · exact e
    · rcases List.mem_cons.1 ((h x).2 (List.mem_cons_of_mem _ hx)) with e | e
      · have := m1 x hx; omega
      · exact e
/-- The reference's corners of the first k, the last one first. -/
def rhSkip (rs : List Rung) (k : Nat) : List Nat → Bool
  | [] => false
  | a :: _ => decide ((rs.getD k rung0).qu ≤ (rs.getD a rung0).qu)
def rhTo (rs : List Rung) (p : Nat → Bool) : Nat → List Nat
  | 0 => []
  | k + 1 => if p k = true ∧ rhSkip rs k (rhTo rs p k) = false then k :: rhTo rs p k else rhTo rs p k
theorem first_max {rs : List Rung} : ∀ k, 0 < k → ∃ m, m < k ∧ (∀ j, j < k → (rs.getD j rung0).qu ≤ (rs.getD m rung0).qu) ∧ Rcd rs m
  | 0, h => by omega
  | 1, _ => ⟨0, by omega, fun j hj => by obtain rfl : j = 0 := by omega
                                         exact Int.le_refl _, fun j hj => by omega⟩
  | k + 2, _ => by
    obtain ⟨m, h1, h2, h3⟩ := first_max (rs := rs) (k + 1) (by omega)
    by_cases h : (rs.getD m rung0).qu < (rs.getD (k + 1) rung0).qu
    · refine ⟨k + 1, by omega, fun j hj => ?_, fun j hj => by have := h2 j hj; omega⟩
      by_cases e : j = k + 1
      · subst e; exact Int.le_refl _
      · have := h2 j (by omega); omega
    · refine ⟨m, by omega, fun j hj => ?_, h3⟩
      by_cases e : j = k + 1
      · subst e; omega
      · exact h2 j (by omega)
theorem max_crn {rs : List Rung} (hr : ∀ i j, i ≤ j → j < rs.length → (rs.getD i rung0).ra ≤ (rs.getD j rung0).ra) {k m : Nat} (hk : k < rs.length) (hm : m < k) (h2 : ∀ j, j < k → (rs.getD j rung0).qu ≤ (rs.getD m rung0).qu) (h3 : Rcd rs m) (hf : Fst rs k) (hc : Cor rs k) (hq : (rs.getD k rung0).qu ≤ (rs.getD m rung0).qu) : Crn rs m := by
  have hmk := hr m k (by omega) hk
  have hne : (rs.getD m rung0).ra < (rs.getD k rung0).ra := by
    by_cases e : (rs.getD m rung0).ra = (rs.getD k rung0).ra
    · obtain ⟨f1, f2⟩ := hf m (by omega) e
      have := f2 (by omega)
      omega
    · omega
  refine ⟨fun y hy hra => ?_, fun a b ha hb h4 h5 => ?_, h3⟩
  · by_cases hyk : y < k
    · have h6 := h2 y hyk
      refine ⟨h6, fun e => ?_⟩
      by_cases hym : y < m
      · have := h3 y hym; omega
      · omega
    · have := hr k y (by omega) hy
      omega
  · have ham : a < m := by
      by_cases h6 : m ≤ a
      · have := hr m a h6 ha; omega
      · omega
    have hqa := h3 a ham
    by_cases hqb : (rs.getD b rung0).qu ≤ (rs.getD m rung0).qu
    · exact above_mono h4 h5 hqa hqb
    · have hbk : k < b := by
        by_cases h6 : b < k
        · have := h2 b h6; omega
        · by_cases e : b = k
          · subst e; omega
          · omega
      have hkb := hr k b (by omega) hb
      have hkb2 : (rs.getD k rung0).ra < (rs.getD b rung0).ra := by
        by_cases e : (rs.getD b rung0).ra = (rs.getD k rung0).ra
        · have := (hf b hb e).1; omega
        · omega
      have hab := of_decide_eq_true (hc a b ha hb (by omega) hkb2)
      refine decide_eq_true ?_
      have g1 := Int.mul_le_mul_of_nonneg_left (show (rs.getD m rung0).ra - (rs.getD a rung0).ra ≤ (rs.getD k rung0).ra - (rs.getD a rung0).ra by omega) (show 0 ≤ (rs.getD b rung0).qu - (rs.getD a rung0).qu by omega)
      have g2 := Int.mul_le_mul_of_nonneg_right (show (rs.getD k rung0).qu - (rs.getD a rung0).qu ≤ (rs.getD m rung0).qu - (rs.getD a rung0).qu by omega) (show 0 ≤ (rs.getD b rung0).ra - (rs.getD a rung0).ra by omega)
      omega
structure RhOk (rs : List Rung) (k : Nat) (st : List Nat) : Prop where
  mem : ∀ i, i ∈ st ↔ i < k ∧ Crn rs i
  dec : st.Pairwise (fun a b => b < a)
theorem rh_ok {rs : List Rung} (hr : ∀ i j, i ≤ j → j < rs.length → (rs.getD i rung0).ra ≤ (rs.getD j rung0).ra) {p : Nat → Bool} (hp : ∀ i, i < rs.length → (p i = true ↔ Fst rs i ∧ Cor rs i)) : ∀ k, k ≤ rs.length → RhOk rs k (rhTo rs p k)
  | 0, _ => ⟨fun i => by simp [rhTo], List.Pairwise.nil⟩
  | k + 1, hk => by
    have ih := rh_ok hr hp k (by omega)
    rw [rhTo]
    obtain ⟨st, hst⟩ : ∃ st, rhTo rs p k = st := ⟨_, rfl⟩
    rw [hst] at ih ⊢
    have key : (p k = true ∧ rhSkip rs k st = false) ↔ Crn rs k := by
      constructor
      · rintro ⟨h1, h2⟩
        obtain ⟨hf, hc⟩ := (hp k (by omega)).1 h1
        refine ⟨hf, hc, fun j hj => ?_⟩
        obtain ⟨m, m1, m2, m3⟩ := first_max (rs := rs) k (by omega)
        have hmj := m2 j hj
        by_cases hq : (rs.getD k rung0).qu ≤ (rs.getD m rung0).qu
        · have hm := (ih.mem m).2 ⟨m1, max_crn hr (by omega) m1 m2 m3 hf hc hq⟩
          cases st with
          | nil => simp at hm
          | cons a t =>
            have h3 := of_decide_eq_false h2
            rcases List.mem_cons.1 hm with rfl | hm2
            · omega
            · have h4 := (List.pairwise_cons.1 ih.dec).1 m hm2
              have h5 := ((ih.mem a).1 List.mem_cons_self).2.2.2 m h4
              omega
        · omega
      · intro hc
        refine ⟨(hp k (by omega)).2 ⟨hc.1, hc.2.1⟩, ?_⟩
        cases st with
        | nil => rfl
        | cons a t =>
          have h1 := hc.2.2 a ((ih.mem a).1 List.mem_cons_self).1
          exact decide_eq_false (by omega)
    by_cases hK : Crn rs k
    · rw [if_pos (key.2 hK)]
      refine ⟨fun i => ⟨fun h => ?_, fun h => ?_⟩, List.Pairwise.cons (fun x hx => ((ih.mem x).1 hx).1) ih.dec⟩
      · rcases List.mem_cons.1 h with rfl | h
        · exact ⟨by omega, hK⟩
        · have := (ih.mem i).1 h; exact ⟨by omega, this.2⟩
      · by_cases e : i = k
        · subst e; exact List.mem_cons_self
        · exact List.mem_cons_of_mem _ ((ih.mem i).2 ⟨by omega, h.2⟩)
    · rw [if_neg (fun h => hK (key.1 h))]
      refine ⟨fun i => ⟨fun h => ?_, fun h => ?_⟩, ih.dec⟩
      · have := (ih.mem i).1 h; exact ⟨by omega, this.2⟩
      · by_cases e : i = k
        · subst e; exact absurd h.2 hK
        · exact (ih.mem i).2 ⟨by omega, h.2⟩
theorem rh_hull {rs : List Rung} (hr : ∀ i j, i ≤ j → j < rs.length → (rs.getD i rung0).ra ≤ (rs.getD j rung0).ra) {p : Nat → Bool} (hp : ∀ i, i < rs.length → (p i = true ↔ Fst rs i ∧ Cor rs i)) : rhTo rs p rs.length = hullTo rs rs.length := by
  have g := rh_ok hr hp rs.length (Nat.le_refl _)
  refine dec_unique _ _ g.dec (chain_dec _ (hull_ok hr rs.length (Nat.le_refl _)).chain) fun x => ?_
  rw [g.mem]
  exact ⟨fun h => hull_complete hr h.1 h.2 _ h.1 (Nat.le_refl _), hull_sound hr x⟩

end Go.Proofs.Ytinckidkophobaa
