/- Plain facts of the hull: all renditions lie below its edges; the reference's corners are the program's. -/
import Derived.Test.YtinckidkophobaaHullPlain
namespace Go.Proofs.Ytinckidkophobaa
set_option linter.unusedVariables false
set_option linter.unusedSimpArgs false

/-- j lies on or below the line from lo to hi. -/
def undr (lo hi j : Rung) : Prop := (j.qu - lo.qu) * (hi.ra - lo.ra) ≤ (hi.qu - lo.qu) * (j.ra - lo.ra)
/-- Lines: all of the first k lie below each edge; none is cheaper than the first corner. -/
def Edges (rs : List Rung) (k : Nat) : List Nat → Prop
  | [] => True
  | [a] => ∀ j, j < k → (rs.getD a rung0).ra ≤ (rs.getD j rung0).ra
  | a :: b :: t => (∀ j, j < k → undr (rs.getD b rung0) (rs.getD a rung0) (rs.getD j rung0)) ∧ Edges rs k (b :: t)
theorem cancel_le {x y d : Int} (hd : 0 < d) (h : x * d ≤ y * d) : x ≤ y := Int.le_of_mul_le_mul_right h hd
/-- Below the line lo-mid, and mid not above the line lo-hi: below that one, to the right of lo. -/
theorem undr_right {lo mid hi j : Rung} (h1 : lo.ra < mid.ra) (h2 : lo.ra ≤ j.ra) (h3 : lo.ra < hi.ra) (hj : undr lo mid j) (hm : undr lo hi mid) : undr lo hi j := by
  unfold undr at *
  obtain ⟨X, hX⟩ : ∃ X, j.qu - lo.qu = X := ⟨_, rfl⟩
  obtain ⟨M, hM⟩ : ∃ M, mid.qu - lo.qu = M := ⟨_, rfl⟩
  obtain ⟨D, hD⟩ : ∃ D, mid.ra - lo.ra = D := ⟨_, rfl⟩
  obtain ⟨E, hE⟩ : ∃ E, hi.ra - lo.ra = E := ⟨_, rfl⟩
  obtain ⟨R, hR⟩ : ∃ R, j.ra - lo.ra = R := ⟨_, rfl⟩
  obtain ⟨P, hP⟩ : ∃ P, hi.qu - lo.qu = P := ⟨_, rfl⟩
  rw [hX, hM, hD, hR] at hj
  rw [hM, hD, hE, hP] at hm
  rw [hX, hE, hP, hR]
  have d0 : 0 < D := by omega
  have e0 : 0 ≤ E := by omega
  have r0 : 0 ≤ R := by omega
  apply cancel_le d0
  have a1 := Int.mul_le_mul_of_nonneg_right hj e0
  have a2 := Int.mul_le_mul_of_nonneg_right hm r0
  have e1 : X * E * D = X * D * E := by ac_rfl
  have e2 : M * R * E = M * E * R := by ac_rfl
  have e3 : P * R * D = P * D * R := by ac_rfl
  omega
/-- Below the line lo-mid, and hi below it too: to the left of mid below the line mid-hi. -/
theorem undr_left {lo mid hi j : Rung} (h1 : lo.ra < mid.ra) (h2 : j.ra ≤ mid.ra) (h3 : mid.ra < hi.ra) (hj : undr lo mid j) (hm : aboveB mid lo hi = true) : undr mid hi j := by
  have hm := of_decide_eq_true hm
  unfold undr at *
  obtain ⟨D, hD⟩ : ∃ D, mid.ra - lo.ra = D := ⟨_, rfl⟩
  obtain ⟨E, hE⟩ : ∃ E, hi.ra - mid.ra = E := ⟨_, rfl⟩
  obtain ⟨R, hR⟩ : ∃ R, mid.ra - j.ra = R := ⟨_, rfl⟩
  obtain ⟨M, hM⟩ : ∃ M, mid.qu - lo.qu = M := ⟨_, rfl⟩
  obtain ⟨P, hP⟩ : ∃ P, hi.qu - mid.qu = P := ⟨_, rfl⟩
  obtain ⟨X, hX⟩ : ∃ X, mid.qu - j.qu = X := ⟨_, rfl⟩
  have d0 : 0 < D := by omega
  have e0 : 0 < E := by omega
  have r0 : 0 ≤ R := by omega
  -- hj: (M - X) * D <= M * (D - R), so M * R <= X * D ; hm: (P + M) * D < M * (E + D), so P * D < M * E
  rw [show j.qu - lo.qu = M - X by omega, show j.ra - lo.ra = D - R by omega, hD, hM] at hj
  rw [show hi.qu - lo.qu = P + M by omega, show hi.ra - lo.ra = E + D by omega, hD, hM] at hm
  rw [show j.qu - mid.qu = -X by omega, show j.ra - mid.ra = -R by omega, hE, hP]
  rw [Int.sub_mul, Int.mul_sub] at hj
  rw [Int.add_mul, Int.mul_add] at hm
  rw [Int.neg_mul, Int.mul_neg]
  have a1 : M * R ≤ X * D := by omega
  have a2 : P * D ≤ M * E := by omega
  have b1 := Int.mul_le_mul_of_nonneg_right a1 (Int.le_of_lt e0)
  have b2 := Int.mul_le_mul_of_nonneg_right a2 r0
  have e1 : M * R * E = M * E * R := by ac_rfl
  have e2 : P * D * R = P * R * D := by ac_rfl
  have e3 : X * D * E = X * E * D := by ac_rfl
  have : P * R * D ≤ X * E * D := by omega
  have := cancel_le d0 this
  omega
/-- A point to the right of hi, below the line mid-hi, which is flatter than lo-mid, is below lo-mid. -/
theorem undr_far {lo mid hi j : Rung} (h1 : lo.ra < mid.ra) (h2 : mid.ra < hi.ra) (h3 : mid.ra ≤ j.ra) (hm : aboveB mid lo hi = true) (hj : undr mid hi j) : undr lo mid j := by
  have hm := of_decide_eq_true hm
  unfold undr at *
  obtain ⟨D, hD⟩ : ∃ D, mid.ra - lo.ra = D := ⟨_, rfl⟩
  obtain ⟨E, hE⟩ : ∃ E, hi.ra - mid.ra = E := ⟨_, rfl⟩
  obtain ⟨R, hR⟩ : ∃ R, j.ra - mid.ra = R := ⟨_, rfl⟩
  obtain ⟨M, hM⟩ : ∃ M, mid.qu - lo.qu = M := ⟨_, rfl⟩
  obtain ⟨P, hP⟩ : ∃ P, hi.qu - mid.qu = P := ⟨_, rfl⟩
  obtain ⟨X, hX⟩ : ∃ X, j.qu - mid.qu = X := ⟨_, rfl⟩
  have d0 : 0 < D := by omega
  have e0 : 0 < E := by omega
  have r0 : 0 ≤ R := by omega
  rw [hX, hE, hP, hR] at hj
  rw [show hi.qu - lo.qu = P + M by omega, show hi.ra - lo.ra = E + D by omega, hD, hM] at hm
  rw [show j.qu - lo.qu = X + M by omega, show j.ra - lo.ra = R + D by omega, hD, hM]
  rw [Int.add_mul, Int.mul_add] at hm
  rw [Int.add_mul, Int.mul_add]
  have a2 : P * D ≤ M * E := by omega
  have b1 := Int.mul_le_mul_of_nonneg_right hj (Int.le_of_lt d0)
  have b2 := Int.mul_le_mul_of_nonneg_right a2 r0
  have e1 : P * R * D = P * D * R := by ac_rfl
  have e2 : M * E * R = M * R * E := by ac_rfl
  have e3 : X * E * D = X * D * E := by ac_rfl
  have : X * D * E ≤ M * R * E := by omega
  have := cancel_le e0 this
  omega
theorem Edges.far {rs : List Rung} {k : Nat} : ∀ {a : Nat} {t : List Nat}, Edges rs k (a :: t) → Chain rs (a :: t) → (∀ b, t.head? = some b → undr (rs.getD b rung0) (rs.getD a rung0) (rs.getD k rung0)) → (rs.getD a rung0).ra ≤ (rs.getD k rung0).ra → Edges rs (k + 1) (a :: t)
  | a, [], h, _, _, hr => fun j hj => by
    by_cases e : j = k
    · subst e; exact hr
    · exact h j (by omega)
  | a, b :: t, h, hc, hk, hr => by
    refine ⟨fun j hj => ?_, ?_⟩
    · by_cases e : j = k
      · subst e; exact hk b rfl
      · exact h.1 j (by omega)
    · refine Edges.far h.2 hc.2 (fun c hc' => ?_) (by have := hc.1.1; omega)
      have hab := hc.1.2.2.2 c hc'
      cases t with
      | nil => simp at hc'
      | cons c' t =>
        simp only [List.head?_cons, Option.some.injEq] at hc'
        subst hc'
        exact undr_far hc.2.1.1 hc.1.1 (by have := hc.1.1; omega) hab (hk b rfl)
/-- The stack while corners are taken away for k: to the right of its top all lie below the line to k. -/
structure Popd (rs : List Rung) (k : Nat) (st : List Nat) : Prop where
  edges : Edges rs k st
  chain : Chain rs st
  right : ∀ a, st.head? = some a → (rs.getD a rung0).ra < (rs.getD k rung0).ra → ∀ j, j < k → (rs.getD a rung0).ra ≤ (rs.getD j rung0).ra → undr (rs.getD a rung0) (rs.getD k rung0) (rs.getD j rung0)
theorem edges_tail {rs : List Rung} {k a : Nat} {t : List Nat} (h : Edges rs k (a :: t)) (hne : t ≠ []) : Edges rs k t := by
  cases t with
  | nil => exact absurd rfl hne
  | cons b t => exact h.2
theorem pop_ok {rs : List Rung} {k : Nat} (hq : ∀ j, j < k → (rs.getD j rung0).qu < (rs.getD k rung0).qu) (hr : ∀ j, j < k → (rs.getD j rung0).ra ≤ (rs.getD k rung0).ra) : ∀ st, (∀ a ∈ st, a < k) → Popd rs k st → Popd rs k (popTo rs (rs.getD k rung0) st)
  | [], _, h => h
  | a :: t, hlt, h => by
    rw [popTo]
    split
    · exact h
    · rename_i hs
      cases t with
      | nil => exact ⟨trivial, trivial, fun a h => by simp [popTo] at h⟩
      | cons b t =>
        refine pop_ok hq hr (b :: t) (fun x hx => hlt x (List.mem_cons_of_mem _ hx)) ⟨h.edges.2, h.chain.2, fun a' ha' hlt2 j hj hrj => ?_⟩
        simp only [List.head?_cons, Option.some.injEq] at ha'
        subst ha'
        have hba := h.chain.1.1
        have hak := hlt a List.mem_cons_self
        have hm : undr (rs.getD b rung0) (rs.getD k rung0) (rs.getD a rung0) := by
          unfold stayB at hs
          rw [Bool.and_eq_true, decide_eq_true_eq] at hs
          by_cases h5 : (rs.getD a rung0).ra < (rs.getD k rung0).ra
          · have h6 : ¬ aboveB (rs.getD a rung0) (rs.getD b rung0) (rs.getD k rung0) = true := fun h7 => hs ⟨h5, h7⟩
            unfold aboveB at h6
            rw [decide_eq_true_eq] at h6
            unfold undr
            omega
          · have h6 := hr a hak
            have h7 : (rs.getD a rung0).ra = (rs.getD k rung0).ra := by omega
            have h8 := hq a hak
            unfold undr
            rw [h7]
            exact Int.mul_le_mul_of_nonneg_right (by omega) (by omega)
        exact undr_right hba hrj hlt2 (h.edges.1 j hj) hm
theorem pop_none {rs : List Rung} {k : Nat} {r : Rung} : ∀ st, st ≠ [] → Edges rs k st → popTo rs r st = [] → ∀ j, j < k → r.ra ≤ (rs.getD j rung0).ra
  | [], h, _, _, _, _ => absurd rfl h
  | [a], _, he, hp, j, hj => by
    rw [popTo] at hp
    split at hp
    · simp at hp
    · rename_i hs
      have h1 := he j hj
      have h2 : ¬ (rs.getD a rung0).ra < r.ra := fun h => hs (decide_eq_true h)
      omega
  | a :: b :: t, _, he, hp, j, hj => by
    rw [popTo] at hp
    split at hp
    · simp at hp
    · exact pop_none (b :: t) (by simp) he.2 hp j hj
theorem edges_ok {rs : List Rung} (hr : ∀ i j, i ≤ j → j < rs.length → (rs.getD i rung0).ra ≤ (rs.getD j rung0).ra) : ∀ k, k ≤ rs.length → Edges rs k (hullTo rs k)
  | 0, _ => trivial
  | k + 1, hk => by
    have ih := edges_ok hr k (by omega)
    have g := hull_ok hr k (by omega)
    have g1 := hull_ok hr (k + 1) hk
    rw [hullTo] at g1 ⊢
    obtain ⟨st, hst⟩ : ∃ st, hullTo rs k = st := ⟨_, rfl⟩
    rw [hst] at g ih g1 ⊢
    have hrk := fun j (hj : j < k) => hr j k (by omega) (by omega)
    cases st with
    | nil =>
      have hk0 : k = 0 := by
        by_cases e : k = 0
        · exact e
        · obtain ⟨a, ha, -⟩ := g.top 0 (by omega); simp at ha
      subst hk0
      intro j hj
      obtain rfl : j = 0 := by omega
      exact Int.le_refl _
    | cons a t =>
      have ha : a < k := g.lt a List.mem_cons_self
      have htop : ∀ j, j < k → (rs.getD j rung0).qu ≤ (rs.getD a rung0).qu := fun j hj => by
        obtain ⟨a', h1, h2⟩ := g.top j hj
        simp only [List.head?_cons, Option.some.injEq] at h1
        subst h1
        exact h2
      rw [hullStep] at g1 ⊢
      split
      · rename_i hqq
        refine ih.far g.chain (fun b hb => ?_) (hrk a ha)
        cases t with
        | nil => simp at hb
        | cons b' t =>
          simp only [List.head?_cons, Option.some.injEq] at hb
          subst hb
          have h1 := g.chain.1.1
          have h2 := hrk a ha
          have h3 := g.chain.1.2.1
          unfold undr
          exact Int.le_trans (Int.mul_le_mul_of_nonneg_right (show (rs.getD k rung0).qu - (rs.getD b' rung0).qu ≤ (rs.getD a rung0).qu - (rs.getD b' rung0).qu by omega) (by omega)) (Int.mul_le_mul_of_nonneg_left (by omega) (by omega))
      · rename_i hqq
        rw [if_neg hqq] at g1
        have hq' : ∀ j, j < k → (rs.getD j rung0).qu < (rs.getD k rung0).qu := fun j hj => by have := htop j hj; omega
        have hp := pop_ok hq' hrk (a :: t) (fun x hx => g.lt x hx) ⟨ih, g.chain, fun a' ha' hlt2 j hj hrj => by
          simp only [List.head?_cons, Option.some.injEq] at ha'
          subst ha'
          have h1 := htop j hj
          have h2 := hq' a ha
          unfold undr
          exact Int.le_trans (Int.mul_nonpos_of_nonpos_of_nonneg (by omega) (by omega)) (Int.mul_nonneg (by omega) (by omega))⟩
        have hsub := popTo_sub rs (rs.getD k rung0) (a :: t)
        have hsty := popTo_stay rs (rs.getD k rung0) (a :: t)
        have hc1 := g1.chain
        have hpn := pop_none (r := rs.getD k rung0) (a :: t) (by simp) ih
        generalize popTo rs (rs.getD k rung0) (a :: t) = st at *
        cases st with
        | nil =>
          intro j hj
          by_cases e : j = k
          · subst e; exact Int.le_refl _
          · exact hpn rfl j (by omega)
        | cons b u =>
          have hbk := hc1.1.1
          have hb := g.lt b (hsub b List.mem_cons_self)
          refine ⟨fun j hj => ?_, hp.edges.far hp.chain (fun c hc => ?_) (hrk b hb)⟩
          · by_cases e : j = k
            · subst e; unfold undr; exact Int.le_refl _
            · have hjk : j < k := by omega
              by_cases hrj : (rs.getD b rung0).ra ≤ (rs.getD j rung0).ra
              · exact hp.right b rfl hbk j hjk hrj
              · cases u with
                | nil => exact absurd (hp.edges j hjk) hrj
                | cons c u =>
                  exact undr_left hp.chain.1.1 (by omega) hbk (hp.edges.1 j hjk) (hc1.1.2.2.2 c rfl)
          · cases u with
            | nil => simp at hc
            | cons c' u =>
              simp only [List.head?_cons, Option.some.injEq] at hc
              subst hc
              refine undr_far hp.chain.1.1 hbk (by omega) (hc1.1.2.2.2 c' rfl) ?_
              unfold undr; exact Int.le_refl _

end Go.Proofs.Ytinckidkophobaa
