/- Plain facts of the hull: what hullOf makes, rendition by rendition; what is so of its corners. -/
import Derived.Test.YtinckidkophobaaRungPlain
namespace Go.Proofs.Ytinckidkophobaa
set_option linter.unusedVariables false
set_option linter.unusedSimpArgs false

/-- r lies above the line between two others. -/
def aboveB (r lo hi : Rung) : Bool := decide ((hi.qu - lo.qu) * (r.ra - lo.ra) < (r.qu - lo.qu) * (hi.ra - lo.ra))
/-- The last corner (the first one of the stack) stays one with r. -/
def stayB (rs : List Rung) (st : List Nat) (r : Rung) : Bool := match st with
  | [] => false
  | [a] => decide ((rs.getD a rung0).ra < r.ra)
  | a :: b :: _ => decide ((rs.getD a rung0).ra < r.ra) && aboveB (rs.getD a rung0) (rs.getD b rung0) r
def popTo (rs : List Rung) (r : Rung) : List Nat → List Nat
  | [] => []
  | a :: t => if stayB rs (a :: t) r = true then a :: t else popTo rs r t
def hullStep (rs : List Rung) (k : Nat) (st : List Nat) : List Nat := match st with
  | [] => [k]
  | a :: t => if (rs.getD k rung0).qu ≤ (rs.getD a rung0).qu then a :: t else k :: popTo rs (rs.getD k rung0) (a :: t)
/-- The corners of the first k renditions, the last one first. -/
def hullTo (rs : List Rung) : Nat → List Nat
  | 0 => []
  | k + 1 => hullStep rs k (hullTo rs k)
/-- Corners, the last one first: rates and qualities rise, lines become flatter. -/
def Chain (rs : List Rung) : List Nat → Prop
  | [] => True
  | [_] => True
  | a :: b :: t => ((rs.getD b rung0).ra < (rs.getD a rung0).ra ∧ (rs.getD b rung0).qu < (rs.getD a rung0).qu ∧ b < a ∧ (∀ c, t.head? = some c → aboveB (rs.getD b rung0) (rs.getD c rung0) (rs.getD a rung0) = true)) ∧ Chain rs (b :: t)
structure HullOk (rs : List Rung) (k : Nat) (st : List Nat) : Prop where
  lt : ∀ a ∈ st, a < k
  chain : Chain rs st
  top : ∀ j, j < k → ∃ a, st.head? = some a ∧ (rs.getD j rung0).qu ≤ (rs.getD a rung0).qu
  best : ∀ c ∈ st, ∀ j, j < k → (rs.getD j rung0).ra ≤ (rs.getD c rung0).ra → (rs.getD j rung0).qu ≤ (rs.getD c rung0).qu ∧ ((rs.getD j rung0).qu = (rs.getD c rung0).qu → (rs.getD j rung0).ra = (rs.getD c rung0).ra)
theorem popTo_sub (rs : List Rung) (r : Rung) : ∀ st, ∀ a ∈ popTo rs r st, a ∈ st
  | [], a, h => by simp [popTo] at h
  | b :: t, a, h => by
    rw [popTo] at h
    split at h
    · exact h
    · exact List.mem_cons_of_mem _ (popTo_sub rs r t a h)
theorem Chain.tail {rs : List Rung} {a : Nat} {t : List Nat} (h : Chain rs (a :: t)) : Chain rs t := by
  cases t with
  | nil => trivial
  | cons b t => exact h.2
theorem popTo_chain (rs : List Rung) (r : Rung) : ∀ st, Chain rs st → Chain rs (popTo rs r st)
  | [], _ => trivial
  | a :: t, h => by
    rw [popTo]
    split
    · exact h
    · exact popTo_chain rs r t h.tail
theorem popTo_stay (rs : List Rung) (r : Rung) : ∀ st, popTo rs r st = [] ∨ stayB rs (popTo rs r st) r = true
  | [] => .inl rfl
  | a :: t => by
    rw [popTo]
    split
    · right; assumption
    · exact popTo_stay rs r t
theorem hull_ok {rs : List Rung} (hr : ∀ i j, i ≤ j → j < rs.length → (rs.getD i rung0).ra ≤ (rs.getD j rung0).ra) : ∀ k, k ≤ rs.length → HullOk rs k (hullTo rs k)
  | 0, _ => ⟨by simp [hullTo], trivial, fun j hj => by omega, by simp [hullTo]⟩
  | k + 1, hk => by
    have g := hull_ok hr k (by omega)
    rw [hullTo]
    obtain ⟨st, hst⟩ : ∃ st, hullTo rs k = st := ⟨_, rfl⟩
    rw [hst] at g ⊢
    clear hst
    have hrk := fun j (hj : j < k) => hr j k (by omega) (by omega)
    cases st with
    | nil =>
      have hk0 : k = 0 := by
        by_cases e : k = 0
        · exact e
        · obtain ⟨a, ha, -⟩ := g.top 0 (by omega); simp at ha
      subst hk0
      refine ⟨by simp [hullStep], trivial, fun j hj => ?_, fun c hc j hj => ?_⟩
      · obtain rfl : j = 0 := by omega
        exact ⟨0, rfl, Int.le_refl _⟩
      · simp only [hullStep, List.mem_singleton] at hc
        subst hc
        obtain rfl : j = 0 := by omega
        exact fun _ => ⟨Int.le_refl _, fun _ => rfl⟩
    | cons a t =>
      have ha : a < k := g.lt a List.mem_cons_self
      have htop : ∀ j, j < k → (rs.getD j rung0).qu ≤ (rs.getD a rung0).qu := fun j hj => by
        obtain ⟨a', h1, h2⟩ := g.top j hj
        simp only [List.head?_cons, Option.some.injEq] at h1
        subst h1
        exact h2
      rw [hullStep]
      split
      · rename_i hq
        refine ⟨fun c hc => by have := g.lt c hc; omega, g.chain, fun j hj => ⟨a, rfl, ?_⟩, fun c hc j hj => ?_⟩
        · by_cases e : j = k
          · subst e; exact hq
          · exact htop j (by omega)
        · by_cases e : j = k
          · subst e
            intro hra
            have hck := hrk c (g.lt c hc)
            -- c and the top have one rate
            have hak := hrk a ha
            have hb := (g.best c hc a ha (by omega)).1
            have hb2 := htop c (g.lt c hc)
            refine ⟨by omega, fun _ => by omega⟩
          · exact g.best c hc j (by omega)
      · rename_i hq
        have hq' : ∀ j, j < k → (rs.getD j rung0).qu < (rs.getD k rung0).qu := fun j hj => by have := htop j hj; omega
        have hsub := popTo_sub rs (rs.getD k rung0) (a :: t)
        have hch := popTo_chain rs (rs.getD k rung0) (a :: t) g.chain
        have hsty := popTo_stay rs (rs.getD k rung0) (a :: t)
        generalize popTo rs (rs.getD k rung0) (a :: t) = st at *
        have hrate : ∀ c ∈ st, (rs.getD c rung0).ra < (rs.getD k rung0).ra := fun c hc => by
          cases st with
          | nil => simp at hc
          | cons b u =>
            rcases hsty with h | h
            · simp at h
            · have hbk : (rs.getD b rung0).ra < (rs.getD k rung0).ra := by
                cases u with
                | nil => exact of_decide_eq_true h
                | cons c' u => rw [stayB, Bool.and_eq_true] at h; exact of_decide_eq_true h.1
              have hcb : (rs.getD c rung0).ra ≤ (rs.getD b rung0).ra := by
                clear h hbk hq hq' htop
                have : ∀ (u : List Nat) (b : Nat), Chain rs (b :: u) → ∀ c ∈ b :: u, (rs.getD c rung0).ra ≤ (rs.getD b rung0).ra := by
                  intro u
                  induction u with
                  | nil => intro b _ c hc; simp only [List.mem_singleton] at hc; subst hc; exact Int.le_refl _
                  | cons d u ih =>
                    intro b hc1 c hc
                    rcases List.mem_cons.1 hc with rfl | hc
                    · exact Int.le_refl _
                    · have := ih d hc1.2 c hc
                      have := hc1.1.1
                      omega
                exact this u b hch c hc
              omega
        refine ⟨fun c hc => ?_, ?_, fun j hj => ⟨k, rfl, ?_⟩, fun c hc j hj => ?_⟩
        · rcases List.mem_cons.1 hc with rfl | hc
          · omega
          · have := g.lt c (hsub c hc); omega
        · cases st with
          | nil => trivial
          | cons b u =>
            refine ⟨⟨hrate b List.mem_cons_self, hq' b (g.lt b (hsub b List.mem_cons_self)), g.lt b (hsub b List.mem_cons_self), fun c hc => ?_⟩, hch⟩
            rcases hsty with h | h
            · simp at h
            · cases u with
              | nil => simp at hc
              | cons c' u =>
                simp only [List.head?_cons, Option.some.injEq] at hc
                subst hc
                rw [stayB, Bool.and_eq_true] at h
                exact h.2
        · by_cases e : j = k
          · subst e; exact Int.le_refl _
          · have := hq' j (by omega); omega
        · rcases List.mem_cons.1 hc with rfl | hc2
          · intro hra
            by_cases e : j = c
            · subst e; exact ⟨Int.le_refl _, fun _ => rfl⟩
            · have := hq' j (by omega); exact ⟨by omega, fun _ => by omega⟩
          · by_cases e : j = k
            · subst e
              intro hra
              have := hrate c hc2
              omega
            · exact g.best c (hsub c hc2) j (by omega)
/-- What is flatter, in the words of the law. -/
theorem above_rises {a b c : Rung} (h : aboveB b c a = true) : decide ((b.qu - c.qu) * (a.ra - b.ra) ≤ (a.qu - b.qu) * (b.ra - c.ra)) = false := by
  have h := of_decide_eq_true h
  rw [decide_eq_false_iff_not]
  have e1 : (a.qu - c.qu) * (b.ra - c.ra) = (a.qu - b.qu) * (b.ra - c.ra) + (b.qu - c.qu) * (b.ra - c.ra) := by rw [← Int.add_mul]; congr 1; omega
  have e2 : (b.qu - c.qu) * (a.ra - c.ra) = (b.qu - c.qu) * (a.ra - b.ra) + (b.qu - c.qu) * (b.ra - c.ra) := by rw [← Int.mul_add]; congr 1; omega
  omega

end Go.Proofs.Ytinckidkophobaa
