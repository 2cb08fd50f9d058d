/- Plain facts of steps: the row of steps; its renditions; what is wrong with a ladder. -/
import Derived.Test.YtinckidkophobaaStepPlain2
namespace Go.Proofs.Ytinckidkophobaa
set_option linter.unusedVariables false
set_option linter.unusedSimpArgs false

/-- The numbers after number a, up to e. -/
def walkN (nx : Nat → Nat) (e : Nat) : Nat → Nat → List Nat
  | 0, _ => []
  | f + 1, a => if a < e then nx a :: walkN nx e f (nx a) else []
theorem walkN_fuel (nx : Nat → Nat) (e : Nat) (hx : ∀ j, j < e → j < nx j ∧ nx j ≤ e) : ∀ f g a, e - a ≤ f → e - a ≤ g → walkN nx e f a = walkN nx e g a
  | 0, 0, _, _, _ => rfl
  | 0, g + 1, a, h, _ => by rw [walkN, walkN, if_neg (by omega)]
  | f + 1, 0, a, _, h => by rw [walkN, walkN, if_neg (by omega)]
  | f + 1, g + 1, a, h1, h2 => by
    rw [walkN, walkN]
    by_cases ha : a < e
    · have := hx a ha
      rw [if_pos ha, if_pos ha, walkN_fuel nx e hx f g (nx a) (by omega) (by omega)]
    · rw [if_neg ha, if_neg ha]
theorem walkN_at (nx : Nat → Nat) (e a : Nat) (hx : ∀ j, j < e → j < nx j ∧ nx j ≤ e) (h : a < e) : walkN nx e (e - a) a = nx a :: walkN nx e (e - nx a) (nx a) := by
  have := hx a h
  rw [show e - a = (e - a - 1) + 1 by omega, walkN, if_pos h, walkN_fuel nx e hx (e - a - 1) (e - nx a) (nx a) (by omega) (by omega)]
theorem walkN_end (nx : Nat → Nat) (e : Nat) : walkN nx e (e - e) e = [] := by rw [Nat.sub_self]; rfl
def stepsN (nx : Nat → Nat) (e : Nat) : List Nat := 0 :: walkN nx e (e - 0) 0
/-- A row of numbers from a to e, with no gap from one to the next one. -/
structure RowOk (rs : List Rung) (p q : Int) (e a : Nat) (xs : List Nat) : Prop where
  le : ∀ x ∈ xs, x ≤ e
  ne : 0 < xs.length
  first : xs.getD 0 0 = a
  last : xs.getD (xs.length - 1) 0 = e
  rise : ∀ j, j + 1 < xs.length → xs.getD j 0 < xs.getD (j + 1) 0 ∧ gapB (rs.getD (xs.getD j 0) rung0) (rs.getD (xs.getD (j + 1) 0) rung0) p q = false
theorem walk_ok (rs : List Rung) (p q : Int) (nx : Nat → Nat) (e : Nat) (hx : ∀ j, j < e → j < nx j ∧ nx j ≤ e ∧ gapB (rs.getD j rung0) (rs.getD (nx j) rung0) p q = false) : ∀ f a, a ≤ e → e - a ≤ f → RowOk rs p q e a (a :: walkN nx e f a)
  | 0, a, h1, h2 => by
    obtain rfl : a = e := by omega
    exact ⟨by intro x hx; simp [walkN] at hx; omega, by simp, rfl, rfl, by intro j hj; simp [walkN] at hj⟩
  | f + 1, a, h1, h2 => by
    rw [walkN]
    by_cases ha : a < e
    · rw [if_pos ha]
      obtain ⟨n1, n2, n3⟩ := hx a ha
      have ih := walk_ok rs p q nx e hx f (nx a) n2 (by omega)
      obtain ⟨t, ht⟩ : ∃ t, walkN nx e f (nx a) = t := ⟨_, rfl⟩
      rw [ht] at ih ⊢
      refine ⟨?_, by simp, rfl, ?_, ?_⟩
      · intro x hx
        rcases List.mem_cons.1 hx with rfl | hx
        · exact h1
        · exact ih.le x hx
      · have := ih.last
        simpa using this
      · intro j hj
        cases j with
        | zero => exact ⟨n1, n3⟩
        | succ j => exact ih.rise j (by simpa using hj)
    · obtain rfl : a = e := by omega
      rw [if_neg ha]
      exact ⟨by intro x hx; simp at hx; omega, by simp, rfl, rfl, by intro j hj; simp at hj⟩
theorem RowOk.mono {rs : List Rung} {p q : Int} {e a : Nat} {xs : List Nat} (h : RowOk rs p q e a xs) : ∀ i j, i < j → j < xs.length → xs.getD i 0 < xs.getD j 0
  | i, 0, h1, _ => by omega
  | i, j + 1, h1, h2 => by
    have h3 := (h.rise j h2).1
    by_cases hij : i = j
    · rw [hij]; exact h3
    · exact Nat.lt_trans (h.mono i j (by omega) (by omega)) h3
def someR (rs : List Rung) (xs : List Nat) : List Rung := xs.map (fun x => rs.getD x rung0)
theorem someR_len (rs : List Rung) (xs : List Nat) : (someR rs xs).length = xs.length := by simp [someR]
theorem someR_get (rs : List Rung) (xs : List Nat) (i : Nat) (h : i < xs.length) : (someR rs xs).getD i rung0 = rs.getD (xs.getD i 0) rung0 := by
  unfold someR
  rw [List.getD_eq_getElem?_getD, List.getElem?_map, List.getElem?_eq_getElem h]
  have : xs.getD i 0 = xs[i] := by rw [List.getD_eq_getElem?_getD, List.getElem?_eq_getElem h]; rfl
  rw [this]
  rfl
theorem RowOk.some {rs : List Rung} {p q : Int} {e a : Nat} {xs : List Nat} (h : RowOk rs p q e a xs) (g : OkRs rs) (he : e < rs.length) : OkRs (someR rs xs) ∧ ∀ j, j < (someR rs xs).length → gapAt (someR rs xs) p q j = false := by
  have hin : ∀ i, i < xs.length → xs.getD i 0 ≤ e := by
    intro i hi
    have : xs.getD i 0 = xs[i] := by rw [List.getD_eq_getElem?_getD, List.getElem?_eq_getElem hi]; rfl
    rw [this]
    exact h.le _ (List.getElem_mem hi)
  refine ⟨g.pick (fun i => xs.getD i 0) (fun i j hij hj => h.mono i j hij (by rwa [someR_len] at hj)) (fun i hi => ?_), fun j hj => ?_⟩
  · rw [someR_len] at hi
    exact ⟨by have := hin i hi; omega, someR_get rs xs i hi⟩
  · rw [someR_len] at hj
    unfold gapAt
    cases j with
    | zero => rfl
    | succ j =>
      rw [Nat.add_sub_cancel, someR_get rs xs j (by omega), someR_get rs xs (j + 1) hj, (h.rise j hj).2]
      simp
/-- What is wrong with rendition number i of a ladder. -/
def tallB (rs : List Rung) (i : Nat) : Bool := (rs.drop (i + 1)).any (fun y => decide (y.he < (rs.getD i rung0).he))
def flA (b : Bool) (k : Int) (i : Nat) : List (Int × Int) := if b = true then [(k, (i : Int))] else []
def flTo (sen : Rung → Bool) (rs : List Rung) (p q : Int) : Nat → List (Int × Int)
  | 0 => []
  | i + 1 => flTo sen rs p q i ++ flA (!sen (rs.getD i rung0)) 1 i ++ flA (tallB rs i) 2 i ++ flA (gapAt rs p q i) 3 i
theorem flA_kind {b : Bool} {k : Int} {i : Nat} {x : Int × Int} (h : x ∈ flA b k i) : x.1 = k ∧ b = true := by
  unfold flA at h
  split at h
  · rename_i hb
    simp at h
    rw [h]
    exact ⟨rfl, hb⟩
  · simp at h
theorem flTo_nogap (sen : Rung → Bool) (rs : List Rung) (p q : Int) : ∀ k, (∀ j, j < k → gapAt rs p q j = false) → ∀ x ∈ flTo sen rs p q k, x.1 ≠ 3
  | 0, _, x, hx => by simp [flTo] at hx
  | k + 1, h, x, hx => by
    rw [flTo, List.mem_append, List.mem_append, List.mem_append] at hx
    rcases hx with ((hx | hx) | hx) | hx
    · exact flTo_nogap sen rs p q k (fun j hj => h j (by omega)) x hx
    · rw [(flA_kind hx).1]; decide
    · rw [(flA_kind hx).1]; decide
    · have := (flA_kind hx).2
      rw [h k (by omega)] at this
      exact Bool.noConfusion this
theorem flTo_len (sen : Rung → Bool) (rs : List Rung) (p q : Int) : ∀ k, (flTo sen rs p q k).length ≤ 3 * k
  | 0 => by simp [flTo]
  | k + 1 => by
    have ih := flTo_len sen rs p q k
    have e : ∀ b j i, (flA b j i).length ≤ 1 := by intro b j i; unfold flA; split <;> simp
    have e1 := e (!sen (rs.getD k rung0)) 1 k
    have e2 := e (tallB rs k) 2 k
    have e3 := e (gapAt rs p q k) 3 k
    rw [flTo, List.length_append, List.length_append, List.length_append]
    omega

end Go.Proofs.Ytinckidkophobaa
