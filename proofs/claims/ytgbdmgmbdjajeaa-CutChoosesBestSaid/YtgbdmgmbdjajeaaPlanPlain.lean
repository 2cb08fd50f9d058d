/- Plain facts of the best boundaries: the plan from each stop on. -/
import Derived.Test.YtgbdmgmbdjajeaaCutPlain
namespace Go.Proofs.Ytgbdmgmbdjajeaa
set_option linter.unusedVariables false
set_option linter.unusedSimpArgs false
open Go.RowKit

/-- A plan: the sum of the squares, how many boundaries, the next stop; without boundaries it is none. -/
structure Plan where
  sum : Int
  many : Nat
  next : Nat
deriving DecidableEq
def plan0 : Plan := ⟨0, 0, 0⟩
instance : Inhabited Plan := ⟨plan0⟩
/-- A plan is better than another one. -/
def betterB (p o : Plan) : Bool := if o.many = 0 then true else if p.sum ≠ o.sum then decide (p.sum < o.sum) else decide (p.many < o.many)
/-- The plan that goes from stop i to stop k. -/
def planTo (st : Nat → Int) (T : Int) (tb : Nat → Plan) (i k : Nat) : Plan := ⟨(st k - st i - T) * (st k - st i - T) + (tb k).sum, (tb k).many + 1, k⟩
/-- The best plan from stop i on by the first j stops behind it. -/
def innP (st : Nat → Int) (T M : Int) (e : Nat) (tb : Nat → Plan) (i : Nat) : Nat → Plan
  | 0 => plan0
  | j + 1 =>
    if st (i + 1 + j) - st i ≤ M ∧ ¬ (i + 1 + j < e ∧ (tb (i + 1 + j)).many = 0) ∧ betterB (planTo st T tb i (i + 1 + j)) (innP st T M e tb i j) = true then planTo st T tb i (i + 1 + j)
    else innP st T M e tb i j
def plf (st : Nat → Int) (T M : Int) (e : Nat) : Nat → Nat → Plan
  | 0, _ => plan0
  | f + 1, i => innP st T M e (plf st T M e f) i (e - i)
/-- The best plan from stop i on. -/
def planOf (st : Nat → Int) (T M : Int) (e : Nat) (i : Nat) : Plan := plf st T M e e i
theorem planTo_congr {st : Nat → Int} {T : Int} {tb tb' : Nat → Plan} {i k : Nat} (h : tb k = tb' k) : planTo st T tb i k = planTo st T tb' i k := by unfold planTo; rw [h]
theorem innP_congr {st : Nat → Int} {T M : Int} {e : Nat} {tb tb' : Nat → Plan} {i : Nat} (j : Nat) (h : ∀ k, i < k → k ≤ i + j → tb k = tb' k) : innP st T M e tb i j = innP st T M e tb' i j := by
  induction j with
  | zero => rfl
  | succ j ih =>
    rw [innP, innP, ih (fun k h1 h2 => h k h1 (by omega)), planTo_congr (h (i + 1 + j) (by omega) (by omega)), h (i + 1 + j) (by omega) (by omega)]
theorem plf_more (st : Nat → Int) (T M : Int) (e : Nat) (f : Nat) : ∀ i, e - i ≤ f → plf st T M e f i = plf st T M e (f + 1) i := by
  induction f with
  | zero =>
    intro i h
    have : e - i = 0 := by omega
    rw [plf, plf, this]; rfl
  | succ f ih =>
    intro i h
    rw [plf, plf]
    exact innP_congr _ fun k h1 h2 => ih k (by omega)
theorem planOf_eq (st : Nat → Int) (T M : Int) (e i : Nat) : planOf st T M e i = innP st T M e (planOf st T M e) i (e - i) := by
  have h : plf st T M e e i = plf st T M e (e + 1) i := plf_more st T M e e i (by omega)
  unfold planOf
  rw [h, plf]
theorem planOf_end (st : Nat → Int) (T M : Int) (e i : Nat) (h : e ≤ i) : planOf st T M e i = plan0 := by
  rw [planOf_eq, show e - i = 0 by omega]; rfl
/-- A plan is to be gone by: the next stop, its distance and its plan. -/
def Goes (st : Nat → Int) (T M : Int) (e : Nat) (tb : Nat → Plan) (i k : Nat) : Prop := i < k ∧ st k - st i ≤ M ∧ (k < e → (tb k).many ≠ 0)
theorem innP_some {st : Nat → Int} {T M : Int} {e : Nat} {tb : Nat → Plan} {i : Nat} (j : Nat) (h : (innP st T M e tb i j).many ≠ 0) :
    ∃ k, k ≤ i + j ∧ Goes st T M e tb i k ∧ innP st T M e tb i j = planTo st T tb i k := by
  induction j with
  | zero => simp [innP, plan0] at h
  | succ j ih =>
    rw [innP] at h ⊢
    split
    · rename_i hc
      obtain ⟨h1, h2, h3⟩ := hc
      exact ⟨i + 1 + j, by omega, ⟨by omega, h1, fun hk hm => h2 ⟨hk, hm⟩⟩, rfl⟩
    · rename_i hc
      rw [if_neg hc] at h
      obtain ⟨k, a, b, c⟩ := ih h
      exact ⟨k, by omega, b, c⟩
/-- At least as good as another plan. -/
def AsGood (p o : Plan) : Prop := p.many ≠ 0 ∧ (p.sum < o.sum ∨ p.sum = o.sum ∧ p.many ≤ o.many)
theorem AsGood.refl {p : Plan} (h : p.many ≠ 0) : AsGood p p := ⟨h, .inr ⟨rfl, Nat.le_refl _⟩⟩
theorem AsGood.trans {p o q : Plan} (a : AsGood p o) (b : AsGood o q) : AsGood p q := by
  obtain ⟨a1, a2⟩ := a
  obtain ⟨b1, b2⟩ := b
  refine ⟨a1, ?_⟩
  rcases a2 with h | ⟨h, h'⟩ <;> rcases b2 with g | ⟨g, g'⟩
  · left; omega
  · left; omega
  · left; omega
  · right; omega
theorem innP_best {st : Nat → Int} {T M : Int} {e : Nat} {tb : Nat → Plan} {i : Nat} (j : Nat) : ∀ k, k ≤ i + j → Goes st T M e tb i k → AsGood (innP st T M e tb i j) (planTo st T tb i k) := by
  induction j with
  | zero => intro k h1 h2; have := h2.1; omega
  | succ j ih =>
    intro k h1 h2
    rw [innP]
    have keep : (innP st T M e tb i j).many ≠ 0 → betterB (planTo st T tb i (i + 1 + j)) (innP st T M e tb i j) = true → AsGood (planTo st T tb i (i + 1 + j)) (innP st T M e tb i j) := by
      intro h0 hb
      refine ⟨by simp [planTo], ?_⟩
      rw [betterB, if_neg h0] at hb
      split at hb
      · exact .inl (by simpa using hb)
      · rename_i hs
        refine .inr ⟨by simpa using hs, ?_⟩
        have : (planTo st T tb i (i + 1 + j)).many < (innP st T M e tb i j).many := by simpa using hb
        omega
    by_cases ek : k = i + 1 + j
    · subst ek
      obtain ⟨g1, g2, g3⟩ := h2
      split
      · exact .refl (by simp [planTo])
      · rename_i hc
        have hb : betterB (planTo st T tb i (i + 1 + j)) (innP st T M e tb i j) ≠ true := fun hb => hc ⟨g2, fun hk => g3 hk.1 hk.2, hb⟩
        rw [betterB] at hb
        split at hb
        · exact absurd rfl hb
        · rename_i h0
          refine ⟨h0, ?_⟩
          split at hb
          · rename_i hs
            left
            have : ¬ (planTo st T tb i (i + 1 + j)).sum < (innP st T M e tb i j).sum := by simpa using hb
            omega
          · rename_i hs
            right
            have : ¬ (planTo st T tb i (i + 1 + j)).many < (innP st T M e tb i j).many := by simpa using hb
            have hs' : (planTo st T tb i (i + 1 + j)).sum = (innP st T M e tb i j).sum := by simpa using hs
            exact ⟨hs'.symm, by omega⟩
    · have hk := ih k (by omega) h2
      split
      · rename_i hc
        exact (keep hk.1 hc.2.2).trans hk
      · exact hk
theorem planOf_some {st : Nat → Int} {T M : Int} {e i : Nat} (hi : i < e) (h : (planOf st T M e i).many ≠ 0) :
    ∃ k, i < k ∧ k ≤ e ∧ st k - st i ≤ M ∧ (k < e → (planOf st T M e k).many ≠ 0) ∧ planOf st T M e i = planTo st T (planOf st T M e) i k := by
  rw [planOf_eq] at h
  obtain ⟨k, h1, ⟨h2, h3, h4⟩, h5⟩ := innP_some _ h
  exact ⟨k, h2, by omega, h3, h4, by rw [planOf_eq, h5]⟩
theorem planOf_best {st : Nat → Int} {T M : Int} {e i k : Nat} (h1 : i < k) (h2 : k ≤ e) (h3 : st k - st i ≤ M) (h4 : k < e → (planOf st T M e k).many ≠ 0) :
    AsGood (planOf st T M e i) (planTo st T (planOf st T M e) i k) := by
  have := innP_best (st := st) (T := T) (M := M) (e := e) (tb := planOf st T M e) (i := i) (e - i) k (by omega) ⟨h1, h3, h4⟩
  rwa [← planOf_eq] at this
theorem innP_many {st : Nat → Int} {T M : Int} {e : Nat} {tb : Nat → Plan} {i : Nat} (j : Nat) : (innP st T M e tb i j).many = 0 → innP st T M e tb i j = plan0 := by
  induction j with
  | zero => intro _; rfl
  | succ j ih =>
    intro h
    rw [innP] at h ⊢
    split
    · rename_i hc; rw [if_pos hc] at h; simp [planTo] at h
    · rename_i hc; rw [if_neg hc] at h; exact ih h
/-- Stops that rise by less than 10^13 in all, and a wish: what keeps the sums small. -/
structure Stops (st : Nat → Int) (e : Nat) (T M : Int) : Prop where
  lt : ∀ i j, i < j → j ≤ e → st i < st j
  tar : 1 ≤ T ∧ T ≤ 50000000
  most : T ≤ M ∧ M ≤ 50000000
theorem sq_bd {d T M : Int} (h0 : 0 < d) (h1 : d ≤ M) (hT : 1 ≤ T ∧ T ≤ 50000000) (hM : T ≤ M ∧ M ≤ 50000000) : 0 ≤ (d - T) * (d - T) ∧ (d - T) * (d - T) ≤ 2500000000000000 := by
  have a : -50000000 ≤ d - T := by omega
  have b : d - T ≤ 50000000 := by omega
  generalize d - T = x at *
  have h2 : ∀ y : Int, 0 ≤ y → y ≤ 50000000 → 0 ≤ y * y ∧ y * y ≤ 2500000000000000 := fun y g0 g1 =>
    ⟨Int.mul_nonneg g0 g0, Int.le_trans (Int.mul_le_mul g1 g1 g0 (by decide)) (by decide)⟩
  rcases Int.le_total 0 x with h | h
  · exact h2 x h b
  · have := h2 (-x) (by omega) (by omega)
    rwa [Int.neg_mul_neg] at this
/-- Bounds of a table from stop i on. -/
def TbOk (e : Nat) (tb : Nat → Plan) (k : Nat) : Prop := 0 ≤ (tb k).sum ∧ (tb k).sum ≤ ((e - k : Nat) : Int) * 2500000000000000 ∧ (tb k).many ≤ e - k ∧ (tb k).next ≤ e ∧ ((tb k).many ≠ 0 → k < (tb k).next)
theorem planTo_ok {st : Nat → Int} {T M : Int} {e i k : Nat} {tb : Nat → Plan} (g : Stops st e T M) (h1 : i < k) (h2 : k ≤ e) (h3 : st k - st i ≤ M) (ht : TbOk e tb k) :
    0 ≤ (planTo st T tb i k).sum ∧ (planTo st T tb i k).sum ≤ ((e - i : Nat) : Int) * 2500000000000000 ∧ (planTo st T tb i k).many ≤ e - i := by
  obtain ⟨a, b, c, -⟩ := ht
  have hs := g.lt i k h1 h2
  have hq := sq_bd (d := st k - st i) (by omega) h3 g.tar g.most
  unfold planTo
  have e1 : ((e - i : Nat) : Int) = (e : Int) - i := by omega
  have e2 : ((e - k : Nat) : Int) = (e : Int) - k := by omega
  rw [e1]; rw [e2] at b
  generalize (st k - st i - T) * (st k - st i - T) = q at *
  refine ⟨?_, ?_, ?_⟩
  · show 0 ≤ q + _; omega
  · show q + _ ≤ _; omega
  · show _ + 1 ≤ _; omega
theorem innP_ok {st : Nat → Int} {T M : Int} {e i : Nat} {tb : Nat → Plan} (g : Stops st e T M) (ht : ∀ k, i < k → k ≤ e → TbOk e tb k) (j : Nat) (hj : i + j ≤ e) :
    0 ≤ (innP st T M e tb i j).sum ∧ (innP st T M e tb i j).sum ≤ ((e - i : Nat) : Int) * 2500000000000000 ∧ (innP st T M e tb i j).many ≤ e - i ∧ (innP st T M e tb i j).next ≤ e ∧ ((innP st T M e tb i j).many ≠ 0 → i < (innP st T M e tb i j).next) := by
  induction j with
  | zero => simp [innP, plan0]; omega
  | succ j ih =>
    rw [innP]
    split
    · rename_i hc
      obtain ⟨a, b, c⟩ := planTo_ok g (show i < i + 1 + j by omega) (by omega) hc.1 (ht _ (by omega) (by omega))
      exact ⟨a, b, c, by show i + 1 + j ≤ e; omega, fun _ => by show i < i + 1 + j; omega⟩
    · exact ih (by omega)
theorem planOf_ok {st : Nat → Int} {T M : Int} {e : Nat} (g : Stops st e T M) : ∀ d i, e - i ≤ d → i ≤ e → TbOk e (planOf st T M e) i := by
  intro d
  induction d with
  | zero => intro i h1 h2; rw [TbOk, planOf_end st T M e i (by omega)]; simp [plan0]; omega
  | succ d ih =>
    intro i h1 h2
    have := innP_ok (i := i) g (fun k a b => ih k (by omega) b) (e - i) (by omega)
    rw [← planOf_eq] at this
    exact this
/-- Behind the first stop that is too far, none is nearer. -/
theorem innP_stop {st : Nat → Int} {T M : Int} {e i : Nat} {tb : Nat → Plan} (g : Stops st e T M) (j : Nat) (hj : i + 1 + j ≤ e) (hf : M < st (i + 1 + j) - st i) : ∀ d, i + j + d ≤ e → innP st T M e tb i (j + d) = innP st T M e tb i j := by
  intro d
  induction d with
  | zero => intro _; rfl
  | succ d ih =>
    intro hd
    rw [← Nat.add_assoc, innP, ih (by omega), if_neg]
    rintro ⟨h1, -⟩
    by_cases h0 : d = 0
    · subst h0
      rw [show i + 1 + (j + 0) = i + 1 + j by omega] at h1
      omega
    · have := g.lt (i + 1 + j) (i + 1 + (j + d)) (by omega) (by omega)
      omega
/-- The places that a plan goes by, from stop i on. -/
def chainP (st : Nat → Int) (tb : Nat → Plan) (e : Nat) : Nat → Nat → List Int
  | 0, _ => []
  | f + 1, i => if i < e then st i :: chainP st tb e f (tb i).next else []
theorem chainP_len {st : Nat → Int} {T M : Int} {e : Nat} (g : Stops st e T M) : ∀ f i, e - i ≤ f → i ≤ e → (i < e → (planOf st T M e i).many ≠ 0) → (chainP st (planOf st T M e) e f i).length = (planOf st T M e i).many := by
  intro f
  induction f with
  | zero => intro i h1 h2 h3; rw [planOf_end st T M e i (by omega)]; rfl
  | succ f ih =>
    intro i h1 h2 h3
    rw [chainP]
    split
    · rename_i hi
      obtain ⟨k, a, b, c, d, e1⟩ := planOf_some hi (h3 hi)
      rw [e1]
      show (chainP _ _ _ _ k).length + 1 = _ + 1
      rw [ih k (by omega) b d]
    · rw [planOf_end st T M e i (by omega)]; rfl
/-- Whoever goes on from stop i by any stops with distances of at most M has a plan there that is as good. -/
inductive Chain (st : Nat → Int) (T M : Int) (e : Nat) : Nat → Int → Nat → Prop
  | last : Chain st T M e e 0 0
  | go {i k : Nat} {s : Int} {m : Nat} (h1 : i < k) (h2 : k ≤ e) (h3 : st k - st i ≤ M) (c : Chain st T M e k s m) : Chain st T M e i ((st k - st i - T) * (st k - st i - T) + s) (m + 1)
theorem Chain.best {st : Nat → Int} {T M : Int} {e i : Nat} {s : Int} {m : Nat} (c : Chain st T M e i s m) : i < e → AsGood (planOf st T M e i) ⟨s, m, 0⟩ := by
  induction c with
  | last => intro h; omega
  | @go i k s m h1 h2 h3 c ih =>
    intro _
    by_cases hk : k < e
    · have hg := ih hk
      have hb := planOf_best h1 h2 h3 fun _ => hg.1
      refine hb.trans ⟨by simp [planTo], ?_⟩
      obtain ⟨g1, g2⟩ := hg
      show _ + _ < _ ∨ _ + _ = _ ∧ _ + 1 ≤ _
      show (st k - st i - T) * (st k - st i - T) + (planOf st T M e k).sum < (st k - st i - T) * (st k - st i - T) + s ∨ (st k - st i - T) * (st k - st i - T) + (planOf st T M e k).sum = (st k - st i - T) * (st k - st i - T) + s ∧ (planOf st T M e k).many + 1 ≤ m + 1
      simp only at g2
      rcases g2 with h | h
      · left; omega
      · right; omega
    · have ek : k = e := by omega
      subst ek
      have hb := planOf_best (T := T) (Nat.lt_of_lt_of_le h1 h2) (Nat.le_refl _) h3 fun h => absurd h hk
      refine hb.trans ⟨by simp [planTo], ?_⟩
      cases c with
      | last =>
        rw [planTo, planOf_end st T M k k (Nat.le_refl _)]
        exact .inr ⟨rfl, Nat.le_refl _⟩
      | go a b _ _ => omega

end Go.Proofs.Ytgbdmgmbdjajeaa
