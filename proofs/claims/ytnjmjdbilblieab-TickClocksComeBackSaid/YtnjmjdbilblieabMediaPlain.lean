/- Plain facts on the spans of a millisecond: they are good, no more than the anchors, and hold the tick. -/
import Derived.Test.YtnjmjdbilblieabMedia
namespace Go.Proofs.Ytnjmjdbilblieab
set_option linter.unusedVariables false
set_option linter.unusedSimpArgs false
open Go.RowKit

/-- Up: what is portioned is at most y when the exact part is. -/
theorem portQ_up_le (n m d y : Int) (m0 : 0 ≤ m) (d0 : 0 < d) (hy : -4611686018427387904 ≤ y) (h : n * m ≤ d * y) : portQ n m d 3 ≤ y := by
  have e : (n.natAbs : Int) * m = if n < 0 then -(n * m) else n * m := by
    split
    · rw [show (n.natAbs : Int) = -n by omega, Int.neg_mul]
    · rw [show (n.natAbs : Int) = n by omega]
  have ha : 0 ≤ (n.natAbs : Int) * m := Int.mul_nonneg (by omega) m0
  simp only [portQ, growsB]
  generalize (n.natAbs : Int) * m = a at e ha ⊢
  generalize n * m = x at e h
  have hd := Int.emod_add_mul_ediv a d
  have hr0 := Int.emod_nonneg a (show d ≠ 0 by omega)
  have hr1 := Int.emod_lt_of_pos a d0
  generalize a / d = q at hd ⊢
  generalize a % d = r at hd hr0 hr1 ⊢
  by_cases hn : n < 0
  · rw [if_pos hn] at e
    simp only [hn, decide_true, if_true, Bool.not_true, Bool.false_and, Bool.false_eq_true, if_false, show ¬ (3 : Int) = 1 by decide]
    have key : -y ≤ q := by
      apply Decidable.byContradiction; intro hc
      have : d * (q + 1) ≤ d * (-y) := Int.mul_le_mul_of_nonneg_left (by omega) (by omega)
      rw [Int.mul_neg, Int.mul_add] at this
      omega
    split <;> omega
  · rw [if_neg hn] at e
    simp only [hn, decide_false, if_false, Bool.not_false, Bool.true_and, if_true, show ¬ (3 : Int) = 1 by decide]
    have key : q ≤ y ∧ (0 < r → q + 1 ≤ y) := by
      constructor
      · apply Decidable.byContradiction; intro hc
        have : d * (y + 1) ≤ d * q := Int.mul_le_mul_of_nonneg_left (by omega) (by omega)
        rw [Int.mul_add] at this
        omega
      · intro hr
        apply Decidable.byContradiction; intro hc
        have : d * y ≤ d * q := Int.mul_le_mul_of_nonneg_left (by omega) (by omega)
        omega
    split
    · omega
    · split
      · rename_i h1; simp at h1; omega
      · omega

/-- Up: what is portioned is more than y when the exact part is. -/
theorem portQ_up_gt (n m d y : Int) (m0 : 0 ≤ m) (d0 : 0 < d) (hy : y < 4611686018427387904) (h : d * y < n * m) : y < portQ n m d 3 := by
  have e : (n.natAbs : Int) * m = if n < 0 then -(n * m) else n * m := by
    split
    · rw [show (n.natAbs : Int) = -n by omega, Int.neg_mul]
    · rw [show (n.natAbs : Int) = n by omega]
  have ha : 0 ≤ (n.natAbs : Int) * m := Int.mul_nonneg (by omega) m0
  simp only [portQ, growsB]
  generalize (n.natAbs : Int) * m = a at e ha ⊢
  generalize n * m = x at e h
  have hd := Int.emod_add_mul_ediv a d
  have hr0 := Int.emod_nonneg a (show d ≠ 0 by omega)
  have hr1 := Int.emod_lt_of_pos a d0
  generalize a / d = q at hd ⊢
  generalize a % d = r at hd hr0 hr1 ⊢
  by_cases hn : n < 0
  · rw [if_pos hn] at e
    simp only [hn, decide_true, if_true, Bool.not_true, Bool.false_and, Bool.false_eq_true, if_false, show ¬ (3 : Int) = 1 by decide]
    have key : q < -y := by
      apply Decidable.byContradiction; intro hc
      have : d * (-y) ≤ d * q := Int.mul_le_mul_of_nonneg_left (by omega) (by omega)
      rw [Int.mul_neg] at this
      omega
    split <;> omega
  · rw [if_neg hn] at e
    simp only [hn, decide_false, if_false, Bool.not_false, Bool.true_and, if_true, show ¬ (3 : Int) = 1 by decide]
    have key : y < q ∨ (y = q ∧ 0 < r) := by
      apply Decidable.byContradiction; intro hc
      by_cases hyq : y = q
      · have : d * y = d * q := by rw [hyq]
        omega
      · have : d * (q + 1) ≤ d * y := Int.mul_le_mul_of_nonneg_left (by omega) (by omega)
        rw [Int.mul_add] at this
        omega
    split
    · omega
    · split
      · omega
      · rename_i h1; simp at h1; omega

/-- Down: what is portioned lies by the exact part, when nothing is cut. -/
theorem portQ_down (n m d : Int) (m0 : 0 ≤ m) (d0 : 0 < d) (hb : (n.natAbs : Int) * m < 4611686018427387904) : d * portQ n m d 1 ≤ n * m ∧ n * m < d * (portQ n m d 1 + 1) := by
  have e : (n.natAbs : Int) * m = if n < 0 then -(n * m) else n * m := by
    split
    · rw [show (n.natAbs : Int) = -n by omega, Int.neg_mul]
    · rw [show (n.natAbs : Int) = n by omega]
  have ha : 0 ≤ (n.natAbs : Int) * m := Int.mul_nonneg (by omega) m0
  simp only [portQ, growsB]
  generalize (n.natAbs : Int) * m = a at e ha hb ⊢
  generalize n * m = x at e ⊢
  have hd := Int.emod_add_mul_ediv a d
  have hr0 := Int.emod_nonneg a (show d ≠ 0 by omega)
  have hr1 := Int.emod_lt_of_pos a d0
  have hq1 : a / d ≤ a := Int.ediv_le_self _ ha
  generalize a / d = q at hd hq1 ⊢
  generalize a % d = r at hd hr0 hr1 ⊢
  rw [if_neg (show ¬ 4611686018427387904 ≤ q by omega)]
  by_cases hn : n < 0
  · rw [if_pos hn] at e
    simp only [hn, decide_true, if_true, Bool.true_and]
    by_cases hr : 0 < r
    · rw [if_pos (by simp; exact hr)]
      rw [show -(q + 1) + 1 = -q by omega, Int.mul_neg, Int.mul_neg, Int.mul_add]
      omega
    · rw [if_neg (by simp; omega), Int.mul_neg, Int.mul_add, Int.mul_neg]
      omega
  · rw [if_neg hn] at e
    simp only [hn, decide_false, if_false, if_true, Bool.false_and, Bool.false_eq_true]
    rw [Int.mul_add]
    omega

/-- An anchor's first tick of a tick's millisecond is not after it, that of the next millisecond is. -/
theorem ftQ_around (a : Pr) (scale t : Int) (ha : isTimeN a.1) (hs : isScaleN scale) (ht : isTimeN t) : ftQ a scale (milQ a scale t) ≤ t ∧ t < ftQ a scale (milQ a scale t + 1) := by
  obtain ⟨x0, x1⟩ := ha
  obtain ⟨s0, s1⟩ := hs
  obtain ⟨t0, t1⟩ := ht
  have hb : ((t - a.1).natAbs : Int) * 1000 < 4611686018427387904 := by omega
  obtain ⟨h1, h2⟩ := portQ_down (t - a.1) 1000 scale (by omega) (by omega) hb
  unfold ftQ milQ
  generalize portQ (t - a.1) 1000 scale 1 = f at h1 h2
  rw [Int.mul_comm scale] at h1 h2
  constructor
  · have := portQ_up_le (a.2 + f - a.2) scale 1000 (t - a.1) (by omega) (by omega) (by omega) (by rw [show a.2 + f - a.2 = f by omega]; omega)
    omega
  · have := portQ_up_gt (a.2 + f + 1 - a.2) scale 1000 (t - a.1) (by omega) (by omega) (by omega) (by rw [show a.2 + f + 1 - a.2 = f + 1 by omega]; omega)
    omega

theorem notLater_split (ps : List Pr) (t : Int) : ∀ m, (∀ j, 0 < j → j < m → (ps.getD (j - 1) (0, 0)).1 < (ps.getD j (0, 0)).1) → notLater ps m t ≤ m ∧ (∀ j, j < notLater ps m t → (ps.getD j (0, 0)).1 ≤ t) ∧ ∀ j, notLater ps m t ≤ j → j < m → t < (ps.getD j (0, 0)).1
  | 0, _ => ⟨by simp [notLater], fun j hj => by simp [notLater] at hj, fun j _ hj => by omega⟩
  | m + 1, h => by
    obtain ⟨i0, i1, i2⟩ := notLater_split ps t m (fun j h1 h2 => h j h1 (by omega))
    have e : notLater ps (m + 1) t = notLater ps m t + if t < (ps.getD m (0, 0)).1 then 0 else 1 := by
      unfold notLater
      rw [List.range_succ, List.countP_append]
      congr 1
      by_cases hx : t < (ps.getD m (0, 0)).1
      · rw [List.countP_eq_zero.2 (by intro a ha; simp at ha; subst ha; simp only [hx, decide_true]; decide), if_pos hx]
      · rw [if_neg hx]
        have : [m].countP (fun i => !decide (t < (ps.getD i (0, 0)).1)) = [m].length := by
          rw [List.countP_eq_length]; intro a ha; simp at ha; subst ha; simp only [hx, decide_false]; decide
        rw [this]; rfl
    by_cases hx : t < (ps.getD m (0, 0)).1
    · rw [if_pos hx, Nat.add_zero] at e
      rw [e]
      refine ⟨by omega, i1, fun j h1 h2 => ?_⟩
      by_cases hj : j = m
      · rw [hj]; exact hx
      · exact i2 j h1 (by omega)
    · rw [if_neg hx] at e
      have hc : notLater ps m t = m := by
        apply Decidable.byContradiction; intro hc
        have h1 := i2 (notLater ps m t) (Nat.le_refl _) (by omega)
        have h2 := rising_le ps (m + 1) h (notLater ps m t) m (by omega) (by omega)
        omega
      rw [e, hc]
      refine ⟨Nat.le_refl _, fun j hj => ?_, fun j h1 h2 => by omega⟩
      by_cases hjm : j = m
      · rw [hjm]; omega
      · exact i1 j (by omega)

/-- Good spans: valid, rising, with gaps; none ends after L. -/
structure Gs (ts : List Pr) (L : Int) : Prop where
  valid : ∀ j, j < ts.length → -1000000000000000 ≤ (ts.getD j (0, 0)).1 ∧ (ts.getD j (0, 0)).1 < (ts.getD j (0, 0)).2 ∧ (ts.getD j (0, 0)).2 ≤ L
  rises : ∀ j, 0 < j → j < ts.length → (ts.getD (j - 1) (0, 0)).2 < (ts.getD j (0, 0)).1

theorem Gs.nil (L : Int) : Gs [] L := ⟨fun j hj => by simp at hj, fun j _ hj => by simp at hj⟩
theorem Gs.mono {ts : List Pr} {L L' : Int} (h : Gs ts L) (hl : L ≤ L') : Gs ts L' := ⟨fun j hj => by have := h.valid j hj; omega, h.rises⟩
theorem Gs.snoc {ts : List Pr} {L L' f t : Int} (h : Gs ts L) (hf : -1000000000000000 ≤ f) (hft : f < t) (hl : t ≤ L') (hll : L ≤ L') (hr : 0 < ts.length → (ts.getD (ts.length - 1) (0, 0)).2 < f) : Gs (ts ++ [(f, t)]) L' := by
  refine ⟨fun j hj => ?_, fun j h1 hj => ?_⟩
  · by_cases hjk : j < ts.length
    · rw [pget_old _ _ _ hjk]; have := h.valid j hjk; omega
    · rw [pget_new _ _ _ (by simp at hj; omega)]; exact ⟨hf, hft, hl⟩
  · by_cases hjk : j < ts.length
    · rw [pget_old _ _ _ hjk, pget_old _ _ _ (by omega)]; exact h.rises j h1 hjk
    · have hje : j = ts.length := by simp at hj; omega
      rw [pget_new _ _ _ hje, pget_old _ _ _ (by omega), hje]; exact hr (by omega)
theorem Gs.init {ts : List Pr} {x : Pr} {L : Int} (h : Gs (ts ++ [x]) L) : Gs ts L ∧ (0 < ts.length → (ts.getD (ts.length - 1) (0, 0)).2 < x.1) ∧ -1000000000000000 ≤ x.1 ∧ x.1 < x.2 ∧ x.2 ≤ L := by
  have hx := h.valid ts.length (by simp)
  rw [pget_new _ _ _ rfl] at hx
  refine ⟨⟨fun j hj => ?_, fun j h1 hj => ?_⟩, fun h0 => ?_, hx⟩
  · have := h.valid j (by simp; omega); rwa [pget_old _ _ _ hj] at this
  · have := h.rises j h1 (by simp; omega); rwa [pget_old _ _ _ hj, pget_old _ _ _ (by omega)] at this
  · have := h.rises ts.length h0 (by simp); rwa [pget_new _ _ _ rfl, pget_old _ _ _ (by omega)] at this

theorem touch_good {ts : List Pr} {L L' f t : Int} (h : Gs ts L) (hLf : L ≤ f) (hf : -1000000000000000 ≤ f) (hft : f < t) (hl : t ≤ L') : Gs (touch ts (f, t)) L' := by
  rcases List.eq_nil_or_concat ts with rfl | ⟨init, ⟨lf, lt⟩, rfl⟩
  · rw [touch_new [] (f, t) (.inl rfl)]
    exact Gs.snoc h hf hft hl (by omega) (fun h0 => by simp at h0)
  · rw [List.concat_eq_append] at h ⊢
    obtain ⟨h1, h2, h3, h4, h5⟩ := h.init
    simp only at h2 h3 h4 h5
    by_cases he : lt = f
    · subst he
      rw [touch_old]
      exact Gs.snoc h1 h3 (by omega) hl (by omega) h2
    · rw [touch_new _ _ (.inr (by rw [pget_new _ _ _ (by simp)]; exact he))]
      exact Gs.snoc h hf hft hl (by omega) (fun _ => by rw [pget_new _ _ _ (by simp)]; show lt < f; omega)

/-- Some span holds the tick. -/
def Cov (ts : List Pr) (t : Int) : Prop := ∃ p ∈ ts, p.1 ≤ t ∧ t < p.2

theorem touch_cov {ts : List Pr} {L f t : Int} (x : Int) (h : Gs ts L) (hft : f < t) (hc : Cov ts x ∨ (f ≤ x ∧ x < t)) : Cov (touch ts (f, t)) x := by
  rcases List.eq_nil_or_concat ts with rfl | ⟨init, ⟨lf, lt⟩, rfl⟩
  · rw [touch_new [] (f, t) (.inl rfl)]
    rcases hc with ⟨p, hp, _⟩ | hc
    · simp at hp
    · exact ⟨(f, t), by simp, hc⟩
  · rw [List.concat_eq_append] at h hc ⊢
    obtain ⟨h1, h2, h3, h4, h5⟩ := h.init
    simp only at h2 h3 h4 h5
    by_cases he : lt = f
    · subst he
      rw [touch_old]
      rcases hc with ⟨p, hp, hq⟩ | hc
      · rcases List.mem_append.1 hp with hp | hp
        · exact ⟨p, List.mem_append_left _ hp, hq⟩
        · simp at hp; subst hp
          exact ⟨(lf, t), by simp, hq.1, by have := hq.2; simp only at this ⊢; omega⟩
      · exact ⟨(lf, t), by simp, by simp only; omega, hc.2⟩
    · rw [touch_new _ _ (.inr (by rw [pget_new _ _ _ (by simp)]; exact he))]
      rcases hc with ⟨p, hp, hq⟩ | hc
      · exact ⟨p, List.mem_append_left _ hp, hq⟩
      · exact ⟨(f, t), by simp, hc⟩

def bndQ (ps : List Pr) (n k : Nat) : Int := if k = 0 then -1000000000000000 else mostQ ps n (k - 1)

theorem bnd_least (ps : List Pr) (n k : Nat) (hk : k < n) : bndQ ps n k = leastQ ps k := by
  unfold bndQ leastQ
  by_cases h0 : k = 0
  · rw [if_pos h0, if_pos h0]
  · rw [if_neg h0, if_neg h0, mostQ_next _ _ _ (by omega), show k - 1 + 1 = k by omega]

theorem least_bd (ps : List Pr) (h : Clk ps) (k : Nat) (hk : k < ps.length) : -1000000000000000 ≤ leastQ ps k ∧ leastQ ps k ≤ mostQ ps ps.length k ∧ mostQ ps ps.length k ≤ 1000000000000000 := by
  have v := (h.valid k hk).1
  unfold isTimeN at v
  have hl : -1000000000000000 ≤ leastQ ps k ∧ leastQ ps k ≤ (ps.getD k (0, 0)).1 := by
    unfold leastQ; split <;> omega
  by_cases hn : k + 1 < ps.length
  · have r := h.rises (k + 1) (by omega) hn
    rw [Nat.add_sub_cancel] at r
    have v2 := (h.valid (k + 1) hn).1
    unfold isTimeN at v2
    rw [mostQ_next _ _ _ hn]; omega
  · rw [mostQ_last _ _ _ hn]; omega

theorem med_good (scale M : Int) (ps : List Pr) (h : Clk ps) : ∀ k, k ≤ ps.length → Gs (medTo scale M ps ps.length k) (bndQ ps ps.length k) ∧ (medTo scale M ps ps.length k).length ≤ k
  | 0, _ => ⟨Gs.nil _, Nat.le_refl _⟩
  | k + 1, hk => by
    obtain ⟨g, hlen⟩ := med_good scale M ps h k (by omega)
    have hb := least_bd ps h k (by omega)
    rw [bnd_least _ _ _ (by omega)] at g
    have e : bndQ ps ps.length (k + 1) = mostQ ps ps.length k := by unfold bndQ; rw [if_neg (by omega), Nat.add_sub_cancel]
    rw [e]
    by_cases hlt : max (ftQ (ps.getD k (0, 0)) scale M) (leastQ ps k) < min (ftQ (ps.getD k (0, 0)) scale (M + 1)) (mostQ ps ps.length k)
    · rw [medTo_yes _ _ _ _ _ hlt]
      exact ⟨touch_good g (by omega) (by omega) hlt (by omega), by have := touch_len (medTo scale M ps ps.length k) (max (ftQ (ps.getD k (0, 0)) scale M) (leastQ ps k), min (ftQ (ps.getD k (0, 0)) scale (M + 1)) (mostQ ps ps.length k)); omega⟩
    · rw [medTo_no _ _ _ _ _ hlt]
      exact ⟨g.mono (by omega), by omega⟩

theorem med_cov (scale M : Int) (ps : List Pr) (h : Clk ps) (i : Nat) (t : Int) (hi : i < ps.length) (h1 : max (ftQ (ps.getD i (0, 0)) scale M) (leastQ ps i) ≤ t) (h2 : t < min (ftQ (ps.getD i (0, 0)) scale (M + 1)) (mostQ ps ps.length i)) : ∀ d, i + 1 + d ≤ ps.length → Cov (medTo scale M ps ps.length (i + 1 + d)) t
  | 0, _ => by
    rw [Nat.add_zero, medTo_yes _ _ _ _ _ (by omega)]
    exact touch_cov t (med_good scale M ps h i (by omega)).1 (by omega) (.inr ⟨h1, h2⟩)
  | d + 1, hd => by
    have ih := med_cov scale M ps h i t hi h1 h2 d (by omega)
    rw [show i + 1 + (d + 1) = (i + 1 + d) + 1 by omega]
    by_cases hlt : max (ftQ (ps.getD (i + 1 + d) (0, 0)) scale M) (leastQ ps (i + 1 + d)) < min (ftQ (ps.getD (i + 1 + d) (0, 0)) scale (M + 1)) (mostQ ps ps.length (i + 1 + d))
    · rw [medTo_yes _ _ _ _ _ hlt]
      exact touch_cov t (med_good scale M ps h (i + 1 + d) (by omega)).1 hlt (.inl ih)
    · rw [medTo_no _ _ _ _ _ hlt]; exact ih

/-- Among the ticks that are the millisecond of a tick is this tick; only the last tick of all is missed. -/
theorem med_holds (scale : Int) (ps : List Pr) (t : Int) (h : Clk ps) (h0 : 0 < ps.length) (hs : isScaleN scale) (ht : isTimeN t) :
    t = 1000000000000000 ∨ ∃ j, j < (medTo scale (milQ (byWhich ps ps.length t) scale t) ps ps.length ps.length).length ∧ ((medTo scale (milQ (byWhich ps ps.length t) scale t) ps ps.length ps.length).getD j (0, 0)).1 ≤ t ∧ t < ((medTo scale (milQ (byWhich ps ps.length t) scale t) ps ps.length ps.length).getD j (0, 0)).2 := by
  by_cases hm : t = 1000000000000000
  · exact .inl hm
  · right
    obtain ⟨c0, c1, c2⟩ := notLater_split ps t ps.length h.rises
    have hi : notLater ps ps.length t - 1 < ps.length := by omega
    have hv := (h.valid _ hi).1
    obtain ⟨f1, f2⟩ := ftQ_around (ps.getD (notLater ps ps.length t - 1) (0, 0)) scale t hv hs ht
    obtain ⟨t0, t1⟩ := ht
    have hl : leastQ ps (notLater ps ps.length t - 1) ≤ t := by
      unfold leastQ
      split
      · omega
      · exact c1 _ (by omega)
    have hu : t < mostQ ps ps.length (notLater ps ps.length t - 1) := by
      by_cases hn : notLater ps ps.length t - 1 + 1 < ps.length
      · rw [mostQ_next _ _ _ hn]
        exact c2 _ (by omega) hn
      · rw [mostQ_last _ _ _ hn]; omega
    have hc := med_cov scale (milQ (byWhich ps ps.length t) scale t) ps h (notLater ps ps.length t - 1) t hi (by unfold byWhich; omega) (by unfold byWhich; omega) (ps.length - (notLater ps ps.length t - 1 + 1)) (by omega)
    rw [show notLater ps ps.length t - 1 + 1 + (ps.length - (notLater ps ps.length t - 1 + 1)) = ps.length by omega] at hc
    obtain ⟨p, hp, hq⟩ := hc
    obtain ⟨j, hj, rfl⟩ := List.getElem_of_mem hp
    exact ⟨j, hj, by rw [pgetD _ _ hj]; exact hq⟩

end Go.Proofs.Ytnjmjdbilblieab
