/- Plain facts on the anchors that are kept: the clock of these is close at every anchor. -/
import Derived.Test.YtnjmjdbilblieabSearch
namespace Go.Proofs.Ytnjmjdbilblieab
set_option linter.unusedVariables false
set_option linter.unusedSimpArgs false
open Go.RowKit

theorem portQ_zero (d : Int) (m : Int) (hd : 0 < d) : portQ 0 m d 1 = 0 := by
  simp [portQ, growsB]

theorem milQ_self (a : Pr) (scale : Int) (hs : 0 < scale) : milQ a scale a.1 = a.2 := by
  unfold milQ
  rw [Int.sub_self, portQ_zero _ _ hs]; omega

def Valid (p : Pr) : Prop := isTimeN p.1 ∧ isMilliN p.2

/-- A clock: valid anchors that rise. -/
structure Clk (ps : List Pr) : Prop where
  valid : ∀ j, j < ps.length → Valid (ps.getD j (0, 0))
  rises : ∀ j, 0 < j → j < ps.length → (ps.getD (j - 1) (0, 0)).1 < (ps.getD j (0, 0)).1

theorem clk_zero (ps : List Pr) (h : Clk ps) : ∀ k, k ≤ ps.length → clkTo ps k = 0
  | 0, _ => rfl
  | k + 1, hk => by
    have ih := clk_zero ps h k (by omega)
    rw [clkTo_step ps k ih, if_neg (fun hx => hx (h.valid k (by omega))), if_neg]
    intro hx
    have := h.rises k hx.1 (by omega)
    omega

theorem clk_of {ps : List Pr} (h : clkF ps = 0) : Clk ps ∧ 0 < ps.length ∧ ps.length ≤ 200 := by
  unfold clkF at h
  split at h
  · omega
  · split at h
    · omega
    · obtain ⟨h1, h2⟩ := clkTo_zero ps _ h
      exact ⟨⟨h1, h2⟩, by omega, by omega⟩

theorem clkF_of {ps : List Pr} (h : Clk ps) (h0 : 0 < ps.length) (h1 : ps.length ≤ 200) : clkF ps = 0 := by
  unfold clkF
  rw [if_neg (by omega), if_neg (by omega)]
  exact clk_zero ps h _ (Nat.le_refl _)

theorem pget_old (ts : List Pr) (e : List Pr) (j : Nat) (h : j < ts.length) : (ts ++ e).getD j (0, 0) = ts.getD j (0, 0) := by
  rw [List.getD_eq_getElem?_getD, List.getElem?_append_left h, ← List.getD_eq_getElem?_getD]
theorem pget_new (ts : List Pr) (x : Pr) (j : Nat) (h : j = ts.length) : (ts ++ [x]).getD j (0, 0) = x := by
  subst h
  rw [List.getD_eq_getElem?_getD, List.getElem?_append_right (Nat.le_refl _), Nat.sub_self]
  rfl

structure Kinv (ps : List Pr) (k : Nat) (ts : List Pr) (last : Pr) : Prop where
  pos : 0 < ts.length
  le : ts.length ≤ k + 1
  isLast : ts.getD (ts.length - 1) (0, 0) = last
  early : last.1 ≤ (ps.getD k (0, 0)).1
  clk : Clk ts
  first : ts.getD 0 (0, 0) = ps.getD 0 (0, 0)

theorem keep_inv (scale slack : Int) (ps : List Pr) (h : Clk ps) (h0 : 0 < ps.length) : ∀ k, k < ps.length → Kinv ps k (keepTo scale slack ps k).1 (keepTo scale slack ps k).2
  | 0, hk => by
    unfold keepTo
    refine ⟨by simp, by simp, rfl, Int.le_refl _, ⟨fun j hj => ?_, fun j h1 h2 => by simp at h2; omega⟩, rfl⟩
    have : j = 0 := by simpa using hj
    subst this
    exact h.valid 0 h0
  | k + 1, hk => by
    have ih := keep_inv scale slack ps h h0 k (by omega)
    have hr := h.rises (k + 1) (by omega) hk
    rw [Nat.add_sub_cancel] at hr
    unfold keepTo
    split
    · refine ⟨by simp, by have := ih.le; simp; omega, ?_, Int.le_refl _, ⟨fun j hj => ?_, fun j h1 h2 => ?_⟩, ?_⟩
      · show (_ ++ [_] : List Pr).getD _ _ = _
        exact pget_new _ _ _ (by simp)
      · by_cases hjk : j < (keepTo scale slack ps k).1.length
        · rw [pget_old _ _ _ hjk]; exact ih.clk.valid j hjk
        · rw [pget_new _ _ _ (by simp at hj; omega)]; exact h.valid (k + 1) hk
      · by_cases hjk : j < (keepTo scale slack ps k).1.length
        · rw [pget_old _ _ _ hjk, pget_old _ _ _ (by omega)]; exact ih.clk.rises j h1 hjk
        · have hj : j = (keepTo scale slack ps k).1.length := by simp at h2; omega
          rw [pget_new _ _ _ hj, pget_old _ _ _ (by omega), hj, ih.isLast]
          have := ih.early
          omega
      · show (_ ++ [_] : List Pr).getD _ _ = _
        rw [pget_old _ _ _ ih.pos]; exact ih.first
    · exact ⟨ih.pos, by have := ih.le; omega, ih.isLast, by have := ih.early; omega, ih.clk, ih.first⟩

theorem keep_ext (scale slack : Int) (ps : List Pr) (h : Clk ps) (k : Nat) : ∀ d, k + d < ps.length → ∃ e : List Pr, (keepTo scale slack ps (k + d)).1 = (keepTo scale slack ps k).1 ++ e ∧ ∀ t ∈ e, (ps.getD k (0, 0)).1 < t.1
  | 0, _ => ⟨[], by simp, by simp⟩
  | d + 1, hd => by
    obtain ⟨e, he, hl⟩ := keep_ext scale slack ps h k d (by omega)
    rw [show k + (d + 1) = (k + d) + 1 by omega, keepTo]
    split
    · refine ⟨e ++ [ps.getD (k + d + 1) (0, 0)], ?_, fun t ht => ?_⟩
      · show _ ++ [_] = _
        rw [he, List.append_assoc]
      · rcases List.mem_append.1 ht with h1 | h1
        · exact hl t h1
        · rw [List.mem_singleton.1 h1]
          have hle := rising_le ps ps.length h.rises k (k + d) (by omega) (by omega)
          have hr := h.rises (k + d + 1) (by omega) (by omega)
          rw [Nat.add_sub_cancel] at hr
          omega
    · exact ⟨e, he, hl⟩

theorem keep_close (scale slack : Int) (ps : List Pr) (hs : 0 < scale) (hl : 0 ≤ slack) : ∀ k, (((ps.getD k (0, 0)).2 - milQ (keepTo scale slack ps k).2 scale (ps.getD k (0, 0)).1).natAbs : Int) ≤ slack
  | 0 => by
    unfold keepTo
    show (((ps.getD 0 (0, 0)).2 - milQ (ps.getD 0 (0, 0)) scale (ps.getD 0 (0, 0)).1).natAbs : Int) ≤ slack
    rw [milQ_self _ _ hs]; omega
  | k + 1 => by
    unfold keepTo
    split
    · show (((ps.getD (k + 1) (0, 0)).2 - milQ (ps.getD (k + 1) (0, 0)) scale (ps.getD (k + 1) (0, 0)).1).natAbs : Int) ≤ slack
      rw [milQ_self _ _ hs]; omega
    · omega

theorem notLater_count (ps : List Pr) (t : Int) : notLater ps ps.length t = ps.countP (fun p => !decide (t < p.1)) := by
  have e : (List.range ps.length).map (fun i => ps.getD i (0, 0)) = ps := by
    apply List.ext_getElem
    · simp
    · intro i h1 h2
      simp [List.getD_eq_getElem?_getD, h2]
  unfold notLater
  conv => rhs; rw [← e]
  rw [List.countP_map]
  rfl

/-- At an anchor, the clock of those that are kept goes by the last one that was kept when it came. -/
theorem keep_which (scale slack : Int) (ps : List Pr) (h : Clk ps) (k : Nat) (hk : k < ps.length) :
    byWhich (keepTo scale slack ps (ps.length - 1)).1 (keepTo scale slack ps (ps.length - 1)).1.length (ps.getD k (0, 0)).1 = (keepTo scale slack ps k).2 := by
  have hi := keep_inv scale slack ps h (by omega) k hk
  obtain ⟨e, he, hl⟩ := keep_ext scale slack ps h k (ps.length - 1 - k) (by omega)
  rw [show k + (ps.length - 1 - k) = ps.length - 1 by omega] at he
  have hc : notLater (keepTo scale slack ps (ps.length - 1)).1 (keepTo scale slack ps (ps.length - 1)).1.length (ps.getD k (0, 0)).1 = (keepTo scale slack ps k).1.length := by
    rw [notLater_count, he, List.countP_append]
    have c1 : (keepTo scale slack ps k).1.countP (fun p => !decide ((ps.getD k (0, 0)).1 < p.1)) = (keepTo scale slack ps k).1.length := by
      rw [List.countP_eq_length]
      intro p hp
      obtain ⟨j, hj, rfl⟩ := List.getElem_of_mem hp
      have h1 := rising_le _ _ hi.clk.rises j ((keepTo scale slack ps k).1.length - 1) (by omega) (by omega)
      rw [hi.isLast, pgetD _ _ hj] at h1
      have h2 := hi.early
      simp only [Bool.not_eq_true', decide_eq_false_iff_not]
      omega
    have c2 : e.countP (fun p => !decide ((ps.getD k (0, 0)).1 < p.1)) = 0 := by
      rw [List.countP_eq_zero]
      intro p hp
      have := hl p hp
      intro hx
      rw [decide_eq_true this] at hx
      simp at hx
    omega
  unfold byWhich
  rw [hc, he, pget_old _ _ _ (by have := hi.pos; omega)]
  exact hi.isLast

end Go.Proofs.Ytnjmjdbilblieab
