/- Plain facts of places in a timeline. -/
import Derived.Test.YtiphipgheadakaaPartPlain
namespace Go.Proofs.Ytiphipgheadakaa
set_option linter.unusedVariables false
set_option linter.unusedSimpArgs false
open Go.RowKit

/-- The first number below n that is wanted, or n. -/
def frst (P : Nat → Bool) : Nat → Nat
  | 0 => 0
  | n + 1 => if frst P n < n then frst P n else if P n = true then n else n + 1
theorem frst_le (P : Nat → Bool) : ∀ n, frst P n ≤ n
  | 0 => Nat.le_refl _
  | n + 1 => by
    have := frst_le P n
    rw [frst]
    split
    · omega
    · split <;> omega
theorem frst_all (P : Nat → Bool) : ∀ n j, j < frst P n → P j = false
  | 0, j, h => by simp [frst] at h
  | n + 1, j, h => by
    rw [frst] at h
    have ih := frst_all P n
    have hle := frst_le P n
    split at h
    · exact ih j h
    · split at h
      · exact ih j (by omega)
      · rename_i h1 h2
        by_cases e : j = n
        · subst e; simpa using h2
        · exact ih j (by omega)
theorem frst_at (P : Nat → Bool) : ∀ n, frst P n < n → P (frst P n) = true
  | 0, h => by simp at h
  | n + 1, h => by
    have ih := frst_at P n
    rw [frst] at h ⊢
    split
    · rename_i h1; exact ih h1
    · split
      · rename_i h2; exact h2
      · rename_i h1 h2; rw [if_neg h1, if_neg h2] at h; omega
theorem frst_eq {P : Nat → Bool} {n k : Nat} (hk : k < n) (h : P k = true) (hj : ∀ j, j < k → P j = false) : frst P n = k := by
  rcases Nat.lt_trichotomy (frst P n) k with h1 | h1 | h1
  · have := frst_at P n (by omega)
    rw [hj _ h1] at this; cases this
  · exact h1
  · have := frst_all P n k h1
    rw [h] at this; cases this
theorem frst_none {P : Nat → Bool} {n : Nat} (hj : ∀ j, j < n → P j = false) : frst P n = n := by
  rcases Nat.lt_or_ge (frst P n) n with h | h
  · have := frst_at P n h
    rw [hj _ h] at this; cases this
  · have := frst_le P n; omega

theorem OkPs.alMono {ps : List Prt} (g : OkPs ps) : ∀ n, n ≤ ps.length → ∀ k, k ≤ n → alTo ps k ≤ alTo ps n := by
  intro n
  induction n with
  | zero => intro _ k hk; have : k = 0 := by omega
            subst this; exact Int.le_refl _
  | succ n ih =>
    intro hn k hk
    by_cases e : k = n + 1
    · subst e; exact Int.le_refl _
    · have := ih (by omega) k (by omega)
      have := (g.ok n (by omega)).ln
      rw [alTo]; omega
theorem OkPs.enMono {ps : List Prt} (g : OkPs ps) : ∀ n, n ≤ ps.length → ∀ k, k ≤ n → enTo ps k ≤ enTo ps n := by
  intro n
  induction n with
  | zero => intro _ k hk; have : k = 0 := by omega
            subst this; exact Int.le_refl _
  | succ n ih =>
    intro hn k hk
    by_cases e : k = n + 1
    · subst e; exact Int.le_refl _
    · have h1 := ih (by omega) k (by omega)
      have h2 := (g.ok n (by omega)).ln
      rw [enTo]
      split
      · exact h1
      · rename_i h3
        have := g.ord n (by omega) (by simpa using h3)
        omega
/-- A part of the programme ends before a later one begins. -/
theorem OkPs.apart {ps : List Prt} (g : OkPs ps) {j k : Nat} (hjk : j < k) (hk : k < ps.length) (hj : isAd (ps.getD j prt0) = false) (hkA : isAd (ps.getD k prt0) = false) : (ps.getD j prt0).fr + (ps.getD j prt0).ln ≤ (ps.getD k prt0).fr := by
  have h1 := g.enMono k (by omega) (j + 1) (by omega)
  have h2 := g.ord k hk hkA
  rw [enTo, if_neg (by rw [hj]; exact Bool.false_ne_true)] at h1
  omega

/-- What is wrong with a timeline, and a tick. -/
def atF (ps : List Prt) (t : Int) : Int := if ptF ps = 0 then fIf (!inB t 0 1000000000000000) 1 else ptF ps
/-- The number of the part that has a tick. -/
def plK (ps : List Prt) (t : Int) : Nat := frst (fun k => decide (t < alTo ps (k + 1))) ps.length
def plF (ps : List Prt) (t : Int) : Int := if atF ps t = 0 then (if plK ps t < ps.length then 0 else 9) else atF ps t
def plI (ps : List Prt) (t : Int) : Int := if plF ps t = 0 then (plK ps t : Int) else 0
def plN (ps : List Prt) (t : Int) : Int := if plF ps t = 0 then t - alTo ps (plK ps t) else 0
theorem atF_zero {ps : List Prt} {t : Int} (h : atF ps t = 0) : OkPs ps ∧ 0 ≤ t ∧ t ≤ 1000000000000000 := by
  unfold atF at h
  split at h
  · rename_i h1
    rw [fIf_zero (by decide)] at h
    simp only [Bool.not_eq_false', inB_iff] at h
    exact ⟨(ptF_zero ps).1 h1, h⟩
  · contradiction
theorem at_sum (F0 : Int) (T1 : Bool) (ps : List Prt) (t : Int) (h0 : ptF ps = F0) (h1 : inB t 0 1000000000000000 = T1) : fstF [F0, fIf (!T1) 1] = atF ps t := by
  unfold atF
  rw [h0, h1]
  by_cases h : F0 = 0
  · subst h; cases T1 <;> rfl
  · rw [fstF, if_neg h, if_neg h]
theorem plF_zero {ps : List Prt} {t : Int} (h : plF ps t = 0) : atF ps t = 0 ∧ plK ps t < ps.length := by
  unfold plF at h
  split at h
  · rename_i h1
    split at h
    · rename_i h2; exact ⟨h1, h2⟩
    · omega
  · contradiction
/-- The part has the tick. -/
theorem pl_bd {ps : List Prt} {t : Int} (h : plF ps t = 0) : alTo ps (plK ps t) ≤ t ∧ t < alTo ps (plK ps t + 1) := by
  obtain ⟨h1, h2⟩ := plF_zero h
  obtain ⟨g, h3, -⟩ := atF_zero h1
  have h4 : decide (t < alTo ps (plK ps t + 1)) = true := frst_at (fun k => decide (t < alTo ps (k + 1))) ps.length h2
  refine ⟨?_, of_decide_eq_true h4⟩
  have h5 := frst_all (fun k => decide (t < alTo ps (k + 1))) ps.length
  show alTo ps (plK ps t) ≤ t
  obtain ⟨k, hk⟩ : ∃ k, plK ps t = k := ⟨_, rfl⟩
  rw [hk]
  cases k with
  | zero => exact h3
  | succ k =>
    have := h5 k (by show k < plK ps t; omega)
    simpa using this
/-- The tick of the programme that is played at a tick, or with which it goes on. -/
def pgN (ps : List Prt) (k : Nat) : Nat := frst (fun j => decide (k ≤ j) && !isAd (ps.getD j prt0)) ps.length
def pgV (ps : List Prt) (t : Int) : Int :=
  if plF ps t = 0 then
    if isAd (ps.getD (plK ps t) prt0) = false then (ps.getD (plK ps t) prt0).fr + (t - alTo ps (plK ps t))
    else if pgN ps (plK ps t) < ps.length then (ps.getD (pgN ps (plK ps t)) prt0).fr else enTo ps ps.length
  else 0
def pgB (ps : List Prt) (t : Int) : Bool := decide (plF ps t = 0) && !isAd (ps.getD (plK ps t) prt0)
/-- The part that plays a tick of the programme, or the next one. -/
def stK (ps : List Prt) (t : Int) : Nat := frst (fun j => !isAd (ps.getD j prt0) && decide (t < (ps.getD j prt0).fr + (ps.getD j prt0).ln)) ps.length
def stX (ps : List Prt) (t : Int) : List Int := if stK ps t < ps.length ∧ (ps.getD (stK ps t) prt0).fr ≤ t then [alTo ps (stK ps t) + t - (ps.getD (stK ps t) prt0).fr] else []
def stL7 (ps : List Prt) (t : Int) : List Int := if atF ps t = 0 then stX ps t else []
/-- Where the advertisements directly before a part begin. -/
def adK (ps : List Prt) : Nat → Nat
  | 0 => 0
  | k + 1 => if isAd (ps.getD k prt0) = true then adK ps k else k + 1
theorem adK_le (ps : List Prt) : ∀ k, adK ps k ≤ k
  | 0 => Nat.le_refl _
  | k + 1 => by
    have := adK_le ps k
    rw [adK]; split <;> omega
theorem adK_ad (ps : List Prt) : ∀ k j, adK ps k ≤ j → j < k → isAd (ps.getD j prt0) = true
  | 0, j, _, h => by omega
  | k + 1, j, h, hj => by
    rw [adK] at h
    split at h
    · rename_i h1
      by_cases e : j = k
      · subst e; exact h1
      · exact adK_ad ps k j h (by omega)
    · omega
/-- What is wrong with what is seen. -/
def snE (ps : List Prt) (s : Int) : Int := if inB s 0 ((ps.length : Int) - 1) = true then fIf (!isAd (ps.getD s.toNat prt0)) 6 else 1
def snF (ps : List Prt) (ss : List Int) : Int := fstF (ss.map (snE ps))
def rsF (ps : List Prt) (ss : List Int) (t : Int) : Int := if atF ps t = 0 then snF ps ss else atF ps t
def usK (ps : List Prt) (ss : List Int) (k : Nat) : Nat := frst (fun j => decide (adK ps k ≤ j) && !(ss.any fun s => s == (j : Int))) k
def rsX (ps : List Prt) (ss : List Int) (t : Int) : Int :=
  if stK ps t < ps.length then
    if usK ps ss (stK ps t) < stK ps t then alTo ps (usK ps ss (stK ps t)) else alTo ps (stK ps t) + max (t - (ps.getD (stK ps t) prt0).fr) 0
  else alTo ps ps.length
def rsV (ps : List Prt) (ss : List Int) (t : Int) : Int := if rsF ps ss t = 0 then rsX ps ss t else 0

/-- At a tick at which a tick of the programme is played. -/
theorem agree_st {ps : List Prt} {t : Int} (h : plF ps t = 0) (hA : isAd (ps.getD (plK ps t) prt0) = false) : stK ps (pgV ps t) = plK ps t ∧ pgV ps t = (ps.getD (plK ps t) prt0).fr + (t - alTo ps (plK ps t)) ∧ atF ps (pgV ps t) = 0 := by
  obtain ⟨h1, h2⟩ := plF_zero h
  obtain ⟨g, -, -⟩ := atF_zero h1
  obtain ⟨h3, h4⟩ := pl_bd h
  have e : pgV ps t = (ps.getD (plK ps t) prt0).fr + (t - alTo ps (plK ps t)) := by unfold pgV; rw [if_pos h, if_pos hA]
  obtain ⟨k, hk⟩ : ∃ k, plK ps t = k := ⟨_, rfl⟩
  rw [hk] at h2 h3 h4 hA e ⊢
  rw [alTo] at h4
  have hok := g.ok k h2
  refine ⟨frst_eq h2 ?_ fun j hj => ?_, e, ?_⟩
  · show (!isAd (ps.getD k prt0) && decide (pgV ps t < (ps.getD k prt0).fr + (ps.getD k prt0).ln)) = true
    rw [hA, e, decide_eq_true (by omega)]; rfl
  · cases hJ : isAd (ps.getD j prt0)
    · have := g.apart hj h2 hJ hA
      have : ¬ pgV ps t < (ps.getD j prt0).fr + (ps.getD j prt0).ln := by rw [e]; omega
      show (!false && decide (pgV ps t < (ps.getD j prt0).fr + (ps.getD j prt0).ln)) = false
      rw [decide_eq_false this, Bool.and_false]
    · rfl
  · unfold atF
    rw [if_pos ((ptF_zero ps).2 g), inB_yes (by have := hok.fr; omega) (by have := hok.sm; omega)]; rfl
theorem agree_stX {ps : List Prt} {t : Int} (h : plF ps t = 0) (hA : isAd (ps.getD (plK ps t) prt0) = false) : stL7 ps (pgV ps t) = [t] := by
  obtain ⟨e1, e2, e3⟩ := agree_st h hA
  have h2 := (plF_zero h).2
  have h3 := pl_bd h
  unfold stL7 stX
  rw [if_pos e3, e1, if_pos ⟨h2, by rw [e2]; omega⟩, e2]
  congr 1; omega
/-- The numbers of the advertisements among the first k parts. -/
def adL (ps : List Prt) : Nat → List Int
  | 0 => []
  | k + 1 => if isAd (ps.getD k prt0) = true then adL ps k ++ [(k : Int)] else adL ps k
theorem adL_len (ps : List Prt) : ∀ k, (adL ps k).length ≤ k
  | 0 => by simp [adL]
  | k + 1 => by
    have := adL_len ps k
    rw [adL]
    split
    · rw [List.length_append, List.length_singleton]; omega
    · omega
theorem adL_mem (ps : List Prt) : ∀ k s, s ∈ adL ps k ↔ ∃ j, j < k ∧ isAd (ps.getD j prt0) = true ∧ s = (j : Int)
  | 0, s => by simp [adL]
  | k + 1, s => by
    rw [adL]
    have ih := adL_mem ps k s
    split
    · rename_i h
      rw [List.mem_append, ih, List.mem_singleton]
      constructor
      · rintro (⟨j, h1, h2, h3⟩ | h1)
        · exact ⟨j, by omega, h2, h3⟩
        · exact ⟨k, by omega, h, h1⟩
      · rintro ⟨j, h1, h2, h3⟩
        by_cases e : j = k
        · subst e; exact .inr h3
        · exact .inl ⟨j, by omega, h2, h3⟩
    · rename_i h
      rw [ih]
      constructor
      · rintro ⟨j, h1, h2, h3⟩; exact ⟨j, by omega, h2, h3⟩
      · rintro ⟨j, h1, h2, h3⟩
        by_cases e : j = k
        · subst e; exact absurd h2 h
        · exact ⟨j, by omega, h2, h3⟩
theorem snF_ads (ps : List Prt) : snF ps (adL ps ps.length) = 0 := by
  unfold snF
  rw [fstF_zero]
  intro z hz
  obtain ⟨s, hs, rfl⟩ := List.mem_map.1 hz
  obtain ⟨j, h1, h2, rfl⟩ := (adL_mem ps _ s).1 hs
  unfold snE
  rw [if_pos (inB_yes (by omega) (by omega)), Int.toNat_natCast, h2]; rfl
theorem agree_all {ps : List Prt} {t : Int} (h : plF ps t = 0) (hA : isAd (ps.getD (plK ps t) prt0) = false) : rsF ps (adL ps ps.length) (pgV ps t) = 0 ∧ rsV ps (adL ps ps.length) (pgV ps t) = t := by
  obtain ⟨e1, e2, e3⟩ := agree_st h hA
  have h2 := (plF_zero h).2
  have h3 := pl_bd h
  have e4 : rsF ps (adL ps ps.length) (pgV ps t) = 0 := by unfold rsF; rw [if_pos e3]; exact snF_ads ps
  refine ⟨e4, ?_⟩
  unfold rsV rsX
  rw [if_pos e4, e1, if_pos h2]
  have e5 : usK ps (adL ps ps.length) (plK ps t) = plK ps t := by
    refine frst_none fun j hj => ?_
    by_cases hd : adK ps (plK ps t) ≤ j
    · have := adK_ad ps _ j hd hj
      have hm : (adL ps ps.length).any (fun s => s == (j : Int)) = true := by
        rw [List.any_eq_true]
        exact ⟨_, (adL_mem ps _ _).2 ⟨j, by omega, this, rfl⟩, by simp⟩
      simp only [hm, Bool.not_true, Bool.and_false]
    · simp [hd]
  rw [e5, if_neg (by omega), e2]
  omega
theorem agree_nil {ps : List Prt} {t : Int} (h : plF ps t = 0) (hA : isAd (ps.getD (plK ps t) prt0) = false) : rsF ps [] (pgV ps t) = 0 ∧ rsV ps [] (pgV ps t) ≤ t := by
  obtain ⟨e1, e2, e3⟩ := agree_st h hA
  have h2 := (plF_zero h).2
  have h3 := pl_bd h
  obtain ⟨g, -, -⟩ := atF_zero (plF_zero h).1
  have e4 : rsF ps [] (pgV ps t) = 0 := by unfold rsF; rw [if_pos e3]; rfl
  refine ⟨e4, ?_⟩
  unfold rsV rsX
  rw [if_pos e4, e1, if_pos h2]
  split
  · rename_i h4
    have := g.alMono (plK ps t) (by omega) _ (by omega : usK ps [] (plK ps t) ≤ plK ps t)
    omega
  · rw [e2]; omega

end Go.Proofs.Ytiphipgheadakaa
