/- Plain facts of samples that are put at other times: none is presented at another time. -/
import Derived.Test.YtgpiagdldcnijabBoxPlain
namespace Go.Proofs.Ytgpiagdldcnijab
set_option linter.unusedVariables false
set_option linter.unusedSimpArgs false
open Go.RowKit

/-- The list of n samples that a function gives. -/
def mkS (n : Nat) (f : Nat → Smp) : List Smp := (List.range n).map f
theorem mkS_len (n : Nat) (f : Nat → Smp) : (mkS n f).length = n := by simp [mkS]
theorem mkS_get (n : Nat) (f : Nat → Smp) (i : Nat) (h : i < n) : (mkS n f).getD i smp0 = f i := by simp [mkS, List.getD_eq_getElem?_getD, h]
theorem smps_ext {a b : List Smp} (hl : a.length = b.length) (h : ∀ i, i < a.length → a.getD i smp0 = b.getD i smp0) : a = b := by
  apply List.ext_getElem hl
  intro i h1 h2
  have := h i h1
  simpa [List.getD_eq_getElem?_getD, h1, h2] using this
theorem mkS_self (ss : List Smp) : mkS ss.length (fun i => ss.getD i smp0) = ss := smps_ext (mkS_len _ _) fun i hi => by rw [mkS_len] at hi; rw [mkS_get _ _ _ hi]

/-- When samples are presented. -/
def presL (ss : List Smp) : List Int := ss.map fun y => y.t + y.h
theorem presL_len (ss : List Smp) : (presL ss).length = ss.length := by simp [presL]
theorem presL_get (ss : List Smp) (i : Nat) (h : i < ss.length) : (presL ss).getD i 0 = (ss.getD i smp0).t + (ss.getD i smp0).h := by
  simp [presL, List.getD_eq_getElem?_getD, h]
theorem presL_eq {a b : List Smp} (hl : a.length = b.length) (h : ∀ i, i < a.length → (a.getD i smp0).t + (a.getD i smp0).h = (b.getD i smp0).t + (b.getD i smp0).h) : presL a = presL b := by
  apply List.ext_getElem (by rw [presL_len, presL_len, hl])
  intro i h1 h2
  rw [presL_len] at h1 h2
  have := h i h1
  rw [← presL_get a i h1, ← presL_get b i h2] at this
  simpa [List.getD_eq_getElem?_getD, presL_len, h1, h2] using this

/-- Samples at other times, presented when they were. -/
def retS (y : Smp) (t : Int) : Smp := ⟨t, y.s, y.t + y.h - t, y.z, y.k⟩
def retL (ss : List Smp) (f : Nat → Int) : List Smp := mkS ss.length fun i => retS (ss.getD i smp0) (f i)
theorem retL_len (ss : List Smp) (f : Nat → Int) : (retL ss f).length = ss.length := mkS_len _ _
theorem retL_get (ss : List Smp) (f : Nat → Int) (i : Nat) (h : i < ss.length) : (retL ss f).getD i smp0 = retS (ss.getD i smp0) (f i) := mkS_get _ _ _ h
theorem retL_pres (ss : List Smp) (f : Nat → Int) : presL (retL ss f) = presL ss := presL_eq (retL_len _ _) fun i hi => by
  rw [retL_len] at hi
  rw [retL_get _ _ _ hi]
  simp only [retS]; omega
/-- Each Step the difference to the next Time. -/
def stepS (L : List Smp) (i : Nat) : Smp := if i + 1 < L.length then { L.getD i smp0 with s := (L.getD (i + 1) smp0).t - (L.getD i smp0).t } else L.getD i smp0
def stepL (L : List Smp) : List Smp := mkS L.length (stepS L)
theorem stepL_len (L : List Smp) : (stepL L).length = L.length := mkS_len _ _
theorem stepL_get (L : List Smp) (i : Nat) (h : i < L.length) : (stepL L).getD i smp0 = stepS L i := mkS_get _ _ _ h
theorem stepS_t (L : List Smp) (i : Nat) : (stepS L i).t = (L.getD i smp0).t ∧ (stepS L i).h = (L.getD i smp0).h ∧ (stepS L i).z = (L.getD i smp0).z ∧ (stepS L i).k = (L.getD i smp0).k := by unfold stepS; split <;> exact ⟨rfl, rfl, rfl, rfl⟩
theorem stepL_pres (L : List Smp) : presL (stepL L) = presL L := presL_eq (stepL_len _) fun i hi => by
  rw [stepL_len] at hi
  rw [stepL_get _ _ hi, (stepS_t L i).1, (stepS_t L i).2.1]

/-- The least Shift of the first k + 1. -/
def minTo (ss : List Smp) : Nat → Int
  | 0 => (ss.getD 0 smp0).h
  | k + 1 => min (minTo ss k) (ss.getD k smp0).h
def minH (ss : List Smp) : Int := minTo ss ss.length
theorem minTo_bd {ss : List Smp} (g : Good ss) (h0 : 0 < ss.length) : ∀ k, k ≤ ss.length → -1000000000 ≤ minTo ss k ∧ minTo ss k ≤ 1000000000
  | 0, _ => (g.ok 0 h0).2.2.1
  | k + 1, h => by
    have a := minTo_bd g h0 k (by omega)
    have b := (g.ok k (by omega)).2.2.1
    rw [minTo]; omega
def tightL (ss : List Smp) : List Smp := retL ss fun i => (ss.getD i smp0).t + minH ss
def tightF (ss : List Smp) : Int := if chkF ss = 0 then chkF (tightL ss) else chkF ss
def tightR (ss : List Smp) : List Smp := if tightF ss = 0 then tightL ss else []
def tightN (ss : List Smp) : Int := if tightF ss = 0 then minH ss else 0
theorem tight_pres (ss : List Smp) : presL (tightL ss) = presL ss := retL_pres _ _
theorem tight_nil : tightF [] = 0 ∧ tightR [] = [] ∧ tightN [] = 0 := by
  have e : chkF [] = 0 := (chkF_zero []).2 Good.nil
  have f : tightL [] = [] := rfl
  have g : tightF [] = 0 := by rw [tightF, if_pos e, f, e]
  refine ⟨g, by rw [tightR, if_pos g, f], by rw [tightN, if_pos g]; rfl⟩
theorem tightF_bad {ss : List Smp} (h : chkF ss ≠ 0) : tightF ss = chkF ss ∧ tightR ss = [] ∧ tightN ss = 0 := by
  have e : tightF ss = chkF ss := by rw [tightF, if_neg h]
  exact ⟨e, by rw [tightR, e, if_neg h], by rw [tightN, e, if_neg h]⟩
theorem tightF_good {ss : List Smp} (h : chkF ss = 0) : tightF ss = chkF (tightL ss) := by rw [tightF, if_pos h]

def timesL (ss : List Smp) : List Int := ss.map Smp.t
theorem timesL_len (ss : List Smp) : (timesL ss).length = ss.length := by simp [timesL]
theorem timesL_get (ss : List Smp) (i : Nat) (h : i < ss.length) : (timesL ss).getD i 0 = (ss.getD i smp0).t := by simp [timesL, List.getD_eq_getElem?_getD, h]
/-- Straight samples out of the times that are regular. -/
def strL (ss : List Smp) (ts : List Int) : List Smp := stepL (retL ss fun i => ts.getD i 0)
theorem strL_len (ss : List Smp) (ts : List Int) : (strL ss ts).length = ss.length := by rw [strL, stepL_len, retL_len]
theorem strL_pres (ss : List Smp) (ts : List Int) : presL (strL ss ts) = presL ss := by rw [strL, stepL_pres, retL_pres]
def anyNeg (L : List Smp) : Bool := L.any fun y => decide (y.s < 0)
/-- The fault of Straight, f that of the regular times ts. -/
def strF (ss : List Smp) (f : Int) (ts : List Int) : Int := if chkF ss = 0 then (if f = 0 then (if anyNeg (strL ss ts) = true then 12 else chkF (strL ss ts)) else f) else chkF ss
def strR (ss : List Smp) (f : Int) (ts : List Int) : List Smp := if strF ss f ts = 0 then strL ss ts else []
theorem anyNeg_at (L : List Smp) : anyNeg L = true ↔ ∃ i, i < L.length ∧ (L.getD i smp0).s < 0 := by
  unfold anyNeg
  rw [List.any_eq_true]
  constructor
  · rintro ⟨y, hy, h⟩
    obtain ⟨i, hi, rfl⟩ := List.mem_iff_getElem.1 hy
    exact ⟨i, hi, by simpa [List.getD_eq_getElem?_getD, hi] using h⟩
  · rintro ⟨i, hi, h⟩
    exact ⟨L[i], List.getElem_mem _, by simpa [List.getD_eq_getElem?_getD, hi] using h⟩

/-- The cells of samples. -/
def scells (ss : List Smp) : List Value := ss.flatMap fun p => [.int .i64 p.t, .int .i64 p.s, .int .i64 p.h, .int .i64 p.z, .bool p.k]
theorem scells_cons (p : Smp) (ss : List Smp) : scells (p :: ss) = .int .i64 p.t :: .int .i64 p.s :: .int .i64 p.h :: .int .i64 p.z :: .bool p.k :: scells ss := rfl
theorem scells_append (a b : List Smp) : scells (a ++ b) = scells a ++ scells b := by simp [scells]
theorem scells_len (ss : List Smp) : (scells ss).length = ss.length * 5 := by
  induction ss with
  | nil => rfl
  | cons p ps ih => rw [scells_cons]; simp [ih]; omega
theorem scells_at (ss : List Smp) : ∀ j, j < ss.length → (scells ss)[j * 5]? = some (.int .i64 (ss.getD j smp0).t) ∧ (scells ss)[j * 5 + 1]? = some (.int .i64 (ss.getD j smp0).s) ∧ (scells ss)[j * 5 + 2]? = some (.int .i64 (ss.getD j smp0).h) ∧ (scells ss)[j * 5 + 3]? = some (.int .i64 (ss.getD j smp0).z) ∧ (scells ss)[j * 5 + 4]? = some (.bool (ss.getD j smp0).k) := by
  induction ss with
  | nil => intro j hj; simp at hj
  | cons p ps ih =>
    intro j hj
    cases j with
    | zero => simp [scells_cons]
    | succ j =>
      obtain ⟨h0, h1, h2, h3, h4⟩ := ih j (by simpa using hj)
      rw [scells_cons, show (j + 1) * 5 = j * 5 + 1 + 1 + 1 + 1 + 1 by omega]
      simp only [List.getElem?_cons_succ, List.getD_cons_succ]
      exact ⟨h0, h1, h2, h3, h4⟩
/-- One number of a sample is put in another one's place. -/
theorem scells_set_t (ss : List Smp) (x : Int) : ∀ j, j < ss.length → (scells ss).set (j * 5) (.int .i64 x) = scells (ss.set j { ss.getD j smp0 with t := x }) := by
  induction ss with
  | nil => intro j hj; simp at hj
  | cons p ps ih =>
    intro j hj
    cases j with
    | zero => simp [scells_cons]
    | succ j =>
      have := ih j (by simpa using hj)
      rw [List.set_cons_succ, scells_cons, scells_cons, show (j + 1) * 5 = j * 5 + 1 + 1 + 1 + 1 + 1 by omega]
      simp only [List.set_cons_succ, List.getD_cons_succ]
      rw [← this]
theorem scells_set_s (ss : List Smp) (x : Int) : ∀ j, j < ss.length → (scells ss).set (j * 5 + 1) (.int .i64 x) = scells (ss.set j { ss.getD j smp0 with s := x }) := by
  induction ss with
  | nil => intro j hj; simp at hj
  | cons p ps ih =>
    intro j hj
    cases j with
    | zero => simp [scells_cons]
    | succ j =>
      have := ih j (by simpa using hj)
      rw [List.set_cons_succ, scells_cons, scells_cons, show (j + 1) * 5 = j * 5 + 1 + 1 + 1 + 1 + 1 by omega]
      simp only [List.set_cons_succ, List.getD_cons_succ]
      rw [← this]
theorem scells_set_h (ss : List Smp) (x : Int) : ∀ j, j < ss.length → (scells ss).set (j * 5 + 2) (.int .i64 x) = scells (ss.set j { ss.getD j smp0 with h := x }) := by
  induction ss with
  | nil => intro j hj; simp at hj
  | cons p ps ih =>
    intro j hj
    cases j with
    | zero => simp [scells_cons]
    | succ j =>
      have := ih j (by simpa using hj)
      rw [List.set_cons_succ, scells_cons, scells_cons, show (j + 1) * 5 = j * 5 + 1 + 1 + 1 + 1 + 1 by omega]
      simp only [List.set_cons_succ, List.getD_cons_succ]
      rw [← this]

theorem mkS_congr {n : Nat} {f g : Nat → Smp} (h : ∀ i, i < n → f i = g i) : mkS n f = mkS n g :=
  smps_ext (by rw [mkS_len, mkS_len]) fun i hi => by rw [mkS_len] at hi; rw [mkS_get _ _ _ hi, mkS_get _ _ _ hi]; exact h i hi
theorem getD_set (L : List Smp) (k i : Nat) (y : Smp) (h : i < L.length) : (L.set k y).getD i smp0 = if i = k then y else L.getD i smp0 := by
  rw [List.getD_eq_getElem?_getD, List.getElem?_set]
  by_cases e : k = i
  · subst e; simp [h]
  · have e' : ¬ i = k := fun h => e h.symm
    simp [e, e', List.getD_eq_getElem?_getD]
theorem mkS_set (n : Nat) (f : Nat → Smp) (k : Nat) (y : Smp) : (mkS n f).set k y = mkS n fun i => if i = k then y else f i :=
  smps_ext (by rw [List.length_set, mkS_len, mkS_len]) fun i hi => by
    rw [List.length_set, mkS_len] at hi
    rw [getD_set _ _ _ _ (by rw [mkS_len]; exact hi), mkS_get _ _ _ hi, mkS_get _ _ _ hi]
/-- Samples of which the first k are at other times. -/
def retTo (ss : List Smp) (f : Nat → Int) (k : Nat) : List Smp := mkS ss.length fun i => if i < k then retS (ss.getD i smp0) (f i) else ss.getD i smp0
theorem retTo_len (ss : List Smp) (f : Nat → Int) (k : Nat) : (retTo ss f k).length = ss.length := mkS_len _ _
theorem retTo_zero (ss : List Smp) (f : Nat → Int) : retTo ss f 0 = ss := (mkS_congr fun i _ => by simp).trans (mkS_self ss)
theorem retTo_all (ss : List Smp) (f : Nat → Int) : retTo ss f ss.length = retL ss f := mkS_congr fun i h => by simp [h]
theorem retTo_at (ss : List Smp) (f : Nat → Int) (k : Nat) (h : k < ss.length) : (retTo ss f k).getD k smp0 = ss.getD k smp0 := by rw [retTo, mkS_get _ _ _ h]; simp
theorem retTo_next (ss : List Smp) (f : Nat → Int) (k : Nat) (h : k < ss.length) : (retTo ss f k).set k (retS (ss.getD k smp0) (f k)) = retTo ss f (k + 1) := by
  rw [retTo, mkS_set]
  refine mkS_congr fun i hi => ?_
  by_cases e : i = k
  · subst e; simp
  · have : (i < k + 1) = (i < k) := by simp; omega
    simp [e, this]
theorem retTo_put (ss : List Smp) (f : Nat → Int) (k : Nat) (h : k < ss.length) (x y : Int) (hx : f k = x) (hy : (ss.getD k smp0).t + (ss.getD k smp0).h - x = y) :
    ((scells (retTo ss f k)).set (k * 5) (.int .i64 x)).set (k * 5 + 2) (.int .i64 y) = scells (retTo ss f (k + 1)) := by
  have hl : k < (retTo ss f k).length := by rw [retTo_len]; exact h
  rw [scells_set_t _ _ _ hl, scells_set_h _ _ _ (by rw [List.length_set]; exact hl), List.set_set, getD_set _ _ _ _ hl, if_pos rfl, retTo_at _ _ _ h, ← retTo_next _ _ _ h]
  subst hx hy
  rfl
/-- Samples of which those before the one ahead of number k have their Steps. -/
def stepTo (L : List Smp) (k : Nat) : List Smp := mkS L.length fun i => if i + 1 < k then stepS L i else L.getD i smp0
theorem stepTo_len (L : List Smp) (k : Nat) : (stepTo L k).length = L.length := mkS_len _ _
theorem stepTo_one (L : List Smp) : stepTo L 1 = L := (mkS_congr fun i _ => by simp).trans (mkS_self L)
theorem stepTo_all (L : List Smp) : stepTo L L.length = stepL L := mkS_congr fun i h => by
  by_cases e : i + 1 < L.length
  · rw [if_pos e]
  · rw [if_neg e, stepS, if_neg e]
theorem stepTo_t (L : List Smp) (k i : Nat) (h : i < L.length) : ((stepTo L k).getD i smp0).t = (L.getD i smp0).t := by
  rw [stepTo, mkS_get _ _ _ h]
  split
  · exact (stepS_t L i).1
  · rfl
theorem stepTo_put (L : List Smp) (k : Nat) (h : k + 1 < L.length) (x : Int) (hx : (L.getD (k + 1) smp0).t - (L.getD k smp0).t = x) :
    (scells (stepTo L (k + 1))).set (k * 5 + 1) (.int .i64 x) = scells (stepTo L (k + 1 + 1)) := by
  rw [scells_set_s _ _ _ (by rw [stepTo_len]; omega)]
  congr 1
  rw [stepTo, mkS_set]
  refine mkS_congr fun i hi => ?_
  by_cases e : i = k
  · subst e
    rw [if_pos rfl, if_pos (by omega), mkS_get _ _ _ hi, if_neg (by omega), stepS, if_pos h, hx]
  · rw [if_neg e]
    have : (i + 1 < k + 1 + 1) = (i + 1 < k + 1) := by simp; omega
    simp [this]

end Go.Proofs.Ytgpiagdldcnijab
