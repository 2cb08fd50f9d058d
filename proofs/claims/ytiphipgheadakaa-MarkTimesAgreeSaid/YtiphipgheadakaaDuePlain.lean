/- Plain facts of what is due of a timeline. -/
import Derived.Test.YtiphipgheadakaaPartPlain
namespace Go.Proofs.Ytiphipgheadakaa
set_option linter.unusedVariables false
set_option linter.unusedSimpArgs false
open Go.RowKit

/-- An event of no session. -/
structure Ev where
  pl : Int
  ad : ByteArray
  ki : Int
def ev0 : Ev := ⟨0, ⟨#[]⟩, 0⟩
instance : Inhabited Ev := ⟨ev0⟩
/-- How many ticks of an advertisement are played when it comes to a Kind. -/
def need (ln ki : Int) : Int := max ((ln * (ki - 1) + 3) / 4) 1
def lastT (ps : List Prt) (i k : Nat) : Int := alTo ps i + need (ps.getD i prt0).ln k - 1
def evAt (ps : List Prt) (i k : Nat) : Ev := ⟨i, (ps.getD i prt0).ad, k⟩
/-- What is due of the first k Kinds of a part. -/
def dueK (ps : List Prt) (a b : Int) (i : Nat) : Nat → List Ev
  | 0 => []
  | k + 1 => if a ≤ lastT ps i (k + 1) ∧ lastT ps i (k + 1) < b then dueK ps a b i k ++ [evAt ps i (k + 1)] else dueK ps a b i k
/-- What is due of the first n parts. -/
def dueN (ps : List Prt) (a b : Int) : Nat → List Ev
  | 0 => []
  | i + 1 => if isAd (ps.getD i prt0) = true then dueN ps a b i ++ dueK ps a b i 5 else dueN ps a b i
def dueF (ps : List Prt) (a b : Int) : Int := if ptF ps = 0 then fIf (!inB a 0 1000000000000000 || !inB b a 1000000000000000) 1 else ptF ps
def dueL (ps : List Prt) (a b : Int) : List Ev := if dueF ps a b = 0 then dueN ps a b ps.length else []
theorem dueK_len (ps : List Prt) (a b : Int) (i : Nat) : ∀ k, (dueK ps a b i k).length ≤ k
  | 0 => by simp [dueK]
  | k + 1 => by
    have := dueK_len ps a b i k
    rw [dueK]
    split
    · rw [List.length_append, List.length_singleton]; omega
    · omega
theorem dueN_len (ps : List Prt) (a b : Int) : ∀ n, (dueN ps a b n).length ≤ 5 * n
  | 0 => by simp [dueN]
  | i + 1 => by
    have := dueN_len ps a b i
    have := dueK_len ps a b i 5
    rw [dueN]
    split
    · rw [List.length_append]; omega
    · omega
theorem need_bd {ln ki : Int} (h : 1 ≤ ln) (h1 : 1 ≤ ki) (h2 : ki ≤ 5) : 1 ≤ need ln ki ∧ need ln ki ≤ ln := by
  have : ki = 1 ∨ ki = 2 ∨ ki = 3 ∨ ki = 4 ∨ ki = 5 := by omega
  unfold need
  rcases this with rfl | rfl | rfl | rfl | rfl <;> omega
theorem need_mono {ln : Int} (h : 1 ≤ ln) {k : Nat} (h1 : 1 ≤ k) (h2 : k < 5) : need ln (k : Nat) ≤ need ln ((k + 1 : Nat)) := by
  have : k = 1 ∨ k = 2 ∨ k = 3 ∨ k = 4 := by omega
  unfold need
  rcases this with rfl | rfl | rfl | rfl <;> simp <;> omega

/-- All events with their ticks. -/
def tevK (ps : List Prt) (i : Nat) : Nat → List (Int × Ev)
  | 0 => []
  | k + 1 => tevK ps i k ++ [(lastT ps i (k + 1), evAt ps i (k + 1))]
def tevN (ps : List Prt) : Nat → List (Int × Ev)
  | 0 => []
  | i + 1 => if isAd (ps.getD i prt0) = true then tevN ps i ++ tevK ps i 5 else tevN ps i
def within (a b : Int) (L : List (Int × Ev)) : List Ev := (L.filter fun y => decide (a ≤ y.1) && decide (y.1 < b)).map Prod.snd
theorem within_append (a b : Int) (L M : List (Int × Ev)) : within a b (L ++ M) = within a b L ++ within a b M := by simp [within]
theorem dueK_within (ps : List Prt) (a b : Int) (i : Nat) : ∀ k, dueK ps a b i k = within a b (tevK ps i k)
  | 0 => rfl
  | k + 1 => by
    rw [dueK, tevK, within_append, ← dueK_within ps a b i k]
    by_cases h : a ≤ lastT ps i (k + 1) ∧ lastT ps i (k + 1) < b
    · rw [if_pos h]; simp [within, h]
    · rw [if_neg h]
      have : (decide (a ≤ lastT ps i (k + 1)) && decide (lastT ps i (k + 1) < b)) = false := by
        rw [Bool.eq_false_iff]; intro e; apply h; simpa using e
      simp [within, this]
theorem dueN_within (ps : List Prt) (a b : Int) : ∀ n, dueN ps a b n = within a b (tevN ps n)
  | 0 => rfl
  | i + 1 => by
    rw [dueN, tevN]
    split
    · rw [within_append, dueN_within ps a b i, dueK_within]
    · exact dueN_within ps a b i
/-- The ticks of what is of part i. -/
theorem tevK_bd {ps : List Prt} {i : Nat} (h : 1 ≤ (ps.getD i prt0).ln) : ∀ k, k ≤ 5 → (∀ y ∈ tevK ps i k, alTo ps i ≤ y.1 ∧ y.1 < alTo ps (i + 1) ∧ (1 ≤ k → y.1 ≤ lastT ps i k)) ∧ (tevK ps i k).Pairwise (fun x y => x.1 ≤ y.1) ∧ (tevK ps i k).length = k
  | 0, _ => by simp [tevK]
  | k + 1, hk => by
    obtain ⟨h1, h2, h3⟩ := tevK_bd h k (by omega)
    have hn := need_bd (ki := ((k + 1 : Nat) : Int)) h (by omega) (by omega)
    have hl : alTo ps i ≤ lastT ps i (k + 1) ∧ lastT ps i (k + 1) < alTo ps (i + 1) := by unfold lastT; rw [alTo]; omega
    have hm : 1 ≤ k → lastT ps i k ≤ lastT ps i (k + 1) := fun h0 => by have := need_mono h h0 (by omega : k < 5); unfold lastT; omega
    have hle : ∀ y ∈ tevK ps i k, y.1 ≤ lastT ps i (k + 1) := by
      intro y hy
      by_cases h0 : k = 0
      · subst h0; simp [tevK] at hy
      · exact Int.le_trans ((h1 y hy).2.2 (by omega)) (hm (by omega))
    rw [tevK]
    refine ⟨fun y hy => ?_, ?_, by rw [List.length_append, h3]; rfl⟩
    · rcases List.mem_append.1 hy with hy | hy
      · exact ⟨(h1 y hy).1, (h1 y hy).2.1, fun _ => hle y hy⟩
      · obtain rfl : y = _ := List.mem_singleton.1 hy
        exact ⟨hl.1, hl.2, fun _ => Int.le_refl _⟩
    · rw [List.pairwise_append]
      refine ⟨h2, List.pairwise_singleton _ _, fun x hx y hy => ?_⟩
      obtain rfl : y = _ := List.mem_singleton.1 hy
      exact hle x hx
/-- How many advertisements the first n parts have, five times. -/
def fiveTo (ps : List Prt) : Nat → Int
  | 0 => 0
  | i + 1 => if isAd (ps.getD i prt0) = true then fiveTo ps i + 5 else fiveTo ps i
theorem fiveTo_bd (ps : List Prt) : ∀ n, 0 ≤ fiveTo ps n ∧ fiveTo ps n ≤ 5 * (n : Int)
  | 0 => by simp [fiveTo]
  | i + 1 => by
    have := fiveTo_bd ps i
    rw [fiveTo]
    split <;> omega
theorem tevN_bd {ps : List Prt} (g : OkPs ps) : ∀ n, n ≤ ps.length → (∀ y ∈ tevN ps n, 0 ≤ y.1 ∧ y.1 < alTo ps n) ∧ (tevN ps n).Pairwise (fun x y => x.1 ≤ y.1) ∧ ((tevN ps n).length : Int) = fiveTo ps n
  | 0, _ => by simp [tevN, fiveTo]
  | i + 1, hn => by
    obtain ⟨h1, h2, h3⟩ := tevN_bd g i (by omega)
    have hl := (g.ok i (by omega)).ln
    obtain ⟨k1, k2, k3⟩ := tevK_bd (ps := ps) (i := i) hl.1 5 (Nat.le_refl _)
    have ha : alTo ps i ≤ alTo ps (i + 1) := by rw [alTo]; omega
    have h0 := (g.bd i (by omega)).2.1
    rw [tevN, fiveTo]
    split
    · refine ⟨fun y hy => ?_, ?_, by rw [List.length_append]; omega⟩
      · rcases List.mem_append.1 hy with hy | hy
        · exact ⟨(h1 y hy).1, Int.lt_of_lt_of_le (h1 y hy).2 ha⟩
        · have := k1 y hy; omega
      · rw [List.pairwise_append]
        refine ⟨h2, k2, fun x hx y hy => ?_⟩
        have := h1 x hx; have := k1 y hy; omega
    · exact ⟨fun y hy => ⟨(h1 y hy).1, Int.lt_of_lt_of_le (h1 y hy).2 ha⟩, h2, h3⟩
theorem within_join {a m b : Int} (h1 : a ≤ m) (h2 : m ≤ b) : ∀ (L : List (Int × Ev)), L.Pairwise (fun x y => x.1 ≤ y.1) → within a m L ++ within m b L = within a b L
  | [], _ => rfl
  | x :: L, hp => by
    obtain ⟨hx, hp⟩ := List.pairwise_cons.1 hp
    have ih := within_join h1 h2 L hp
    by_cases hm : x.1 < m
    · have e2 : (decide (m ≤ x.1) && decide (x.1 < b)) = false := by simp; omega
      have e1 : within m b (x :: L) = within m b L := by unfold within; rw [List.filter_cons, e2]; rfl
      rw [e1]
      by_cases ha : a ≤ x.1
      · have e3 : within a m (x :: L) = x.2 :: within a m L := by unfold within; rw [List.filter_cons, if_pos (by simp; omega)]; rfl
        have e4 : within a b (x :: L) = x.2 :: within a b L := by unfold within; rw [List.filter_cons, if_pos (by simp; omega)]; rfl
        rw [e3, e4, List.cons_append, ih]
      · have e3 : within a m (x :: L) = within a m L := by unfold within; rw [List.filter_cons, if_neg (by simp; omega)]
        have e4 : within a b (x :: L) = within a b L := by unfold within; rw [List.filter_cons, if_neg (by simp; omega)]
        rw [e3, e4, ih]
    · have e3 : within a m (x :: L) = [] := by
        unfold within
        rw [List.filter_eq_nil_iff.2 (fun y hy => ?_)]; rfl
        rcases List.mem_cons.1 hy with rfl | hy
        · simp; omega
        · have := hx y hy; simp; omega
      have e5 : within m b (x :: L) = within a b (x :: L) := by
        unfold within
        rw [List.filter_congr (fun y hy => ?_)]
        have hy2 : m ≤ y.1 := by
          rcases List.mem_cons.1 hy with rfl | hy
          · omega
          · have := hx y hy; omega
        rw [decide_eq_true hy2, decide_eq_true (by omega : a ≤ y.1)]
      rw [e3, e5, List.nil_append]
theorem due_join {ps : List Prt} (g : OkPs ps) {a m b : Int} (h1 : a ≤ m) (h2 : m ≤ b) : dueN ps a m ps.length ++ dueN ps m b ps.length = dueN ps a b ps.length := by
  rw [dueN_within, dueN_within, dueN_within]
  exact within_join h1 h2 _ (tevN_bd g _ (Nat.le_refl _)).2.1
theorem due_all {ps : List Prt} (g : OkPs ps) : ((dueN ps 0 1000000000000000 ps.length).length : Int) = fiveTo ps ps.length := by
  obtain ⟨h1, -, h3⟩ := tevN_bd g _ (Nat.le_refl _)
  have hs := g.sum
  rw [dueN_within, ← h3]
  unfold within
  rw [List.filter_eq_self.2 (fun y hy => ?_), List.length_map]
  have := h1 y hy
  simp; omega

end Go.Proofs.Ytiphipgheadakaa
