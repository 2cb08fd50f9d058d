/- Plain facts of steps: the tables of nextSteps. -/
import Derived.Test.YtinckidkophobaaStepPlain
namespace Go.Proofs.Ytinckidkophobaa
set_option linter.unusedVariables false
set_option linter.unusedSimpArgs false

def updN (f : Nat → Nat) (i v : Nat) : Nat → Nat := fun j => if j = i then v else f j
/-- The best one after i, once c is the best of those before k. -/
def scanN (lf : Nat → Nat) (rs : List Rung) (p q : Int) (i : Nat) : Nat → Nat → Nat → Nat
  | 0, _, c => c
  | f + 1, k, c => if gapB (rs.getD i rung0) (rs.getD k rung0) p q = true then c else scanN lf rs p q i f (k + 1) (if lf k < lf c then k else c)
theorem scanN_at (lf : Nat → Nat) (rs : List Rung) (p q : Int) (i n k c : Nat) (h : k < n) : scanN lf rs p q i (n - k) k c = if gapB (rs.getD i rung0) (rs.getD k rung0) p q = true then c else scanN lf rs p q i (n - (k + 1)) (k + 1) (if lf k < lf c then k else c) := by
  rw [show n - k = (n - (k + 1)) + 1 by omega]; rfl
theorem scanN_end (lf : Nat → Nat) (rs : List Rung) (p q : Int) (i n c : Nat) : scanN lf rs p q i (n - n) n c = c := by rw [Nat.sub_self]; rfl
/-- The tables when the last m rows but one are known: next and left. -/
def tabN (rs : List Rung) (p q : Int) (e : Nat) : Nat → (Nat → Nat) × (Nat → Nat)
  | 0 => (fun _ => 0, fun _ => 0)
  | m + 1 =>
    let t := tabN rs p q e m
    let c := scanN t.2 rs p q (e - 1 - m) (e + 1 - (e - 1 - m + 2)) (e - 1 - m + 2) (e - 1 - m + 1)
    (updN t.1 (e - 1 - m) c, updN t.2 (e - 1 - m) (t.2 c + 1))
def bestN (rs : List Rung) (p q : Int) (e i : Nat) : Nat := scanN (tabN rs p q e (e - (i + 1))).2 rs p q i (e + 1 - (i + 2)) (i + 2) (i + 1)
theorem tabN_step (rs : List Rung) (p q : Int) (e i : Nat) (h : i < e) : tabN rs p q e (e - i) = (updN (tabN rs p q e (e - (i + 1))).1 i (bestN rs p q e i), updN (tabN rs p q e (e - (i + 1))).2 i ((tabN rs p q e (e - (i + 1))).2 (bestN rs p q e i) + 1)) := by
  rw [show e - i = (e - (i + 1)) + 1 by omega, tabN, show e - 1 - (e - (i + 1)) = i by omega]
  rfl
def NoGaps (rs : List Rung) (p q : Int) (e : Nat) : Prop := ∀ j, j < e → gapB (rs.getD j rung0) (rs.getD (j + 1) rung0) p q = false
theorem scanN_ok (lf : Nat → Nat) (rs : List Rung) (p q : Int) (i e : Nat) : ∀ f k c, k + f = e + 1 → i < k → i < c → c ≤ e → gapB (rs.getD i rung0) (rs.getD c rung0) p q = false →
    i < scanN lf rs p q i f k c ∧ scanN lf rs p q i f k c ≤ e ∧ gapB (rs.getD i rung0) (rs.getD (scanN lf rs p q i f k c) rung0) p q = false
  | 0, k, c, _, _, h1, h2, h3 => ⟨h1, h2, h3⟩
  | f + 1, k, c, hf, hk, h1, h2, h3 => by
    rw [scanN]
    split
    · exact ⟨h1, h2, h3⟩
    · rename_i hg
      have hg' : gapB (rs.getD i rung0) (rs.getD k rung0) p q = false := Bool.eq_false_iff.2 hg
      split
      · exact scanN_ok lf rs p q i e f (k + 1) k (by omega) (by omega) hk (by omega) hg'
      · exact scanN_ok lf rs p q i e f (k + 1) c (by omega) (by omega) h1 h2 h3
structure TabOk (rs : List Rung) (p q : Int) (e d : Nat) (t : (Nat → Nat) × (Nat → Nat)) : Prop where
  next : ∀ j, d ≤ j → j < e → j < t.1 j ∧ t.1 j ≤ e ∧ gapB (rs.getD j rung0) (rs.getD (t.1 j) rung0) p q = false
  nle : ∀ j, t.1 j ≤ e
  lle : ∀ j, t.2 j ≤ e - d
theorem bestN_ok (rs : List Rung) (p q : Int) (e i : Nat) (hi : i < e) (hg : NoGaps rs p q e) : i < bestN rs p q e i ∧ bestN rs p q e i ≤ e ∧ gapB (rs.getD i rung0) (rs.getD (bestN rs p q e i) rung0) p q = false :=
  scanN_ok _ rs p q i e _ _ _ (by omega) (by omega) (by omega) (by omega) (hg i hi)
theorem tabN_ok (rs : List Rung) (p q : Int) (e : Nat) (hg : NoGaps rs p q e) : ∀ m, m ≤ e → TabOk rs p q e (e - m) (tabN rs p q e m)
  | 0, _ => ⟨fun j h1 h2 => by omega, fun j => Nat.zero_le _, fun j => Nat.zero_le _⟩
  | m + 1, hm => by
    have ih := tabN_ok rs p q e hg m (by omega)
    have hi : e - (m + 1) < e := by omega
    obtain ⟨b1, b2, b3⟩ := bestN_ok rs p q e (e - (m + 1)) hi hg
    have hs := tabN_step rs p q e (e - (m + 1)) hi
    rw [show e - (e - (m + 1)) = m + 1 by omega, show e - (e - (m + 1) + 1) = m by omega] at hs
    rw [hs]
    refine ⟨fun j h1 h2 => ?_, fun j => ?_, fun j => ?_⟩
    · show j < updN _ _ _ j ∧ updN _ _ _ j ≤ e ∧ gapB _ (rs.getD (updN _ _ _ j) rung0) p q = false
      unfold updN
      by_cases hj : j = e - (m + 1)
      · subst hj
        rw [if_pos rfl]
        exact ⟨b1, b2, b3⟩
      · rw [if_neg hj]
        exact ih.next j (by omega) h2
    · show updN _ _ _ j ≤ e
      unfold updN
      split
      · exact b2
      · exact ih.nle j
    · show updN _ _ _ j ≤ e - (e - (m + 1))
      unfold updN
      split
      · have := ih.lle (bestN rs p q e (e - (m + 1))); omega
      · have := ih.lle j; omega
/-- What comes after rendition number j. -/
def nextN (rs : List Rung) (p q : Int) (e : Nat) : Nat → Nat := (tabN rs p q e e).1
theorem nextN_ok (rs : List Rung) (p q : Int) (e : Nat) (hg : NoGaps rs p q e) (j : Nat) (hj : j < e) : j < nextN rs p q e j ∧ nextN rs p q e j ≤ e ∧ gapB (rs.getD j rung0) (rs.getD (nextN rs p q e j) rung0) p q = false :=
  (tabN_ok rs p q e hg e (Nat.le_refl _)).next j (by omega) hj

end Go.Proofs.Ytinckidkophobaa
