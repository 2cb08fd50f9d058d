/- The reference's Round: a fraction to a number, or none. -/
import Derived.Test.YtppaklifacadpaaGreatDoorRound
namespace Go.Proofs.YtppaklifacadpaaGreatDoor
set_option linter.unusedVariables false
set_option linter.unusedSimpArgs false
open Go.RowKit

theorem pos_fac' {a b : Int} (h : 0 < a * b) (hb : 0 < b) : 0 < a := by
  apply Decidable.byContradiction; intro hx
  have := Int.mul_le_mul_of_nonneg_right (show a ≤ 0 by omega) (Int.le_of_lt hb)
  simp at this; omega

theorem frac_div {Z Y a q : Int} (h : Z * q = a * Y) (hq : 0 < q) (hY : 0 < Y) : Z / Y = a / q ∧ (Z % Y) * q = (a % q) * Y := by
  have h1 := Int.mul_ediv_add_emod a q
  have h2 := Int.emod_nonneg a (show q ≠ 0 by omega)
  have h3 := Int.emod_lt_of_pos a hq
  have k1 := Int.mul_ediv_add_emod Z Y
  have k2 := Int.emod_nonneg Z (show Y ≠ 0 by omega)
  have k3 := Int.emod_lt_of_pos Z hY
  generalize a / q = Q at *
  generalize a % q = R at *
  generalize Z / Y = Q' at *
  generalize Z % Y = R' at *
  have e : Q' * (Y * q) + R' * q = Q * (Y * q) + R * Y := by
    have : (Y * Q' + R') * q = (q * Q + R) * Y := by rw [k1, h1]; exact h
    rw [Int.add_mul, Int.add_mul] at this
    rw [show Q' * (Y * q) = Y * Q' * q by ac_rfl, show Q * (Y * q) = q * Q * Y by ac_rfl]
    exact this
  have hYq : 0 < Y * q := Int.mul_pos hY hq
  have r1 : R' * q < Y * q := Int.mul_lt_mul_of_pos_right k3 hq
  have r2 : R * Y < Y * q := by rw [Int.mul_comm Y q]; exact Int.mul_lt_mul_of_pos_right h3 hY
  have r3 : 0 ≤ R' * q := Int.mul_nonneg k2 (by omega)
  have r4 : 0 ≤ R * Y := Int.mul_nonneg h2 (by omega)
  have hQ : Q' = Q := by
    generalize Y * q = M at *
    generalize R' * q = s at *
    generalize R * Y = t at *
    apply Decidable.byContradiction; intro hne
    rcases Int.lt_or_gt_of_ne hne with hx | hx
    · have := Int.mul_le_mul_of_nonneg_right (show Q' + 1 ≤ Q by omega) (Int.le_of_lt hYq)
      rw [Int.add_mul] at this; omega
    · have := Int.mul_le_mul_of_nonneg_right (show Q + 1 ≤ Q' by omega) (Int.le_of_lt hYq)
      rw [Int.add_mul] at this; omega
  subst hQ
  exact ⟨rfl, by omega⟩

theorem grows_frac {R Y r q : Int} (s : Bool) (way : Int) (h : R * q = r * Y) (hq : 0 < q) (hY : 0 < Y) : growsB R Y s way = growsB r q s way := by
  have e1 : decide (0 < R) = decide (0 < r) := by
    apply decide_eq_decide.2
    constructor
    · intro h0
      have := Int.mul_pos h0 hq
      rw [h] at this
      exact pos_fac' this hY
    · intro h0
      have := Int.mul_pos h0 hY
      rw [← h] at this
      exact pos_fac' this hq
  have e2 : decide (Y ≤ 2 * R) = decide (q ≤ 2 * r) := by
    apply decide_eq_decide.2
    constructor
    · intro h0
      apply Int.le_of_mul_le_mul_right (a := Y) _ hY
      have := Int.mul_le_mul_of_nonneg_right h0 (Int.le_of_lt hq)
      rw [Int.mul_assoc, h, ← Int.mul_assoc, Int.mul_comm Y q] at this
      exact this
    · intro h0
      apply Int.le_of_mul_le_mul_right (a := q) _ hq
      have := Int.mul_le_mul_of_nonneg_right h0 (Int.le_of_lt hY)
      rw [Int.mul_assoc 2 r Y, ← h, ← Int.mul_assoc, Int.mul_comm q Y] at this
      exact this
  unfold growsB
  rw [e1, e2]

theorem rd_frac {Z Y a q : Int} (s : Bool) (way : Int) (h : Z * q = a * Y) (hq : 0 < q) (hY : 0 < Y) : rdV s way Z Y = rdV s way a q := by
  obtain ⟨h1, h2⟩ := frac_div h hq hY
  rw [rdV, rdV, h1, grows_frac s way h2 hq hY]

theorem round_num (v : Value) (p q : Int) (w : World) (way : Int) (L : Nat) (hv : NumR w v p q L) (hw : 1 ≤ way ∧ way ≤ 3) (hL : L ≤ 400) :
    Calls Tryz.prog 19 #[v, .int .i64 way] w fun e w' => (∃ r, e = .returned r ∧ ∃ qs, Lim w' r qs ∧ Canon qs ∧ lval qs = rdV (decide (p < 0)) way (p.natAbs : Int) q ∧ qs.length ≤ L + 1) ∧ Below w.heap.size w w' := by
  obtain ⟨hq, zs, ys, ⟨t, b, rfl, g1, g2, g3, g4, g5⟩, g6, g7, g8⟩ := hv
  obtain ⟨a1, c1, rfl, -, -⟩ := g1.parts
  obtain ⟨a2, c2, rfl, -, -⟩ := g2.parts
  have hL1 : 1 ≤ L := by
    have := List.length_pos_iff.2 ((canon_pos ys g4).1 g5)
    omega
  rw [← rd_frac (decide (p < 0)) way g6 hq g5]
  have hw3 : way = 1 ∨ way = 2 ∨ way = 3 := by omega
  generalize decide (p < 0) = s
  rcases hw3 with rfl | rfl | rfl <;> cases s
  · exact round_down_pos a1 a2 _ _ c1 c2 zs ys w g1 g2 g3 g4 g5 L g7 g8 hL hL1
  · exact round_down_neg a1 a2 _ _ c1 c2 zs ys w g1 g2 g3 g4 g5 L g7 g8 hL hL1
  · exact round_near_false a1 a2 _ _ c1 c2 zs ys w g1 g2 g3 g4 g5 L g7 g8 hL hL1
  · exact round_near_true a1 a2 _ _ c1 c2 zs ys w g1 g2 g3 g4 g5 L g7 g8 hL hL1
  · exact round_up_pos a1 a2 _ _ c1 c2 zs ys w g1 g2 g3 g4 g5 L g7 g8 hL hL1
  · exact round_up_neg a1 a2 _ _ c1 c2 zs ys w g1 g2 g3 g4 g5 L g7 g8 hL hL1

theorem canon_len_bd (a : List Int) (ha : Canon a) (h : lval a < 10000 ^ 5) : a.length ≤ 5 := by
  apply Decidable.byContradiction; intro hx
  have h1 := canon_low a ha (by omega)
  have h2 := lpow_mono (show 5 ≤ a.length - 1 by omega)
  omega

end Go.Proofs.YtppaklifacadpaaGreatDoor
