/- Plain facts on the texts of dates: their form, their fields, their order. No program in it. -/
import Derived.Test.YtppaklifacadpaaGreatDoorDval
import Derived.Test.YtppaklifacadpaaGreatDoorDateCal
namespace Go.Proofs.YtppaklifacadpaaGreatDoor
set_option linter.unusedVariables false
set_option linter.unusedSimpArgs false

def padL (x : Int) (k : Nat) : List UInt8 := List.replicate (k - (Lib.decDigits x.toNat).length) 48 ++ Lib.decDigits x.toNat
def formL : List UInt8 := [48, 48, 48, 48, 45, 48, 48, 45, 48, 48, 84, 48, 48, 58, 48, 48, 58, 48, 48, 46, 48, 48, 48, 90]
/-- A byte fits a place of the form. -/
def fitB (f c : Nat) : Bool := if f = 48 then decide (48 ≤ c) && decide (c ≤ 57) else f == c
def fld (l : List UInt8) (a b : Nat) : List UInt8 := (l.drop a).take (b - a)
/-- The text has the form of a date. -/
def IsForm (l : List UInt8) : Prop := l.length = 24 ∧ ∀ k (h : k < l.length), fitB (formL.getD k 0).toNat (l[k].toNat) = true
/-- The text of a date. -/
def dateOf (Y M D h m s u : Int) : List UInt8 :=
  padL Y 4 ++ [45] ++ padL M 2 ++ [45] ++ padL D 2 ++ [84] ++ padL h 2 ++ [58] ++ padL m 2 ++ [58] ++ padL s 2 ++ [46] ++ padL u 3 ++ [90]

theorem padL_facts (x : Int) (k : Nat) (hk : 1 ≤ k) (h0 : 0 ≤ x) (h1 : x < ((10 ^ k : Nat) : Int)) : (padL x k).length = k ∧ DigB (padL x k) ∧ (dvalB (padL x k) : Int) = x := by
  obtain ⟨f1, f2⟩ := decDigits_facts x.toNat
  obtain ⟨g1, g2⟩ := decDigits_low x.toNat
  have hl : (Lib.decDigits x.toNat).length ≤ k := by
    apply Decidable.byContradiction; intro hx
    by_cases hp : 0 < x.toNat
    · have h2 := g2 hp
      have h3 := Nat.pow_le_pow_right (show 1 ≤ 10 by omega) (show k ≤ (Lib.decDigits x.toNat).length - 1 by omega)
      omega
    · rw [Lib.decDigits_one (by omega)] at hx
      simp at hx
      omega
  unfold padL
  refine ⟨by rw [List.length_append, List.length_replicate]; omega, (DigB.zeros _).append f1, ?_⟩
  rw [dvalB_zeros, f2]
  omega

theorem dval_inj : ∀ (a b : List UInt8), DigB a → DigB b → a.length = b.length → dvalB a = dvalB b → a = b
  | [], [], _, _, _, _ => rfl
  | [], _ :: _, _, _, h, _ => by simp at h
  | _ :: _, [], _, _, h, _ => by simp at h
  | x :: r, y :: t, ha, hb, hl, hv => by
    have l1 := dvalB_lt r ha.tail
    have l2 := dvalB_lt t hb.tail
    have x1 := ha x (by simp)
    have y1 := hb y (by simp)
    simp only [List.length_cons] at hl
    have hl' : r.length = t.length := by omega
    rw [dvalB, dvalB, hl'] at hv
    rw [hl'] at l1
    have hP : 0 < 10 ^ t.length := Nat.pow_pos (by omega)
    generalize 10 ^ t.length = P at *
    have hxy : x.toNat - 48 = y.toNat - 48 := by
      rcases Nat.lt_trichotomy (x.toNat - 48) (y.toNat - 48) with h | h | h
      · have := Nat.mul_le_mul_right P (show x.toNat - 48 + 1 ≤ y.toNat - 48 by omega)
        rw [Nat.add_mul] at this; omega
      · exact h
      · have := Nat.mul_le_mul_right P (show y.toNat - 48 + 1 ≤ x.toNat - 48 by omega)
        rw [Nat.add_mul] at this; omega
    rw [hxy] at hv
    have e1 : x = y := UInt8.toNat.inj (by omega)
    rw [e1, dval_inj r t ha.tail hb.tail hl' (by omega)]

/-- One list of bytes is before another one of the same length. -/
theorem lex_dig : ∀ (a b : List UInt8), DigB a → DigB b → a.length = b.length → dvalB a < dvalB b → ∀ p q, a ++ p < b ++ q
  | [], [], _, _, _, h, _, _ => by simp [dvalB] at h
  | [], _ :: _, _, _, h, _, _, _ => by simp at h
  | _ :: _, [], _, _, h, _, _, _ => by simp at h
  | x :: r, y :: t, ha, hb, hl, hv, p, q => by
    have l1 := dvalB_lt r ha.tail
    have l2 := dvalB_lt t hb.tail
    have x1 := ha x (by simp)
    have y1 := hb y (by simp)
    simp only [List.length_cons] at hl
    have hl' : r.length = t.length := by omega
    rw [dvalB, dvalB, hl'] at hv
    rw [hl'] at l1
    have hP : 0 < 10 ^ t.length := Nat.pow_pos (by omega)
    generalize 10 ^ t.length = P at *
    rw [List.cons_append, List.cons_append, List.cons_lt_cons_iff]
    rcases Nat.lt_trichotomy (x.toNat - 48) (y.toNat - 48) with h | h | h
    · exact .inl (UInt8.lt_iff_toNat_lt.2 (by omega))
    · refine .inr ⟨UInt8.toNat.inj (by omega), lex_dig r t ha.tail hb.tail hl' ?_ p q⟩
      rw [h] at hv; omega
    · have := Nat.mul_le_mul_right P (show y.toNat - 48 + 1 ≤ x.toNat - 48 by omega)
      rw [Nat.add_mul] at this; omega
theorem lex_same : ∀ (a : List UInt8) (p q : List UInt8), p < q → a ++ p < a ++ q
  | [], p, q, h => h
  | x :: r, p, q, h => by
    rw [List.cons_append, List.cons_append, List.cons_lt_cons_iff]
    exact .inr ⟨rfl, lex_same r p q h⟩
theorem lex_pad {x y : Int} {k : Nat} (hk : 1 ≤ k) (h0 : 0 ≤ x) (h1 : y < ((10 ^ k : Nat) : Int)) (h : x < y) (p q : List UInt8) : padL x k ++ p < padL y k ++ q := by
  obtain ⟨a1, a2, a3⟩ := padL_facts x k hk h0 (by omega)
  obtain ⟨b1, b2, b3⟩ := padL_facts y k hk (by omega) h1
  exact lex_dig _ _ a2 b2 (by omega) (by omega) p q

theorem text_lt {Y M D h m s u Y' M' D' h' m' s' u' : Int} (c : Civil Y M D h m s u) (c' : Civil Y' M' D' h' m' s' u') (y9 : Y ≤ 9999) (y9' : Y' ≤ 9999) (e : Earlier Y M D h m s u Y' M' D' h' m' s' u') :
    dateOf Y M D h m s u < dateOf Y' M' D' h' m' s' u' := by
  have b1 := mD_bd Y M
  have b2 := mD_bd Y' M'
  obtain ⟨c1, c2, c3, c4, c5, c6, c7, c8, c9, c10, c11, c12, c13⟩ := c
  obtain ⟨d1, d2, d3, d4, d5, d6, d7, d8, d9, d10, d11, d12, d13⟩ := c'
  unfold dateOf
  simp only [List.append_assoc]
  rcases e with e | ⟨rfl, e⟩
  · exact lex_pad (by omega) (by omega) (by omega) e _ _
  refine lex_same _ _ _ (lex_same _ _ _ ?_)
  rcases e with e | ⟨rfl, e⟩
  · exact lex_pad (by omega) (by omega) (by omega) e _ _
  refine lex_same _ _ _ (lex_same _ _ _ ?_)
  rcases e with e | ⟨rfl, e⟩
  · exact lex_pad (by omega) (by omega) (by omega) e _ _
  refine lex_same _ _ _ (lex_same _ _ _ ?_)
  rcases e with e | ⟨rfl, e⟩
  · exact lex_pad (by omega) (by omega) (by omega) e _ _
  refine lex_same _ _ _ (lex_same _ _ _ ?_)
  rcases e with e | ⟨rfl, e⟩
  · exact lex_pad (by omega) (by omega) (by omega) e _ _
  refine lex_same _ _ _ (lex_same _ _ _ ?_)
  rcases e with e | ⟨rfl, e⟩
  · exact lex_pad (by omega) (by omega) (by omega) e _ _
  refine lex_same _ _ _ (lex_same _ _ _ ?_)
  exact lex_pad (by omega) (by omega) (by omega) e _ _

/-- The order of the texts is that of the moments. -/
theorem order_iff {Y M D h m s u Y' M' D' h' m' s' u' : Int} (c : Civil Y M D h m s u) (c' : Civil Y' M' D' h' m' s' u') (y9 : Y ≤ 9999) (y9' : Y' ≤ 9999) :
    dateOf Y M D h m s u < dateOf Y' M' D' h' m' s' u' ↔ dateN Y M D h m s u < dateN Y' M' D' h' m' s' u' := by
  rcases earlier_cases Y M D h m s u Y' M' D' h' m' s' u' with e | e | ⟨rfl, rfl, rfl, rfl, rfl, rfl, rfl⟩
  · exact ⟨fun _ => earlier_lt c c' e, fun _ => text_lt c c' y9 y9' e⟩
  · have h1 := text_lt c' c y9' y9 e
    have h2 := earlier_lt c' c e
    exact ⟨fun hx => absurd (List.lt_trans hx h1) (List.lt_irrefl _), fun hx => by omega⟩
  · exact ⟨fun hx => absurd hx (List.lt_irrefl _), fun hx => by omega⟩

end Go.Proofs.YtppaklifacadpaaGreatDoor
