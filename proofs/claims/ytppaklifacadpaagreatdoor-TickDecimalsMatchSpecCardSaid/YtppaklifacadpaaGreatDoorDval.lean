/- Plain facts on texts of decimal digits: their value, their pieces. No program in it. -/
import Derived.Test.YtppaklifacadpaaGreatDoorLval
import Derived.Lib.ItoaNum
import Derived.Lib.Atoi
import Derived.Lib.AtoiAll
namespace Go.Proofs.YtppaklifacadpaaGreatDoor
set_option linter.unusedVariables false
set_option linter.unusedSimpArgs false

/-- All are decimal digits. -/
def DigB (l : List UInt8) : Prop := ∀ b ∈ l, 48 ≤ b.toNat ∧ b.toNat ≤ 57
/-- The number that they spell. -/
def dvalB : List UInt8 → Nat
  | [] => 0
  | b :: r => (b.toNat - 48) * 10 ^ r.length + dvalB r

theorem dvalB_append (a b : List UInt8) : dvalB (a ++ b) = dvalB a * 10 ^ b.length + dvalB b := by
  induction a with
  | nil => simp [dvalB]
  | cons x r ih =>
    rw [List.cons_append, dvalB, ih, dvalB, List.length_append, Nat.pow_add, Nat.add_mul, Nat.mul_assoc, Nat.add_assoc]

theorem DigB.nil : DigB [] := fun b h => by simp at h
theorem DigB.append {a b : List UInt8} (h : DigB a) (k : DigB b) : DigB (a ++ b) := fun x hx => by
  rcases List.mem_append.1 hx with h1 | h1
  · exact h x h1
  · exact k x h1
theorem DigB.take {a : List UInt8} (h : DigB a) (k : Nat) : DigB (a.take k) := fun x hx => h x (List.mem_of_mem_take hx)
theorem DigB.drop {a : List UInt8} (h : DigB a) (k : Nat) : DigB (a.drop k) := fun x hx => h x (List.mem_of_mem_drop hx)
theorem DigB.tail {b : UInt8} {r : List UInt8} (h : DigB (b :: r)) : DigB r := fun x hx => h x (List.mem_cons_of_mem _ hx)

theorem dvalB_lt : ∀ (l : List UInt8), DigB l → dvalB l < 10 ^ l.length
  | [], _ => by simp [dvalB]
  | b :: r, h => by
    have h1 := dvalB_lt r h.tail
    have h2 := h b (by simp)
    rw [dvalB, List.length_cons, Nat.pow_succ]
    have h3 := Nat.mul_le_mul_right (10 ^ r.length) (show b.toNat - 48 ≤ 9 by omega)
    omega

theorem decFrom_dval : ∀ (l : List UInt8) (acc : Nat), DigB l → Lib.decFrom acc l = some (acc * 10 ^ l.length + dvalB l)
  | [], acc, _ => by simp [Lib.decFrom, dvalB]
  | b :: r, acc, h => by
    have h2 := h b (by simp)
    have hd : Lib.digitVal b = some (b.toNat - 48) := by unfold Lib.digitVal; rw [if_pos h2]
    rw [Lib.decFrom, hd]
    simp only []
    rw [decFrom_dval r _ h.tail, dvalB, List.length_cons, Nat.pow_succ, Nat.add_mul, Nat.mul_assoc, Nat.mul_comm 10, Nat.add_assoc]

theorem decNat_dval (l : List UInt8) (h : DigB l) (hne : l ≠ []) : Lib.decNat l = some (dvalB l) := by
  unfold Lib.decNat
  rw [if_neg (by simpa using hne), decFrom_dval l 0 h]
  simp

theorem atoi_dval (l : List UInt8) (h : DigB l) (hne : l ≠ []) : Lib.atoi l = some (dvalB l : Int) := by
  cases l with
  | nil => exact absurd rfl hne
  | cons b r =>
    have h2 := h b (by simp)
    have e1 : (b == 45) = false := by
      simp only [beq_eq_false_iff_ne, ne_eq]; rintro rfl; simp at h2
    have e2 : (b == 43) = false := by
      simp only [beq_eq_false_iff_ne, ne_eq]; rintro rfl; simp at h2
    rw [Lib.atoi, e1, e2]
    simp only [Bool.false_eq_true, if_false]
    rw [decNat_dval _ h hne]
    rfl

theorem byte48 (d : Nat) (h : d < 10) : (UInt8.ofNat (48 + d)).toNat = 48 + d := by
  rw [UInt8.toNat_ofNat']; omega

theorem decDigits_facts (u : Nat) : DigB (Lib.decDigits u) ∧ dvalB (Lib.decDigits u) = u := by
  induction u using Nat.strongRecOn with
  | ind u ih =>
    by_cases h : u < 10
    · rw [Lib.decDigits_one h]
      refine ⟨fun b hb => ?_, ?_⟩
      · have : b = UInt8.ofNat (48 + u) := by simpa using hb
        rw [this, byte48 _ h]; omega
      · simp only [dvalB, byte48 _ h]; simp
    · obtain ⟨i1, i2⟩ := ih (u / 10) (by omega)
      have hd : u % 10 < 10 := Nat.mod_lt _ (by omega)
      rw [Lib.decDigits, dif_neg h]
      refine ⟨i1.append (fun b hb => ?_), ?_⟩
      · have : b = UInt8.ofNat (48 + u % 10) := by simpa using hb
        rw [this, byte48 _ hd]; omega
      · rw [dvalB_append, i2]
        simp only [dvalB, byte48 _ hd, List.length_cons, List.length_nil]
        omega

/-- Down the text, four digits at a time: m are left, zs are found. -/
structure LimT (l : List UInt8) (m : Nat) (zs : List Int) : Prop where
  le : m ≤ l.length
  digs : Digs zs
  eq : (dvalB (l.take m) : Int) * 10000 ^ zs.length + lval zs = dvalB l
  len : 4 * zs.length ≤ l.length + 3
  left : m + 4 * zs.length ≤ l.length + (if m = 0 then 3 else 0)

theorem limT_start (l : List UInt8) : LimT l l.length [] := ⟨Nat.le_refl _, Digs.nil, by simp [lval], by simp, by simp⟩

theorem limT_step {l : List UInt8} {m : Nat} {zs : List Int} (h : LimT l m zs) (hd : DigB l) (hm : 0 < m) :
    LimT l (m - 4) (zs ++ [(dvalB ((l.take m).drop (m - 4)) : Int)]) ∧ dvalB ((l.take m).drop (m - 4)) < 10000 ∧ ((l.take m).drop (m - 4)).length = m - (m - 4) := by
  have hle := h.le
  have hl : ((l.take m).drop (m - 4)).length = m - (m - 4) := by rw [List.length_drop, List.length_take]; omega
  have hpd := (hd.take m).drop (m - 4)
  have hlt := dvalB_lt _ hpd
  rw [hl] at hlt
  have hp : 10 ^ (m - (m - 4)) ≤ 10 ^ 4 := Nat.pow_le_pow_right (by omega) (by omega)
  have hsp : dvalB (l.take m) = dvalB (l.take (m - 4)) * 10 ^ (m - (m - 4)) + dvalB ((l.take m).drop (m - 4)) := by
    have h1 := dvalB_append ((l.take m).take (m - 4)) ((l.take m).drop (m - 4))
    rw [List.take_append_drop, hl, List.take_take, Nat.min_eq_left (by omega)] at h1
    exact h1
  have hleft := h.left
  rw [if_neg (by omega)] at hleft
  generalize hv : dvalB ((l.take m).drop (m - 4)) = v at hlt hsp ⊢
  refine ⟨⟨by omega, h.digs.snoc (by omega) (by omega), ?_, by simp only [List.length_append, List.length_cons, List.length_nil]; omega, by simp only [List.length_append, List.length_cons, List.length_nil]; split <;> omega⟩, by omega, hl⟩
  rw [lval_snoc, List.length_append, List.length_cons, List.length_nil, Nat.zero_add, lpow_succ]
  have he := h.eq
  rw [hsp] at he
  rw [← he]
  by_cases h4 : 4 ≤ m
  · have e4 : m - (m - 4) = 4 := by omega
    rw [e4]
    simp only [Int.natCast_add, Int.natCast_mul, Int.add_mul]
    generalize (10000 : Int) ^ zs.length = P
    rw [Int.mul_assoc, Int.mul_comm (v : Int) P, Int.add_assoc]
    simp only [show ((10 ^ 4 : Nat) : Int) = 10000 by decide]
    omega
  · have e0 : m - 4 = 0 := by omega
    rw [e0, List.take_zero]
    simp only [dvalB, Int.natCast_add, Int.natCast_mul, Int.add_mul]
    simp
    rw [Int.mul_comm]; omega

theorem limT_end {l : List UInt8} {zs : List Int} (h : LimT l 0 zs) : lval zs = dvalB l := by
  have := h.eq
  simp [dvalB] at this
  exact this

theorem parse_dval : ∀ (l : List UInt8) (acc : Nat), DigB l → acc * 10 ^ l.length + dvalB l < 18446744073709551616 → Lib.parseUint10 acc l = .ok (acc * 10 ^ l.length + dvalB l)
  | [], acc, _, _ => by simp [Lib.parseUint10, dvalB]
  | b :: r, acc, h, hlt => by
    have h2 := h b (by simp)
    rw [dvalB, List.length_cons, Nat.pow_succ] at hlt ⊢
    have he : acc * (10 ^ r.length * 10) + ((b.toNat - 48) * 10 ^ r.length + dvalB r) = (acc * 10 + (b.toNat - 48)) * 10 ^ r.length + dvalB r := by
      rw [Nat.add_mul, Nat.mul_assoc, Nat.mul_comm 10, Nat.add_assoc]
    rw [he] at hlt ⊢
    have hp : 1 ≤ 10 ^ r.length := Nat.pos_of_ne_zero (by simp)
    have h3 := Nat.mul_le_mul_left (acc * 10 + (b.toNat - 48)) hp
    rw [Lib.parseUint10, if_pos h2, if_neg (by omega), if_neg (by omega)]
    exact parse_dval r _ h.tail hlt

theorem atoiAll_dval (l : List UInt8) (h : DigB l) (hne : l ≠ []) (hlt : dvalB l < 9223372036854775808) : Lib.atoiAll l = .ok (dvalB l : Int) := by
  cases l with
  | nil => exact absurd rfl hne
  | cons b r =>
    have h2 := h b (by simp)
    have hp : Lib.parseMag (b :: r) = .ok (dvalB (b :: r)) := by
      have := parse_dval (b :: r) 0 h (by omega)
      unfold Lib.parseMag
      rw [if_neg (by simp), this]
      simp
    unfold Lib.atoiAll
    simp only []
    rw [if_neg (by omega), hp]
    simp only []
    rw [if_neg (by omega), if_neg (by omega), if_neg (by omega)]

theorem decDigits_low (u : Nat) : Lib.decDigits u ≠ [] ∧ (0 < u → 10 ^ ((Lib.decDigits u).length - 1) ≤ u) := by
  induction u using Nat.strongRecOn with
  | ind u ih =>
    by_cases h : u < 10
    · rw [Lib.decDigits_one h]
      exact ⟨by simp, fun h0 => by simp; omega⟩
    · obtain ⟨i1, i2⟩ := ih (u / 10) (by omega)
      have i3 := i2 (by omega)
      rw [Lib.decDigits, dif_neg h]
      refine ⟨by simp, fun _ => ?_⟩
      have hl := List.length_pos_iff.2 i1
      rw [List.length_append, List.length_cons, List.length_nil, show (Lib.decDigits (u / 10)).length + (0 + 1) - 1 = ((Lib.decDigits (u / 10)).length - 1) + 1 by omega, Nat.pow_succ]
      omega
theorem decDigits_len4 (u : Nat) (h : u < 10000) : (Lib.decDigits u).length ≤ 4 := by
  by_cases h0 : 0 < u
  · have h1 := (decDigits_low u).2 h0
    apply Decidable.byContradiction; intro hx
    have := Nat.pow_le_pow_right (show 1 ≤ 10 by omega) (show 4 ≤ (Lib.decDigits u).length - 1 by omega)
    omega
  · rw [Lib.decDigits_one (by omega)]; simp

theorem dvalB_zeros (c : Nat) (l : List UInt8) : dvalB (List.replicate c 48 ++ l) = dvalB l := by
  induction c with
  | zero => rfl
  | succ c ih => rw [List.replicate_succ, List.cons_append, dvalB, ih]; simp
theorem DigB.zeros (c : Nat) : DigB (List.replicate c 48) := fun b hb => by
  rw [(List.mem_replicate.1 hb).2]; simp

/-- The text so far, from the top: limbs from k on. -/
structure DigT (zs : List Int) (k : Nat) (t : List UInt8) : Prop where
  digs : DigB t
  ne : t ≠ []
  eq : (dvalB t : Int) = lval (zs.drop k)
  low : 10 ^ (t.length - 1) ≤ dvalB t
  len : t.length + 4 * k ≤ 4 * zs.length

theorem digT_start (zs : List Int) (hc : Canon zs) (h0 : 0 < zs.length) : DigT zs (zs.length - 1) (Lib.decDigits (zs.getD (zs.length - 1) 0).toNat) := by
  have hd := hc.1 (zs.length - 1) (by omega)
  have hn := hc.2 h0
  generalize hx : zs.getD (zs.length - 1) 0 = x at hd hn ⊢
  obtain ⟨f1, f2⟩ := decDigits_facts x.toNat
  obtain ⟨f3, f4⟩ := decDigits_low x.toNat
  refine ⟨f1, f3, ?_, by rw [f2]; exact f4 (by omega), ?_⟩
  · rw [f2, lval_drop zs _ (by omega), hx, List.drop_of_length_le (by omega)]
    simp [lval]; omega
  · have := decDigits_len4 x.toNat (by omega)
    omega

theorem digT_step {zs : List Int} {k : Nat} {t : List UInt8} (h : DigT zs (k + 1) t) (hd : Digs zs) (hk : k < zs.length) (u : Nat) (hu : zs.getD k 0 = (u : Int)) :
    DigT zs k (t ++ (List.replicate (4 - (Lib.decDigits u).length) 48 ++ Lib.decDigits u)) := by
  have hdd := hd k hk
  have hu4 : u < 10000 := by omega
  have hl4 := decDigits_len4 u hu4
  obtain ⟨f1, f2⟩ := decDigits_facts u
  have hpl : (List.replicate (4 - (Lib.decDigits u).length) (48 : UInt8) ++ Lib.decDigits u).length = 4 := by
    rw [List.length_append, List.length_replicate]; omega
  have hlow := h.low
  have hne := List.length_pos_iff.2 h.ne
  refine ⟨h.digs.append ((DigB.zeros _).append f1), by simp [h.ne], ?_, ?_, ?_⟩
  · rw [dvalB_append, hpl, dvalB_zeros, f2, lval_drop zs k hk, ← h.eq, hu]
    omega
  · rw [dvalB_append, List.length_append, hpl, show t.length + 4 - 1 = (t.length - 1) + 4 by omega, Nat.pow_add]
    exact Nat.le_trans (Nat.mul_le_mul_right _ hlow) (Nat.le_add_right _ _)
  · rw [List.length_append, hpl]; have := h.len; omega

end Go.Proofs.YtppaklifacadpaaGreatDoor
