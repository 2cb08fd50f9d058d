/- Plain facts on reading a date byte by byte: the fields so far. No program in it. -/
import Derived.Test.YtppaklifacadpaaDoorDateForm
namespace Go.Proofs.YtppaklifacadpaaDoor
set_option linter.unusedVariables false
set_option linter.unusedSimpArgs false

def fieldsD : List (Nat × Nat) := [(0, 4), (5, 7), (8, 10), (11, 13), (14, 16), (17, 19), (20, 23)]
/-- Where the field begins that the byte belongs to. -/
def stA (k : Nat) : Nat := if k < 5 then 0 else if k < 8 then 5 else if k < 11 then 8 else if k < 14 then 11 else if k < 17 then 14 else if k < 20 then 17 else if k < 24 then 20 else 24
/-- The fields that end before a byte. -/
def numsA (l : List UInt8) (k : Nat) : List Int := (fieldsD.filter fun f => decide (f.2 < k)).map fun f => (dvalB (fld l f.1 f.2) : Int)

theorem scan_digit : ∀ k, k < 24 → formL.getD k 0 = 48 → stA (k + 1) = stA k ∧ stA k ≤ k ∧ (fieldsD.filter fun f => decide (f.2 < k + 1)) = (fieldsD.filter fun f => decide (f.2 < k)) := by decide
theorem scan_sep : ∀ k, k < 24 → formL.getD k 0 ≠ 48 → stA (k + 1) = k + 1 ∧ stA k < k ∧ k ≤ stA k + 4 ∧ (fieldsD.filter fun f => decide (f.2 < k + 1)) = (fieldsD.filter fun f => decide (f.2 < k)) ++ [(stA k, k)] := by decide
theorem scan_gap : ∀ k, k < 24 → formL.getD k 0 ≠ 48 → ∀ j, j < 24 → stA k ≤ j → j < k → formL.getD j 0 = 48 := by decide
theorem scan_len : ∀ k, k ≤ 24 → (fieldsD.filter fun f => decide (f.2 < k)).length ≤ 7 := by decide

theorem nums_digit (l : List UInt8) (k : Nat) (hk : k < 24) (h : formL.getD k 0 = 48) : numsA l (k + 1) = numsA l k := by
  unfold numsA; rw [(scan_digit k hk h).2.2]
theorem nums_sep (l : List UInt8) (k : Nat) (hk : k < 24) (h : formL.getD k 0 ≠ 48) : numsA l (k + 1) = numsA l k ++ [(dvalB (fld l (stA k) k) : Int)] := by
  unfold numsA; rw [(scan_sep k hk h).2.2.2]; simp
theorem nums_len (l : List UInt8) (k : Nat) (hk : k ≤ 24) : (numsA l k).length ≤ 7 := by
  unfold numsA; rw [List.length_map]; exact scan_len k hk
theorem nums_all (l : List UInt8) : numsA l 24 = [(dvalB (fld l 0 4) : Int), dvalB (fld l 5 7), dvalB (fld l 8 10), dvalB (fld l 11 13), dvalB (fld l 14 16), dvalB (fld l 17 19), dvalB (fld l 20 23)] := rfl
theorem nums_none (l : List UInt8) : numsA l 0 = [] := rfl

theorem fld_more (l : List UInt8) (a k : Nat) (h : a ≤ k) (hk : k < l.length) : fld l a (k + 1) = fld l a k ++ [l[k]] := by
  unfold fld
  rw [show k + 1 - a = (k - a) + 1 by omega]
  have hd : k - a < (l.drop a).length := by rw [List.length_drop]; omega
  rw [List.take_succ_eq_append_getElem hd]
  congr 1
  simp [show a + (k - a) = k by omega]
theorem fld_none (l : List UInt8) (a : Nat) : fld l a a = [] := by simp [fld]
theorem fld_size (l : List UInt8) (a b : Nat) : (fld l a b).length ≤ b - a := by
  unfold fld; rw [List.length_take]; omega
/-- The bytes of a field that fit so far are digits. -/
theorem fld_dig_upto {l : List UInt8} {k : Nat} (hl : l.length = 24) (h : ∀ j (h : j < l.length), j < k → fitB (formL.getD j 0).toNat l[j].toNat = true) (a : Nat) (hk : k ≤ 24) (hf : ∀ j, j < 24 → a ≤ j → j < k → formL.getD j 0 = 48) : DigB (fld l a k) := by
  intro x hx
  obtain ⟨j, hj, rfl⟩ := List.mem_iff_getElem.1 hx
  have hj2 : j < k - a ∧ a + j < l.length := by
    unfold fld at hj
    rw [List.length_take, List.length_drop] at hj
    omega
  have e : (fld l a k)[j] = l[a + j]'hj2.2 := by simp [fld]
  rw [e]
  have h1 := h (a + j) hj2.2 (by omega)
  rw [hf (a + j) (by omega) (by omega) (by omega)] at h1
  simp [fitB] at h1
  exact h1

end Go.Proofs.YtppaklifacadpaaDoor
