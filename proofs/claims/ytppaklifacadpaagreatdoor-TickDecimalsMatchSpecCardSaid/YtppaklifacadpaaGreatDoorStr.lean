/- Plain facts on strings of bytes. No program in it. -/
import Derived.Test.YtppaklifacadpaaGreatDoorLval
namespace Go.Proofs.YtppaklifacadpaaGreatDoor
set_option linter.unusedVariables false
set_option linter.unusedSimpArgs false

theorem cat_list (a b : ByteArray) : (a ++ b).data.toList = a.data.toList ++ b.data.toList := by simp [ByteArray.data_append]
theorem cat_size (a b : ByteArray) (n m : Nat) (h : a.size ≤ n) (k : b.size ≤ m) (hs : n + m ≤ 8000000) : (a ++ b).size ≤ n + m ∧ ((a ++ b).size : Int) ≤ 8388608 := by
  rw [ByteArray.size_append]
  omega
theorem same_text (a b : ByteArray) (h : a.data.toList = b.data.toList) : a = b := by
  apply ByteArray.ext
  exact Array.toList_inj.1 h

theorem less_eq : ∀ (x y : List UInt8), Op.bytesLess x y = decide (x < y)
  | [], [] => by simp [Op.bytesLess]
  | _ :: _, [] => by simp [Op.bytesLess]
  | [], _ :: _ => by simp [Op.bytesLess]
  | a :: x, b :: y => by
    rw [Op.bytesLess, less_eq x y, Bool.eq_iff_iff]
    simp only [Bool.or_eq_true, Bool.and_eq_true, decide_eq_true_eq, beq_iff_eq, List.cons_lt_cons_iff]
theorem size_list (s : ByteArray) (l : List UInt8) (h : s.data.toList = l) : s.size = l.length := by rw [← h, Array.length_toList]; rfl
theorem sub_from (s : ByteArray) (l : List UInt8) (hl : s.data.toList = l) (k : Nat) : (s.extract k s.size).data.toList = l.drop k := by
  rw [ByteArray.data_extract, Array.toList_extract, hl]
  simp only [List.extract_eq_take_drop]
  rw [List.take_of_length_le]
  rw [List.length_drop, size_list s l hl]; omega
theorem sub_upto (s : ByteArray) (l : List UInt8) (hl : s.data.toList = l) (k : Nat) : (s.extract 0 k).data.toList = l.take k := by
  rw [ByteArray.data_extract, Array.toList_extract, hl]
  simp only [List.extract_eq_take_drop, List.drop_zero, Nat.sub_zero]

end Go.Proofs.YtppaklifacadpaaGreatDoor
