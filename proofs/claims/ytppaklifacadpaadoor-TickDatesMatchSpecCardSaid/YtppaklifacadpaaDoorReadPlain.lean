/- Facts for ReadDate of the program; its form. -/
import Derived.Test.YtppaklifacadpaaDoorForm
import Derived.Test.YtppaklifacadpaaDoorCal
import Derived.Test.YtppaklifacadpaaDoorDateForm
namespace Go.Proofs.YtppaklifacadpaaDoor
set_option linter.unusedVariables false
set_option linter.unusedSimpArgs false
open Go.RowKit

theorem fld_bd {l : List UInt8} (h : IsForm l) (a b : Nat) (hb : b ≤ 24) (hab : a ≤ b) (hn : b - a ≤ 4) (hd : DigB (fld l a b)) : dvalB (fld l a b) < 10 ^ (b - a) ∧ numV (fld l a b) = dvalB (fld l a b) := by
  have h1 := dvalB_lt _ hd
  rw [fld_len h a b hb hab] at h1
  have h2 := Nat.pow_le_pow_right (show 1 ≤ 10 by omega) hn
  exact ⟨h1, numV_small _ (by omega)⟩
theorem piece_fld (s : ByteArray) (l : List UInt8) (h : s.data.toList = l) (a b : Nat) : (s.extract a b).data.toList = fld l a b := by
  rw [ByteArray.data_extract, Array.toList_extract, h]
  simp only [List.extract_eq_take_drop]
  rfl
theorem number_dr (s : ByteArray) (N : Int) (w : World) (hl : s.size ≤ 1000000) (hd : DigB s.data.toList) (h : numV s.data.toList = N) :
    Calls Tryd.prog 47 #[.string s] w fun e w' => e = .returned (.int .i64 N) ∧ ∃ k, w' = w.drewN k := by
  refine (number_any s w hl hd).mono ?_
  rintro e w' ⟨rfl, rfl⟩
  exact ⟨by rw [h], 0, rfl⟩

/-- A field of the text: what its piece reads as. -/
structure Fld (s : ByteArray) (a b : Nat) (N : Int) : Prop where
  size : (s.extract a b).size ≤ 1000000
  dig : DigB (s.extract a b).data.toList
  val : numV (s.extract a b).data.toList = N
theorem fld_of {s : ByteArray} {l : List UInt8} (hl : s.data.toList = l) (h : IsForm l) (a b : Nat) (hb : b ≤ 24) (hab : a ≤ b) (hn : b - a ≤ 4) (hf : ∀ j, j < 24 → a ≤ j → j < b → formL.getD j 0 = 48) :
    Fld s a b (dvalB (fld l a b) : Int) ∧ dvalB (fld l a b) < 10 ^ (b - a) := by
  have hd := fld_dig h a b hf
  obtain ⟨h1, h2⟩ := fld_bd h a b hb hab hn hd
  have hp := piece_fld s l hl a b
  refine ⟨⟨by rw [ByteArray.size_extract]; omega, by rw [hp]; exact hd, by rw [hp]; exact h2⟩, h1⟩

theorem noForm24 (s : ByteArray) (w : World) (h : s.size ≠ 24) (hl : s.size ≤ 9223372036854775807) :
    Calls Tryd.prog 52 #[.string s] w fun e w' => e = .returned (.bool false) ∧ ∃ q, w' = w.drewN q := by
  have h' : ((s.size : Int) == 24) = false := by simp; omega
  have h2 : ((s.size : Int) != 24) = true := by simp; omega
  go_enter Tryd.func52, Tryd.ntmps52
  go_wp2_with fail
  go_ret
  exact ⟨rfl, 0, rfl⟩

theorem form_any (s : ByteArray) (w : World) (A : Prop) [Decidable A] (hl : s.size ≤ 9223372036854775807) (hA : A ↔ IsForm s.data.toList) :
    Calls Tryd.prog 52 #[.string s] w fun e w' => e = .returned (.bool (decide A)) ∧ ∃ q, w' = w.drewN q := by
  have hsz : s.size = s.data.toList.length := by rw [Array.length_toList]; rfl
  by_cases h : s.size = 24
  · refine (hasForm_any s w h).mono ?_
    rintro e w' ⟨rfl, hq⟩
    refine ⟨ret_bool (decide_eq_decide.2 ?_), hq⟩
    rw [hA]
    exact ⟨fun hx => ⟨by omega, hx⟩, fun hx => hx.2⟩
  · refine (noForm24 s w h hl).mono ?_
    rintro e w' ⟨rfl, hq⟩
    refine ⟨ret_bool ?_, hq⟩
    symm
    simp only [decide_eq_false_iff_not]
    rw [hA]
    exact fun hx => h (by rw [hsz]; exact hx.1)

end Go.Proofs.YtppaklifacadpaaDoor
