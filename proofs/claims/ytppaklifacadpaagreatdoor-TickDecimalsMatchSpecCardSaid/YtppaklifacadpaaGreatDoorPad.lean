/- Numbers with leading zeros, as the program writes them. -/
import Derived.Test.YtppaklifacadpaaGreatDoorDateForm
import Derived.Test.YtppaklifacadpaaGreatDoorDigits
namespace Go.Proofs.YtppaklifacadpaaGreatDoor
set_option linter.unusedVariables false
set_option linter.unusedSimpArgs false
open Go.RowKit

/-- A number with at least k digits. -/
def padB (x : Int) (k : Nat) : ByteArray := ⟨(padL x k).toArray⟩
theorem padB_list (x : Int) (k : Nat) : (padB x k).data.toList = padL x k := by simp [padB]
theorem padB_size (x : Int) (k : Nat) : (padB x k).size = (padL x k).length := by simp [padB, ByteArray.size]

theorem dec_len8 (u : Nat) (hu : u < 100000000) : (Lib.decDigits u).length ≤ 8 := by
  by_cases h0 : 0 < u
  · have h1 := (decDigits_low u).2 h0
    apply Decidable.byContradiction; intro hx
    have := Nat.pow_le_pow_right (show 1 ≤ 10 by omega) (show 8 ≤ (Lib.decDigits u).length - 1 by omega)
    omega
  · rw [Lib.decDigits_one (by omega)]; simp
theorem padL_len (x : Int) (k : Nat) (h0 : 0 ≤ x) (h1 : x < 100000000) (hk : k ≤ 8) : (padL x k).length ≤ 8 := by
  have := dec_len8 x.toNat (by omega)
  unfold padL
  rw [List.length_append, List.length_replicate]
  omega

set_option maxRecDepth 100000 in
set_option maxHeartbeats 1000000 in
theorem padded_any (x : Int) (k : Nat) (w : World) (htab : Tab w) (h0 : 0 ≤ x) (h1 : x < 100000000) (hk : k ≤ 8) :
    Calls Tryz.prog 16 #[.int .i64 x, .int .i64 k] w fun e w' => e = .returned (.string (padB x k)) ∧ Below w.heap.size w w' := by
  have HT := Lib.hid htab
  have hit : Lib.itoa x = Lib.decDigits x.toNat := by
    have := Lib.itoa_nonneg x.toNat
    rw [Int.toNat_of_nonneg h0] at this
    exact this
  have hl8 := dec_len8 x.toNat (by omega)
  obtain ⟨L, hL⟩ : ∃ L, Lib.decDigits x.toNat = L := ⟨_, rfl⟩
  have hp : padB x k = ⟨(List.replicate (k - L.length) 48 ++ L).toArray⟩ := by rw [padB, padL, hL]
  rw [hL] at hit hl8
  have HI := Lib.hid hit; have HP := Lib.hid hp
  obtain ⟨c, hc⟩ : ∃ c, k - L.length = c := ⟨_, rfl⟩
  have hmx : max ((k : Int) - (L.length : Int)) 0 = (c : Int) := by omega
  have HC := Lib.hid hc
  clear htab hit hL hp hc
  go_enter Tryz.func16, Tryz.ntmps16
  go_wp2_with fail
  refine (itoa_any x (by omega) (by omega) _ HT.out).mono ?_
  rintro e w1 ⟨rfl, b1⟩
  rw [HI.out]
  have B1 := Lib.hid b1
  clear b1
  go_wp2_with fail
  refine (Tryz.strings_Repeat ⟨#[48]⟩ c _ (by omega) (by have : (⟨#[48]⟩ : ByteArray).size = 1 := rfl; rw [this]; omega)).mono ?_
  rintro e w3 ⟨rfl, b3⟩
  have hrl : Lib.repeatL (⟨#[48]⟩ : ByteArray).data.toList c = List.replicate c 48 := repeatL_zero c
  rw [hrl]
  obtain ⟨Z, hZ⟩ : ∃ Z : ByteArray, (⟨(List.replicate c 48).toArray⟩ : ByteArray) = Z := ⟨_, rfl⟩
  obtain ⟨P, hP⟩ : ∃ P : ByteArray, (⟨L.toArray⟩ : ByteArray) = P := ⟨_, rfl⟩
  have hZs : Z.size = c := by rw [← hZ]; simp [ByteArray.size]
  have hPs : P.size = L.length := by rw [← hP]; simp [ByteArray.size]
  have hZl : (Z.size : Int) ≤ 8388608 := by have := HC.out; omega
  have hPl : (P.size : Int) ≤ 8388608 := by omega
  have hdat : Z ++ P = padB x k := by
    rw [HP.out, HC.out, ← hZ, ← hP]
    apply ByteArray.ext
    simp [ByteArray.data_append]
  rw [hZ, hP]
  have HDAT := Lib.hid hdat; have B3 := Lib.hid (B1.out.trans (b3.mono B1.out.size))
  clear hZ hP hZs hPs hdat b3 hrl
  go_wp2_with fail
  go_ret
  rw [HDAT.out]
  exact ⟨rfl, B3.out⟩


end Go.Proofs.YtppaklifacadpaaGreatDoor
