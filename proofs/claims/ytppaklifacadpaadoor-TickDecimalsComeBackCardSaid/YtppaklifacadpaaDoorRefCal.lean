/- The reference's calendar, and numbers with leading zeros of both. -/
import Derived.Test.YtppaklifacadpaaDoorDateForm
import Derived.Test.YtppaklifacadpaaDoorCal
import Derived.Test.YtppaklifacadpaaDoorDigits
namespace Go.Proofs.YtppaklifacadpaaDoor
set_option linter.unusedVariables false
set_option linter.unusedSimpArgs false
open Go.RowKit

theorem rleap_any (y : Int) (w : World) (h1 : 0 ≤ y) :
    Calls Tryd.prog 49 #[.int .i64 y] w fun e w' => e = .returned (.bool (leapB y)) ∧ w = w' := by
  have e1 : y.tmod 4 = y % 4 := Int.tmod_eq_emod_of_nonneg h1
  have e2 : y.tmod 100 = y % 100 := Int.tmod_eq_emod_of_nonneg h1
  have e3 : y.tmod 400 = y % 400 := Int.tmod_eq_emod_of_nonneg h1
  obtain ⟨a, ha⟩ : ∃ a, y % 4 = a := ⟨_, rfl⟩
  obtain ⟨b, hb⟩ : ∃ b, y % 100 = b := ⟨_, rfl⟩
  obtain ⟨c, hc⟩ : ∃ c, y % 400 = c := ⟨_, rfl⟩
  have hl : leapB y = ((a == 0 && !(b == 0)) || c == 0) := by unfold leapB; rw [ha, hb, hc]
  rw [ha] at e1; rw [hb] at e2; rw [hc] at e3
  have HL := Lib.hid hl
  clear ha hb hc hl
  by_cases a0 : a = 0
  · subst a0
    by_cases b0 : b = 0
    · subst b0
      go_enter Tryd.func49, Tryd.ntmps49
      go_wp2_with fail
      go_ret
      exact ⟨ret_bool (by rw [HL.out]; simp), rfl⟩
    · have b0' : (b == 0) = false := by simp [b0]
      go_enter Tryd.func49, Tryd.ntmps49
      go_wp2_with fail
      go_ret
      exact ⟨ret_bool (by rw [HL.out]; simp [b0']), rfl⟩
  · have a0' : (a == 0) = false := by simp [a0]
    go_enter Tryd.func49, Tryd.ntmps49
    go_wp2_with fail
    go_ret
    exact ⟨ret_bool (by rw [HL.out]; simp [a0']), rfl⟩

theorem rdays_any (y m : Int) (w : World) (h1 : 0 ≤ y) :
    Calls Tryd.prog 50 #[.int .i64 y, .int .i64 m] w fun e w' => e = .returned (.int .i64 (mD y m)) ∧ w = w' := by
  obtain ⟨m4, m6, m9, m11, m2⟩ := mD_30 y
  have M4 := Lib.hid m4; have M6 := Lib.hid m6; have M9 := Lib.hid m9; have M11 := Lib.hid m11; have M2 := Lib.hid m2
  clear m4 m6 m9 m11 m2
  rcases mon_cases m with rfl | rfl | rfl | rfl | rfl | h
  · have HS := Lib.hid (lB_step y)
    obtain ⟨L, hL⟩ : ∃ L, leapB y = L := ⟨_, rfl⟩
    have HL := Lib.hid hL
    clear hL
    go_enter Tryd.func50, Tryd.ntmps50
    go_wp2_with fail
    refine (rleap_any y _ h1).mono ?_; rintro e w' ⟨rfl, rfl⟩
    rw [HL.out]
    cases L
    · go_wp2_with fail
      go_ret
      exact ⟨ret_int (by rw [M2.out, HS.out, HL.out]; simp), rfl⟩
    · go_wp2_with fail
      go_ret
      exact ⟨ret_int (by rw [M2.out, HS.out, HL.out]; simp), rfl⟩
  · go_enter Tryd.func50, Tryd.ntmps50
    go_wp2_with fail
    go_ret
    exact ⟨ret_int M4.out.symm, rfl⟩
  · go_enter Tryd.func50, Tryd.ntmps50
    go_wp2_with fail
    go_ret
    exact ⟨ret_int M6.out.symm, rfl⟩
  · go_enter Tryd.func50, Tryd.ntmps50
    go_wp2_with fail
    go_ret
    exact ⟨ret_int M9.out.symm, rfl⟩
  · go_enter Tryd.func50, Tryd.ntmps50
    go_wp2_with fail
    go_ret
    exact ⟨ret_int M11.out.symm, rfl⟩
  · have M31 := Lib.hid (mD_31 y m h)
    obtain ⟨e2, e4, e6, e9, e11⟩ := h
    go_enter Tryd.func50, Tryd.ntmps50
    go_wp2_with fail
    go_ret
    exact ⟨ret_int M31.out.symm, rfl⟩

/-- A number with at least k digits. -/
def padB (x : Int) (k : Nat) : ByteArray := ⟨(padL x k).toArray⟩
theorem padB_list (x : Int) (k : Nat) : (padB x k).data.toList = padL x k := by simp [padB]
theorem padB_size (x : Int) (k : Nat) : (padB x k).size = (padL x k).length := by simp [padB, ByteArray.size]

theorem dec_len8 (u : Nat) (hu : u < 100000000) : (Lib.decDigits u).length ≤ 8 := by
  by_cases h0 : 0 < u
  · have h1 := (decDigits_low u).2 h0
    apply Decidable.byContradiction; intro hx
    have := Nat.pow_le_pow_right (show 1 ≤ 10 by omega) (show 8 ≤ (Lib.decDigits u).length - 1 by omega)
    omega
  · rw [Lib.decDigits_one (by omega)]; simp
theorem padL_len (x : Int) (k : Nat) (h0 : 0 ≤ x) (h1 : x < 100000000) (hk : k ≤ 8) : (padL x k).length ≤ 8 := by
  have := dec_len8 x.toNat (by omega)
  unfold padL
  rw [List.length_append, List.length_replicate]
  omega

set_option maxRecDepth 100000 in
set_option maxHeartbeats 1000000 in
theorem padded_any (x : Int) (k : Nat) (w : World) (htab : Tab w) (h0 : 0 ≤ x) (h1 : x < 100000000) (hk : k ≤ 8) :
    Calls Tryd.prog 40 #[.int .i64 x, .int .i64 k] w fun e w' => e = .returned (.string (padB x k)) ∧ Below w.heap.size w w' := by
  have HT := Lib.hid htab
  have hit : Lib.itoa x = Lib.decDigits x.toNat := by
    have := Lib.itoa_nonneg x.toNat
    rw [Int.toNat_of_nonneg h0] at this
    exact this
  have hl8 := dec_len8 x.toNat (by omega)
  obtain ⟨L, hL⟩ : ∃ L, Lib.decDigits x.toNat = L := ⟨_, rfl⟩
  have hp : padB x k = ⟨(List.replicate (k - L.length) 48 ++ L).toArray⟩ := by rw [padB, padL, hL]
  rw [hL] at hit hl8
  have HI := Lib.hid hit; have HP := Lib.hid hp
  obtain ⟨c, hc⟩ : ∃ c, k - L.length = c := ⟨_, rfl⟩
  have hmx : max ((k : Int) - (L.length : Int)) 0 = (c : Int) := by omega
  have HC := Lib.hid hc
  clear htab hit hL hp hc
  go_enter Tryd.func40, Tryd.ntmps40
  go_wp2_with fail
  refine (itoa_any x (by omega) (by omega) _ HT.out).mono ?_
  rintro e w1 ⟨rfl, b1⟩
  rw [HI.out]
  have B1 := Lib.hid b1
  clear b1
  go_wp2_with fail
  refine (Tryd.strings_Repeat ⟨#[48]⟩ c _ (by omega) (by have : (⟨#[48]⟩ : ByteArray).size = 1 := rfl; rw [this]; omega)).mono ?_
  rintro e w3 ⟨rfl, b3⟩
  have hrl : Lib.repeatL (⟨#[48]⟩ : ByteArray).data.toList c = List.replicate c 48 := repeatL_zero c
  rw [hrl]
  obtain ⟨Z, hZ⟩ : ∃ Z : ByteArray, (⟨(List.replicate c 48).toArray⟩ : ByteArray) = Z := ⟨_, rfl⟩
  obtain ⟨P, hP⟩ : ∃ P : ByteArray, (⟨L.toArray⟩ : ByteArray) = P := ⟨_, rfl⟩
  have hZs : Z.size = c := by rw [← hZ]; simp [ByteArray.size]
  have hPs : P.size = L.length := by rw [← hP]; simp [ByteArray.size]
  have hZl : (Z.size : Int) ≤ 8388608 := by have := HC.out; omega
  have hPl : (P.size : Int) ≤ 8388608 := by omega
  have hdat : Z ++ P = padB x k := by
    rw [HP.out, HC.out, ← hZ, ← hP]
    apply ByteArray.ext
    simp [ByteArray.data_append]
  rw [hZ, hP]
  have HDAT := Lib.hid hdat; have B3 := Lib.hid (B1.out.trans (b3.mono B1.out.size))
  clear hZ hP hZs hPs hdat b3 hrl
  go_wp2_with fail
  go_ret
  rw [HDAT.out]
  exact ⟨rfl, B3.out⟩

theorem rep_more (c : Nat) (L : List UInt8) : (⟨#[48]⟩ : ByteArray) ++ ⟨(List.replicate c 48 ++ L).toArray⟩ = ⟨(List.replicate (c + 1) 48 ++ L).toArray⟩ := by
  apply ByteArray.ext
  simp [ByteArray.data_append, List.replicate_succ]

set_option maxRecDepth 100000 in
set_option maxHeartbeats 1000000 in
theorem rpadded_any (x : Int) (k : Nat) (w : World) (htab : Tab w) (h0 : 0 ≤ x) (h1 : x < 100000000) (hk : k ≤ 8) :
    Calls Tryd.prog 51 #[.int .i64 x, .int .i64 k] w fun e w' => e = .returned (.string (padB x k)) ∧ Below w.heap.size w w' := by
  have HT := Lib.hid htab
  have hit : Lib.itoa x = Lib.decDigits x.toNat := by
    have := Lib.itoa_nonneg x.toNat
    rw [Int.toNat_of_nonneg h0] at this
    exact this
  have hl8 := dec_len8 x.toNat (by omega)
  obtain ⟨L, hL⟩ : ∃ L, Lib.decDigits x.toNat = L := ⟨_, rfl⟩
  have hp : padB x k = ⟨(List.replicate (k - L.length) 48 ++ L).toArray⟩ := by rw [padB, padL, hL]
  rw [hL] at hit hl8
  have HI := Lib.hid hit; have HP := Lib.hid hp
  clear htab hit hL hp
  go_enter Tryd.func51, Tryd.ntmps51
  go_wp2_with fail
  refine (itoa_any x (by omega) (by omega) _ HT.out).mono ?_
  rintro e w1 ⟨rfl, b1⟩
  rw [HI.out]
  have B1 := Lib.hid b1
  clear b1
  have hstart : (⟨L.toArray⟩ : ByteArray) = ⟨(List.replicate 0 48 ++ L).toArray⟩ := by simp
  rw [hstart]
  clear hstart
  go_wp2_with fail
  go_loopg [5] (k - L.length) (fun m p wr => ∃ (S : ByteArray) (j : Nat), p = .string S ∧ Hid (S = ⟨(List.replicate j 48 ++ L).toArray⟩) ∧ j ≤ k - L.length ∧ Hid (m = k - L.length - j) ∧ S.size = j + L.length ∧ w1 = wr)
  case atStart => exact ⟨_, 0, rfl, Lib.hid rfl, Nat.zero_le _, Lib.hid (by omega), by simp [ByteArray.size], rfl⟩
  case round =>
    obtain ⟨S, j, rfl, HS, hj, HM, hSz, rfl⟩ := hrel
    by_cases hlt : S.size < k
    · have hSl : (S.size : Int) ≤ 8388608 := by omega
      have hcl : ((⟨#[48]⟩ : ByteArray).size : Int) ≤ 8388608 := by decide
      have hnew : (⟨#[48]⟩ : ByteArray) ++ S = ⟨(List.replicate (j + 1) 48 ++ L).toArray⟩ := by rw [HS.out, rep_more]
      have HNEW := Lib.hid hnew
      have hsz2 : ((⟨#[48]⟩ : ByteArray) ++ S).size = j + 1 + L.length := by
        rw [ByteArray.size_append, hSz]
        show 1 + (j + L.length) = _
        omega
      have HS2 := Lib.hid hsz2
      have hjk : j + 1 ≤ k - L.length := by omega
      clear hnew hsz2
      go_wp2_with fail
      go_roundg (k - L.length - (j + 1))
      case measure => have := HM.out; omega
      case rel => exact ⟨_, j + 1, rfl, HNEW, hjk, Lib.hid rfl, HS2.out, rfl⟩
    · have hlt' : decide (S.size < k) = false := by simp only [decide_eq_false_iff_not]; exact hlt
      have hjj : j = k - L.length := by omega
      have hfin : padB x k = S := by rw [HP.out, HS.out, hjj]
      have HFIN := Lib.hid hfin
      clear hfin hlt
      go_wp2_with fail
      go_ret
      rw [HFIN.out]
      exact ⟨rfl, B1.out⟩

end Go.Proofs.YtppaklifacadpaaDoor
