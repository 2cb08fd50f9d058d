/- Decimal of the program. -/
import Derived.Test.YtppaklifacadpaaGreatDoorDecText
namespace Go.Proofs.YtppaklifacadpaaGreatDoor
set_option linter.unusedVariables false
set_option linter.unusedSimpArgs false
open Go.RowKit

theorem dec_len16 (u : Nat) (hu : u < 10000000000000000) : (Lib.decDigits u).length ≤ 16 := by
  by_cases h0 : 0 < u
  · have h1 := (decDigits_low u).2 h0
    apply Decidable.byContradiction; intro hx
    have := Nat.pow_le_pow_right (show 1 ≤ 10 by omega) (show 16 ≤ (Lib.decDigits u).length - 1 by omega)
    omega
  · rw [Lib.decDigits_one (by omega)]; simp
theorem padL_len16 (x : Int) (k : Nat) (h0 : 0 ≤ x) (h1 : x < 10000000000000000) (hk : k ≤ 9) : (padL x k).length ≤ 16 := by
  have := dec_len16 x.toNat (by omega)
  unfold padL
  rw [List.length_append, List.length_replicate]
  omega

set_option maxRecDepth 100000 in
set_option maxHeartbeats 1000000 in
theorem padded_big (x : Int) (k : Nat) (w : World) (htab : Tab w) (h0 : 0 ≤ x) (h1 : x < 10000000000000000) (hk : k ≤ 9) :
    Calls Tryz.prog 16 #[.int .i64 x, .int .i64 k] w fun e w' => e = .returned (.string (padB x k)) ∧ Below w.heap.size w w' := by
  have HT := Lib.hid htab
  have hit : Lib.itoa x = Lib.decDigits x.toNat := by
    have := Lib.itoa_nonneg x.toNat
    rw [Int.toNat_of_nonneg h0] at this
    exact this
  have hl8 := dec_len16 x.toNat (by omega)
  obtain ⟨L, hL⟩ : ∃ L, Lib.decDigits x.toNat = L := ⟨_, rfl⟩
  have hp : padB x k = ⟨(List.replicate (k - L.length) 48 ++ L).toArray⟩ := by rw [padB, padL, hL]
  rw [hL] at hit hl8
  have HI := Lib.hid hit; have HP := Lib.hid hp
  obtain ⟨c, hc⟩ : ∃ c, k - L.length = c := ⟨_, rfl⟩
  have hmx : max ((k : Int) - (L.length : Int)) 0 = (c : Int) := by omega
  have HC := Lib.hid hc
  clear htab hit hL hp hc
  go_enter Tryz.func16, Tryz.ntmps16
  go_wp2_with fail
  refine (itoa_any x (by omega) (by omega) _ HT.out).mono ?_
  rintro e w1 ⟨rfl, b1⟩
  rw [HI.out]
  have B1 := Lib.hid b1
  clear b1
  go_wp2_with fail
  refine (Tryz.strings_Repeat ⟨#[48]⟩ c _ (by omega) (by have : (⟨#[48]⟩ : ByteArray).size = 1 := rfl; rw [this]; omega)).mono ?_
  rintro e w3 ⟨rfl, b3⟩
  have hrl : Lib.repeatL (⟨#[48]⟩ : ByteArray).data.toList c = List.replicate c 48 := repeatL_zero c
  rw [hrl]
  obtain ⟨Z, hZ⟩ : ∃ Z : ByteArray, (⟨(List.replicate c 48).toArray⟩ : ByteArray) = Z := ⟨_, rfl⟩
  obtain ⟨P, hP⟩ : ∃ P : ByteArray, (⟨L.toArray⟩ : ByteArray) = P := ⟨_, rfl⟩
  have hZs : Z.size = c := by rw [← hZ]; simp [ByteArray.size]
  have hPs : P.size = L.length := by rw [← hP]; simp [ByteArray.size]
  have hZl : (Z.size : Int) ≤ 8388608 := by have := HC.out; omega
  have hPl : (P.size : Int) ≤ 8388608 := by omega
  have hdat : Z ++ P = padB x k := by
    rw [HP.out, HC.out, ← hZ, ← hP]
    apply ByteArray.ext
    simp [ByteArray.data_append]
  rw [hZ, hP]
  have HDAT := Lib.hid hdat; have B3 := Lib.hid (B1.out.trans (b3.mono B1.out.size))
  clear hZ hP hZs hPs hdat b3 hrl
  go_wp2_with fail
  go_ret
  rw [HDAT.out]
  exact ⟨rfl, B3.out⟩

/-- The text of a decimal: a sign, the whole part, k places. -/
def decOf (neg : Bool) (W P : Int) (k : Nat) : List UInt8 := (if neg then [45] else []) ++ (Lib.decDigits W.toNat ++ if 0 < k then 46 :: padL P k else [])

theorem itoaB (W : Int) (h0 : 0 ≤ W) (h1 : W < 10000000000000000) : ∃ A : ByteArray, (⟨(Lib.itoa W).toArray⟩ : ByteArray) = A ∧ A.data.toList = Lib.decDigits W.toNat ∧ A.size ≤ 16 := by
  have hit : Lib.itoa W = Lib.decDigits W.toNat := by
    have := Lib.itoa_nonneg W.toNat
    rw [Int.toNat_of_nonneg h0] at this
    exact this
  refine ⟨_, rfl, by rw [hit], ?_⟩
  rw [hit]
  have := dec_len16 W.toNat (by omega)
  simpa [ByteArray.size] using this

/-- The part of a second, as so many units. -/
theorem part_bd {r s U : Int} (h0 : 0 ≤ r) (h1 : r < s) (hU : 1 ≤ U) (hU2 : U ≤ 1000000000) : 0 ≤ portQ r U s 2 ∧ portQ r U s 2 ≤ U := by
  have ha : (r.natAbs : Int) = r := by omega
  have hm : r * U ≤ (s - 1) * U := Int.mul_le_mul_of_nonneg_right (by omega) (by omega)
  have hp : 0 ≤ r * U := Int.mul_nonneg h0 (by omega)
  have hq0 : 0 ≤ r * U / s := Int.ediv_nonneg hp (by omega)
  have hq1 : r * U / s < U := by
    rw [Int.ediv_lt_iff_lt_mul (by omega)]
    rw [Int.sub_mul] at hm
    rw [Int.mul_comm U s]
    omega
  unfold portQ
  simp only [ha]
  rw [if_neg (by omega), if_neg (by omega)]
  split <;> omega


set_option maxRecDepth 100000 in
set_option maxHeartbeats 4000000 in
theorem dec_00a (n s U W a : Int) (P : Int) (k : Nat) (w : World) (htab : Tab w) (ht : isTimeN n) (hs : isScaleN s) (ha : (n.natAbs : Int) = a) (hU : ((10 ^ k : Nat) : Int) = U) (hk : k = 0) (hc : portQ (a % s) U s 2 = P) (hcU : P ≠ U) (hW : a / s = W) (hn : 0 ≤ n) :
    Calls Tryz.prog 4 #[.int .i64 n, .int .i64 s, .int .i64 k] w fun e w' => (∃ S, e = .returned (.tuple #[.string S, .int .i64 0]) ∧ S.data.toList = decOf false W P k) ∧ Below w.heap.size w w' := by
  subst hk
  have hk9 : 0 ≤ 9 := by omega
  obtain rfl : U = 1 := by rw [← hU]; rfl
  have hUb := pow9 0 hk9
  rw [hU] at hUb
  obtain ⟨U0, U1⟩ := hUb
  have hTT := ht; have hSS := hs
  obtain ⟨s0, s1⟩ := hs
  obtain ⟨t0, t1⟩ := ht
  have a0 : 0 ≤ a := by omega
  have a1 : a ≤ 1000000000000000 := by omega
  have q0 : 0 ≤ a / s := Int.ediv_nonneg a0 (by omega)
  have q1 : a / s ≤ a := Int.ediv_le_self _ a0
  have r0 : 0 ≤ a % s := Int.emod_nonneg _ (by omega)
  have r1 : a % s < s := Int.emod_lt_of_pos _ (by omega)
  have hpb := part_bd r0 r1 U0 U1
  have e1 : a.tdiv s = a / s := Int.tdiv_eq_ediv_of_nonneg a0
  have e2 : a.tmod s = a % s := Int.tmod_eq_emod_of_nonneg a0
  obtain ⟨q, hq⟩ : ∃ q, a / s = q := ⟨_, rfl⟩
  obtain ⟨r, hr⟩ : ∃ r, a % s = r := ⟨_, rfl⟩
  rw [hq] at e1 q0 q1 hW
  rw [hr] at e2 r0 r1 hpb hc
  rw [hc] at hpb
  obtain ⟨p0, p1⟩ := hpb
  have sne : (s == 0) = false := by simp; omega
  have HT := Lib.hid htab; have HTT := Lib.hid hTT; have HSS := Lib.hid hSS; have HA := Lib.hid ha; have HU := Lib.hid hU; have HC := Lib.hid hc; have HQ := Lib.hid hq; have HR := Lib.hid hr
  clear htab hTT hSS hU hc hq hr
  subst hW
  have hW0 : 0 ≤ q := q0
  have hW1 : q < 10000000000000000 := by omega
  have hUU : (P == 1) = false := by simp; exact hcU
  have hnn : decide (n < 0) = false := by simp only [decide_eq_false_iff_not]; omega
  obtain ⟨A, hA, hAl, hAs⟩ := itoaB q hW0 hW1
  have hAi : (A.size : Int) ≤ 8388608 := by omega
  have HAA := Lib.hid hA; have HAL := Lib.hid hAl
  clear hA hAl
  have k45 : ((⟨#[45]⟩ : ByteArray).size : Int) ≤ 8388608 := by decide
  go_enter Tryz.func4, Tryz.ntmps4
  go_wp2_with fail
  refine (isTime_yes _ _ HTT.out).mono ?_; rintro e w' ⟨rfl, rfl⟩
  go_wp2_with fail
  refine (isScale_yes _ _ HSS.out).mono ?_; rintro e w' ⟨rfl, rfl⟩
  go_wp2_with fail
  refine (within_yes _ _ _ _ (by omega) (by omega)).mono ?_; rintro e w' ⟨rfl, rfl⟩
  go_wp2_with fail
  refine (power_any 0 _ hk9).mono ?_; rintro e w' ⟨rfl, rfl⟩
  rw [HU.out]
  go_wp2_with fail
  refine (size_any _ _ (by omega) (by omega)).mono ?_; rintro e w' ⟨rfl, rfl⟩
  rw [HA.out]
  go_wp2_with fail
  refine (size_any _ _ (by omega) (by omega)).mono ?_; rintro e w' ⟨rfl, rfl⟩
  rw [HA.out]
  go_wp2_with fail
  refine (portion_any _ _ _ _ _ (by omega) (by omega) (by omega) (by omega) (by omega) (by omega)).mono ?_; rintro e w2 ⟨rfl, q2, hw2⟩
  rw [HC.out]
  have B2 : Hid (Below w.heap.size w w2) := Lib.hid (by rw [hw2]; exact below_drewN (Below.refl _ _) _)
  clear hw2
  go_wp2_with fail
  refine (itoa_any _ (by omega) (by omega) _ (HT.out.below B2.out (Nat.le_refl _))).mono ?_; rintro e w3 ⟨rfl, b3⟩
  rw [HAA.out]
  have B3 := Lib.hid (B2.out.trans (b3.mono B2.out.size))
  clear b3
  go_wp2_with fail
  go_ret2
  refine ⟨⟨_, rfl, ?_⟩, B3.out⟩
  simp [cat_list, HAL.out, decOf]

set_option maxRecDepth 100000 in
set_option maxHeartbeats 4000000 in
theorem dec_00b (n s U W a : Int) (P : Int) (k : Nat) (w : World) (htab : Tab w) (ht : isTimeN n) (hs : isScaleN s) (ha : (n.natAbs : Int) = a) (hU : ((10 ^ k : Nat) : Int) = U) (hk : k = 0) (hc : portQ (a % s) U s 2 = P) (hcU : P ≠ U) (hW : a / s = W) (hn : n < 0) (hw : 0 < W) :
    Calls Tryz.prog 4 #[.int .i64 n, .int .i64 s, .int .i64 k] w fun e w' => (∃ S, e = .returned (.tuple #[.string S, .int .i64 0]) ∧ S.data.toList = decOf true W P k) ∧ Below w.heap.size w w' := by
  subst hk
  have hk9 : 0 ≤ 9 := by omega
  obtain rfl : U = 1 := by rw [← hU]; rfl
  have hUb := pow9 0 hk9
  rw [hU] at hUb
  obtain ⟨U0, U1⟩ := hUb
  have hTT := ht; have hSS := hs
  obtain ⟨s0, s1⟩ := hs
  obtain ⟨t0, t1⟩ := ht
  have a0 : 0 ≤ a := by omega
  have a1 : a ≤ 1000000000000000 := by omega
  have q0 : 0 ≤ a / s := Int.ediv_nonneg a0 (by omega)
  have q1 : a / s ≤ a := Int.ediv_le_self _ a0
  have r0 : 0 ≤ a % s := Int.emod_nonneg _ (by omega)
  have r1 : a % s < s := Int.emod_lt_of_pos _ (by omega)
  have hpb := part_bd r0 r1 U0 U1
  have e1 : a.tdiv s = a / s := Int.tdiv_eq_ediv_of_nonneg a0
  have e2 : a.tmod s = a % s := Int.tmod_eq_emod_of_nonneg a0
  obtain ⟨q, hq⟩ : ∃ q, a / s = q := ⟨_, rfl⟩
  obtain ⟨r, hr⟩ : ∃ r, a % s = r := ⟨_, rfl⟩
  rw [hq] at e1 q0 q1 hW
  rw [hr] at e2 r0 r1 hpb hc
  rw [hc] at hpb
  obtain ⟨p0, p1⟩ := hpb
  have sne : (s == 0) = false := by simp; omega
  have HT := Lib.hid htab; have HTT := Lib.hid hTT; have HSS := Lib.hid hSS; have HA := Lib.hid ha; have HU := Lib.hid hU; have HC := Lib.hid hc; have HQ := Lib.hid hq; have HR := Lib.hid hr
  clear htab hTT hSS hU hc hq hr
  subst hW
  have hW0 : 0 ≤ q := q0
  have hW1 : q < 10000000000000000 := by omega
  have hUU : (P == 1) = false := by simp; exact hcU
  have hnn : decide (n < 0) = true := by simp only [decide_eq_true_eq]; exact hn
  have hww : decide (0 < q) = true := by simp only [decide_eq_true_eq]; exact hw
  obtain ⟨A, hA, hAl, hAs⟩ := itoaB q hW0 hW1
  have hAi : (A.size : Int) ≤ 8388608 := by omega
  have HAA := Lib.hid hA; have HAL := Lib.hid hAl
  clear hA hAl
  have k45 : ((⟨#[45]⟩ : ByteArray).size : Int) ≤ 8388608 := by decide
  go_enter Tryz.func4, Tryz.ntmps4
  go_wp2_with fail
  refine (isTime_yes _ _ HTT.out).mono ?_; rintro e w' ⟨rfl, rfl⟩
  go_wp2_with fail
  refine (isScale_yes _ _ HSS.out).mono ?_; rintro e w' ⟨rfl, rfl⟩
  go_wp2_with fail
  refine (within_yes _ _ _ _ (by omega) (by omega)).mono ?_; rintro e w' ⟨rfl, rfl⟩
  go_wp2_with fail
  refine (power_any 0 _ hk9).mono ?_; rintro e w' ⟨rfl, rfl⟩
  rw [HU.out]
  go_wp2_with fail
  refine (size_any _ _ (by omega) (by omega)).mono ?_; rintro e w' ⟨rfl, rfl⟩
  rw [HA.out]
  go_wp2_with fail
  refine (size_any _ _ (by omega) (by omega)).mono ?_; rintro e w' ⟨rfl, rfl⟩
  rw [HA.out]
  go_wp2_with fail
  refine (portion_any _ _ _ _ _ (by omega) (by omega) (by omega) (by omega) (by omega) (by omega)).mono ?_; rintro e w2 ⟨rfl, q2, hw2⟩
  rw [HC.out]
  have B2 : Hid (Below w.heap.size w w2) := Lib.hid (by rw [hw2]; exact below_drewN (Below.refl _ _) _)
  clear hw2
  go_wp2_with fail
  refine (itoa_any _ (by omega) (by omega) _ (HT.out.below B2.out (Nat.le_refl _))).mono ?_; rintro e w3 ⟨rfl, b3⟩
  rw [HAA.out]
  have B3 := Lib.hid (B2.out.trans (b3.mono B2.out.size))
  clear b3
  go_wp2_with fail
  go_ret2
  refine ⟨⟨_, rfl, ?_⟩, B3.out⟩
  simp [cat_list, HAL.out, decOf]

set_option maxRecDepth 100000 in
set_option maxHeartbeats 4000000 in
theorem dec_00c (n s U W a : Int) (P : Int) (k : Nat) (w : World) (htab : Tab w) (ht : isTimeN n) (hs : isScaleN s) (ha : (n.natAbs : Int) = a) (hU : ((10 ^ k : Nat) : Int) = U) (hk : k = 0) (hc : portQ (a % s) U s 2 = P) (hcU : P ≠ U) (hW : a / s = W) (hn : n < 0) (hw : W = 0) (hp : 0 < P) :
    Calls Tryz.prog 4 #[.int .i64 n, .int .i64 s, .int .i64 k] w fun e w' => (∃ S, e = .returned (.tuple #[.string S, .int .i64 0]) ∧ S.data.toList = decOf true W P k) ∧ Below w.heap.size w w' := by
  subst hk
  have hk9 : 0 ≤ 9 := by omega
  obtain rfl : U = 1 := by rw [← hU]; rfl
  have hUb := pow9 0 hk9
  rw [hU] at hUb
  obtain ⟨U0, U1⟩ := hUb
  have hTT := ht; have hSS := hs
  obtain ⟨s0, s1⟩ := hs
  obtain ⟨t0, t1⟩ := ht
  have a0 : 0 ≤ a := by omega
  have a1 : a ≤ 1000000000000000 := by omega
  have q0 : 0 ≤ a / s := Int.ediv_nonneg a0 (by omega)
  have q1 : a / s ≤ a := Int.ediv_le_self _ a0
  have r0 : 0 ≤ a % s := Int.emod_nonneg _ (by omega)
  have r1 : a % s < s := Int.emod_lt_of_pos _ (by omega)
  have hpb := part_bd r0 r1 U0 U1
  have e1 : a.tdiv s = a / s := Int.tdiv_eq_ediv_of_nonneg a0
  have e2 : a.tmod s = a % s := Int.tmod_eq_emod_of_nonneg a0
  obtain ⟨q, hq⟩ : ∃ q, a / s = q := ⟨_, rfl⟩
  obtain ⟨r, hr⟩ : ∃ r, a % s = r := ⟨_, rfl⟩
  rw [hq] at e1 q0 q1 hW
  rw [hr] at e2 r0 r1 hpb hc
  rw [hc] at hpb
  obtain ⟨p0, p1⟩ := hpb
  have sne : (s == 0) = false := by simp; omega
  have HT := Lib.hid htab; have HTT := Lib.hid hTT; have HSS := Lib.hid hSS; have HA := Lib.hid ha; have HU := Lib.hid hU; have HC := Lib.hid hc; have HQ := Lib.hid hq; have HR := Lib.hid hr
  clear htab hTT hSS hU hc hq hr
  subst hW
  have hW0 : 0 ≤ q := q0
  have hW1 : q < 10000000000000000 := by omega
  have hUU : (P == 1) = false := by simp; exact hcU
  have hww : decide (0 < q) = false := by simp only [decide_eq_false_iff_not]; omega
  clear hw
  exfalso
  omega

set_option maxRecDepth 100000 in
set_option maxHeartbeats 4000000 in
theorem dec_00d (n s U W a : Int) (P : Int) (k : Nat) (w : World) (htab : Tab w) (ht : isTimeN n) (hs : isScaleN s) (ha : (n.natAbs : Int) = a) (hU : ((10 ^ k : Nat) : Int) = U) (hk : k = 0) (hc : portQ (a % s) U s 2 = P) (hcU : P ≠ U) (hW : a / s = W) (hn : n < 0) (hw : W = 0) (hp : P = 0) :
    Calls Tryz.prog 4 #[.int .i64 n, .int .i64 s, .int .i64 k] w fun e w' => (∃ S, e = .returned (.tuple #[.string S, .int .i64 0]) ∧ S.data.toList = decOf false W P k) ∧ Below w.heap.size w w' := by
  subst hk
  have hk9 : 0 ≤ 9 := by omega
  obtain rfl : U = 1 := by rw [← hU]; rfl
  have hUb := pow9 0 hk9
  rw [hU] at hUb
  obtain ⟨U0, U1⟩ := hUb
  have hTT := ht; have hSS := hs
  obtain ⟨s0, s1⟩ := hs
  obtain ⟨t0, t1⟩ := ht
  have a0 : 0 ≤ a := by omega
  have a1 : a ≤ 1000000000000000 := by omega
  have q0 : 0 ≤ a / s := Int.ediv_nonneg a0 (by omega)
  have q1 : a / s ≤ a := Int.ediv_le_self _ a0
  have r0 : 0 ≤ a % s := Int.emod_nonneg _ (by omega)
  have r1 : a % s < s := Int.emod_lt_of_pos _ (by omega)
  have hpb := part_bd r0 r1 U0 U1
  have e1 : a.tdiv s = a / s := Int.tdiv_eq_ediv_of_nonneg a0
  have e2 : a.tmod s = a % s := Int.tmod_eq_emod_of_nonneg a0
  obtain ⟨q, hq⟩ : ∃ q, a / s = q := ⟨_, rfl⟩
  obtain ⟨r, hr⟩ : ∃ r, a % s = r := ⟨_, rfl⟩
  rw [hq] at e1 q0 q1 hW
  rw [hr] at e2 r0 r1 hpb hc
  rw [hc] at hpb
  obtain ⟨p0, p1⟩ := hpb
  have sne : (s == 0) = false := by simp; omega
  have HT := Lib.hid htab; have HTT := Lib.hid hTT; have HSS := Lib.hid hSS; have HA := Lib.hid ha; have HU := Lib.hid hU; have HC := Lib.hid hc; have HQ := Lib.hid hq; have HR := Lib.hid hr
  clear htab hTT hSS hU hc hq hr
  subst hW
  have hW0 : 0 ≤ q := q0
  have hW1 : q < 10000000000000000 := by omega
  have hUU : (P == 1) = false := by simp; exact hcU
  have hww : decide (0 < q) = false := by simp only [decide_eq_false_iff_not]; omega
  have hpp : decide (0 < P) = false := by simp only [decide_eq_false_iff_not]; omega
  clear hw
  clear hp
  have hnn : decide (n < 0) = true := by simp only [decide_eq_true_eq]; exact hn
  obtain ⟨A, hA, hAl, hAs⟩ := itoaB q hW0 hW1
  have hAi : (A.size : Int) ≤ 8388608 := by omega
  have HAA := Lib.hid hA; have HAL := Lib.hid hAl
  clear hA hAl
  have k45 : ((⟨#[45]⟩ : ByteArray).size : Int) ≤ 8388608 := by decide
  go_enter Tryz.func4, Tryz.ntmps4
  go_wp2_with fail
  refine (isTime_yes _ _ HTT.out).mono ?_; rintro e w' ⟨rfl, rfl⟩
  go_wp2_with fail
  refine (isScale_yes _ _ HSS.out).mono ?_; rintro e w' ⟨rfl, rfl⟩
  go_wp2_with fail
  refine (within_yes _ _ _ _ (by omega) (by omega)).mono ?_; rintro e w' ⟨rfl, rfl⟩
  go_wp2_with fail
  refine (power_any 0 _ hk9).mono ?_; rintro e w' ⟨rfl, rfl⟩
  rw [HU.out]
  go_wp2_with fail
  refine (size_any _ _ (by omega) (by omega)).mono ?_; rintro e w' ⟨rfl, rfl⟩
  rw [HA.out]
  go_wp2_with fail
  refine (size_any _ _ (by omega) (by omega)).mono ?_; rintro e w' ⟨rfl, rfl⟩
  rw [HA.out]
  go_wp2_with fail
  refine (portion_any _ _ _ _ _ (by omega) (by omega) (by omega) (by omega) (by omega) (by omega)).mono ?_; rintro e w2 ⟨rfl, q2, hw2⟩
  rw [HC.out]
  have B2 : Hid (Below w.heap.size w w2) := Lib.hid (by rw [hw2]; exact below_drewN (Below.refl _ _) _)
  clear hw2
  go_wp2_with fail
  refine (itoa_any _ (by omega) (by omega) _ (HT.out.below B2.out (Nat.le_refl _))).mono ?_; rintro e w3 ⟨rfl, b3⟩
  rw [HAA.out]
  have B3 := Lib.hid (B2.out.trans (b3.mono B2.out.size))
  clear b3
  go_wp2_with fail
  go_ret2
  refine ⟨⟨_, rfl, ?_⟩, B3.out⟩
  simp [cat_list, HAL.out, decOf]

set_option maxRecDepth 100000 in
set_option maxHeartbeats 4000000 in
theorem dec_01a (n s U W a : Int) (P : Int) (k : Nat) (w : World) (htab : Tab w) (ht : isTimeN n) (hs : isScaleN s) (ha : (n.natAbs : Int) = a) (hU : ((10 ^ k : Nat) : Int) = U) (hk : 0 < k) (hk9 : k ≤ 9) (hc : portQ (a % s) U s 2 = P) (hcU : P ≠ U) (hW : a / s = W) (hn : 0 ≤ n) :
    Calls Tryz.prog 4 #[.int .i64 n, .int .i64 s, .int .i64 k] w fun e w' => (∃ S, e = .returned (.tuple #[.string S, .int .i64 0]) ∧ S.data.toList = decOf false W P k) ∧ Below w.heap.size w w' := by
  have hUb := pow9 k hk9
  rw [hU] at hUb
  obtain ⟨U0, U1⟩ := hUb
  have hTT := ht; have hSS := hs
  obtain ⟨s0, s1⟩ := hs
  obtain ⟨t0, t1⟩ := ht
  have a0 : 0 ≤ a := by omega
  have a1 : a ≤ 1000000000000000 := by omega
  have q0 : 0 ≤ a / s := Int.ediv_nonneg a0 (by omega)
  have q1 : a / s ≤ a := Int.ediv_le_self _ a0
  have r0 : 0 ≤ a % s := Int.emod_nonneg _ (by omega)
  have r1 : a % s < s := Int.emod_lt_of_pos _ (by omega)
  have hpb := part_bd r0 r1 U0 U1
  have e1 : a.tdiv s = a / s := Int.tdiv_eq_ediv_of_nonneg a0
  have e2 : a.tmod s = a % s := Int.tmod_eq_emod_of_nonneg a0
  obtain ⟨q, hq⟩ : ∃ q, a / s = q := ⟨_, rfl⟩
  obtain ⟨r, hr⟩ : ∃ r, a % s = r := ⟨_, rfl⟩
  rw [hq] at e1 q0 q1 hW
  rw [hr] at e2 r0 r1 hpb hc
  rw [hc] at hpb
  obtain ⟨p0, p1⟩ := hpb
  have sne : (s == 0) = false := by simp; omega
  have HT := Lib.hid htab; have HTT := Lib.hid hTT; have HSS := Lib.hid hSS; have HA := Lib.hid ha; have HU := Lib.hid hU; have HC := Lib.hid hc; have HQ := Lib.hid hq; have HR := Lib.hid hr
  clear htab hTT hSS hU hc hq hr
  subst hW
  have hW0 : 0 ≤ q := q0
  have hW1 : q < 10000000000000000 := by omega
  have hUU : (P == U) = false := by simp; exact hcU
  have hnn : decide (n < 0) = false := by simp only [decide_eq_false_iff_not]; omega
  have hkk : decide (0 < (k : Int)) = true := by simp only [decide_eq_true_eq]; omega
  have hkk' : decide (0 < k) = true := by simp only [decide_eq_true_eq]; omega
  obtain ⟨A, hA, hAl, hAs⟩ := itoaB q hW0 hW1
  have hAi : (A.size : Int) ≤ 8388608 := by omega
  have HAA := Lib.hid hA; have HAL := Lib.hid hAl
  clear hA hAl
  have k45 : ((⟨#[45]⟩ : ByteArray).size : Int) ≤ 8388608 := by decide
  go_enter Tryz.func4, Tryz.ntmps4
  go_wp2_with fail
  refine (isTime_yes _ _ HTT.out).mono ?_; rintro e w' ⟨rfl, rfl⟩
  go_wp2_with fail
  refine (isScale_yes _ _ HSS.out).mono ?_; rintro e w' ⟨rfl, rfl⟩
  go_wp2_with fail
  refine (within_yes _ _ _ _ (by omega) (by omega)).mono ?_; rintro e w' ⟨rfl, rfl⟩
  go_wp2_with fail
  refine (power_any k _ hk9).mono ?_; rintro e w' ⟨rfl, rfl⟩
  rw [HU.out]
  go_wp2_with fail
  refine (size_any _ _ (by omega) (by omega)).mono ?_; rintro e w' ⟨rfl, rfl⟩
  rw [HA.out]
  go_wp2_with fail
  refine (size_any _ _ (by omega) (by omega)).mono ?_; rintro e w' ⟨rfl, rfl⟩
  rw [HA.out]
  go_wp2_with fail
  refine (portion_any _ _ _ _ _ (by omega) (by omega) (by omega) (by omega) (by omega) (by omega)).mono ?_; rintro e w2 ⟨rfl, q2, hw2⟩
  rw [HC.out]
  have B2 : Hid (Below w.heap.size w w2) := Lib.hid (by rw [hw2]; exact below_drewN (Below.refl _ _) _)
  clear hw2
  go_wp2_with fail
  refine (itoa_any _ (by omega) (by omega) _ (HT.out.below B2.out (Nat.le_refl _))).mono ?_; rintro e w3 ⟨rfl, b3⟩
  rw [HAA.out]
  have B3 := Lib.hid (B2.out.trans (b3.mono B2.out.size))
  clear b3
  go_wp2_with fail
  have hPb : P < 10000000000000000 := by omega
  have hP0 : (0 : Int) ≤ P := by omega
  refine (padded_big P k _ (HT.out.below B3.out (Nat.le_refl _)) hP0 hPb hk9).mono ?_; rintro e w4 ⟨rfl, b4⟩
  have B4 := Lib.hid (B3.out.trans (b4.mono B3.out.size))
  have hzs : (padB P k).size ≤ 16 := by rw [padB_size]; exact padL_len16 _ _ hP0 hPb hk9
  have hzl : (padB P k).data.toList = padL P k := padB_list _ _
  obtain ⟨Z, hZ⟩ : ∃ Z, padB P k = Z := ⟨_, rfl⟩
  rw [hZ] at hzs hzl ⊢
  have HZL := Lib.hid hzl
  clear b4 hZ hzl
  have hZi : (Z.size : Int) ≤ 8388608 := by omega
  have k46 : ((⟨#[46]⟩ : ByteArray).size : Int) ≤ 8388608 := by decide
  have j46 : (⟨#[46]⟩ : ByteArray).size ≤ 1 := by decide
  obtain ⟨z1, y1⟩ := cat_size ⟨#[46]⟩ Z 1 16 j46 hzs (by decide)
  obtain ⟨z2, y2⟩ := cat_size A (⟨#[46]⟩ ++ Z) 16 17 hAs z1 (by decide)
  go_wp2_with fail
  go_ret2
  refine ⟨⟨_, rfl, ?_⟩, B4.out⟩
  simp [cat_list, HAL.out, decOf, HZL.out, hk]

set_option maxRecDepth 100000 in
set_option maxHeartbeats 4000000 in
theorem dec_01b (n s U W a : Int) (P : Int) (k : Nat) (w : World) (htab : Tab w) (ht : isTimeN n) (hs : isScaleN s) (ha : (n.natAbs : Int) = a) (hU : ((10 ^ k : Nat) : Int) = U) (hk : 0 < k) (hk9 : k ≤ 9) (hc : portQ (a % s) U s 2 = P) (hcU : P ≠ U) (hW : a / s = W) (hn : n < 0) (hw : 0 < W) :
    Calls Tryz.prog 4 #[.int .i64 n, .int .i64 s, .int .i64 k] w fun e w' => (∃ S, e = .returned (.tuple #[.string S, .int .i64 0]) ∧ S.data.toList = decOf true W P k) ∧ Below w.heap.size w w' := by
  have hUb := pow9 k hk9
  rw [hU] at hUb
  obtain ⟨U0, U1⟩ := hUb
  have hTT := ht; have hSS := hs
  obtain ⟨s0, s1⟩ := hs
  obtain ⟨t0, t1⟩ := ht
  have a0 : 0 ≤ a := by omega
  have a1 : a ≤ 1000000000000000 := by omega
  have q0 : 0 ≤ a / s := Int.ediv_nonneg a0 (by omega)
  have q1 : a / s ≤ a := Int.ediv_le_self _ a0
  have r0 : 0 ≤ a % s := Int.emod_nonneg _ (by omega)
  have r1 : a % s < s := Int.emod_lt_of_pos _ (by omega)
  have hpb := part_bd r0 r1 U0 U1
  have e1 : a.tdiv s = a / s := Int.tdiv_eq_ediv_of_nonneg a0
  have e2 : a.tmod s = a % s := Int.tmod_eq_emod_of_nonneg a0
  obtain ⟨q, hq⟩ : ∃ q, a / s = q := ⟨_, rfl⟩
  obtain ⟨r, hr⟩ : ∃ r, a % s = r := ⟨_, rfl⟩
  rw [hq] at e1 q0 q1 hW
  rw [hr] at e2 r0 r1 hpb hc
  rw [hc] at hpb
  obtain ⟨p0, p1⟩ := hpb
  have sne : (s == 0) = false := by simp; omega
  have HT := Lib.hid htab; have HTT := Lib.hid hTT; have HSS := Lib.hid hSS; have HA := Lib.hid ha; have HU := Lib.hid hU; have HC := Lib.hid hc; have HQ := Lib.hid hq; have HR := Lib.hid hr
  clear htab hTT hSS hU hc hq hr
  subst hW
  have hW0 : 0 ≤ q := q0
  have hW1 : q < 10000000000000000 := by omega
  have hUU : (P == U) = false := by simp; exact hcU
  have hnn : decide (n < 0) = true := by simp only [decide_eq_true_eq]; exact hn
  have hww : decide (0 < q) = true := by simp only [decide_eq_true_eq]; exact hw
  have hkk : decide (0 < (k : Int)) = true := by simp only [decide_eq_true_eq]; omega
  have hkk' : decide (0 < k) = true := by simp only [decide_eq_true_eq]; omega
  obtain ⟨A, hA, hAl, hAs⟩ := itoaB q hW0 hW1
  have hAi : (A.size : Int) ≤ 8388608 := by omega
  have HAA := Lib.hid hA; have HAL := Lib.hid hAl
  clear hA hAl
  have k45 : ((⟨#[45]⟩ : ByteArray).size : Int) ≤ 8388608 := by decide
  go_enter Tryz.func4, Tryz.ntmps4
  go_wp2_with fail
  refine (isTime_yes _ _ HTT.out).mono ?_; rintro e w' ⟨rfl, rfl⟩
  go_wp2_with fail
  refine (isScale_yes _ _ HSS.out).mono ?_; rintro e w' ⟨rfl, rfl⟩
  go_wp2_with fail
  refine (within_yes _ _ _ _ (by omega) (by omega)).mono ?_; rintro e w' ⟨rfl, rfl⟩
  go_wp2_with fail
  refine (power_any k _ hk9).mono ?_; rintro e w' ⟨rfl, rfl⟩
  rw [HU.out]
  go_wp2_with fail
  refine (size_any _ _ (by omega) (by omega)).mono ?_; rintro e w' ⟨rfl, rfl⟩
  rw [HA.out]
  go_wp2_with fail
  refine (size_any _ _ (by omega) (by omega)).mono ?_; rintro e w' ⟨rfl, rfl⟩
  rw [HA.out]
  go_wp2_with fail
  refine (portion_any _ _ _ _ _ (by omega) (by omega) (by omega) (by omega) (by omega) (by omega)).mono ?_; rintro e w2 ⟨rfl, q2, hw2⟩
  rw [HC.out]
  have B2 : Hid (Below w.heap.size w w2) := Lib.hid (by rw [hw2]; exact below_drewN (Below.refl _ _) _)
  clear hw2
  go_wp2_with fail
  refine (itoa_any _ (by omega) (by omega) _ (HT.out.below B2.out (Nat.le_refl _))).mono ?_; rintro e w3 ⟨rfl, b3⟩
  rw [HAA.out]
  have B3 := Lib.hid (B2.out.trans (b3.mono B2.out.size))
  clear b3
  go_wp2_with fail
  have hPb : P < 10000000000000000 := by omega
  have hP0 : (0 : Int) ≤ P := by omega
  refine (padded_big P k _ (HT.out.below B3.out (Nat.le_refl _)) hP0 hPb hk9).mono ?_; rintro e w4 ⟨rfl, b4⟩
  have B4 := Lib.hid (B3.out.trans (b4.mono B3.out.size))
  have hzs : (padB P k).size ≤ 16 := by rw [padB_size]; exact padL_len16 _ _ hP0 hPb hk9
  have hzl : (padB P k).data.toList = padL P k := padB_list _ _
  obtain ⟨Z, hZ⟩ : ∃ Z, padB P k = Z := ⟨_, rfl⟩
  rw [hZ] at hzs hzl ⊢
  have HZL := Lib.hid hzl
  clear b4 hZ hzl
  have hZi : (Z.size : Int) ≤ 8388608 := by omega
  have k46 : ((⟨#[46]⟩ : ByteArray).size : Int) ≤ 8388608 := by decide
  have j46 : (⟨#[46]⟩ : ByteArray).size ≤ 1 := by decide
  obtain ⟨z1, y1⟩ := cat_size ⟨#[46]⟩ Z 1 16 j46 hzs (by decide)
  obtain ⟨z2, y2⟩ := cat_size A (⟨#[46]⟩ ++ Z) 16 17 hAs z1 (by decide)
  go_wp2_with fail
  go_ret2
  refine ⟨⟨_, rfl, ?_⟩, B4.out⟩
  simp [cat_list, HAL.out, decOf, HZL.out, hk]

set_option maxRecDepth 100000 in
set_option maxHeartbeats 4000000 in
theorem dec_01c (n s U W a : Int) (P : Int) (k : Nat) (w : World) (htab : Tab w) (ht : isTimeN n) (hs : isScaleN s) (ha : (n.natAbs : Int) = a) (hU : ((10 ^ k : Nat) : Int) = U) (hk : 0 < k) (hk9 : k ≤ 9) (hc : portQ (a % s) U s 2 = P) (hcU : P ≠ U) (hW : a / s = W) (hn : n < 0) (hw : W = 0) (hp : 0 < P) :
    Calls Tryz.prog 4 #[.int .i64 n, .int .i64 s, .int .i64 k] w fun e w' => (∃ S, e = .returned (.tuple #[.string S, .int .i64 0]) ∧ S.data.toList = decOf true W P k) ∧ Below w.heap.size w w' := by
  have hUb := pow9 k hk9
  rw [hU] at hUb
  obtain ⟨U0, U1⟩ := hUb
  have hTT := ht; have hSS := hs
  obtain ⟨s0, s1⟩ := hs
  obtain ⟨t0, t1⟩ := ht
  have a0 : 0 ≤ a := by omega
  have a1 : a ≤ 1000000000000000 := by omega
  have q0 : 0 ≤ a / s := Int.ediv_nonneg a0 (by omega)
  have q1 : a / s ≤ a := Int.ediv_le_self _ a0
  have r0 : 0 ≤ a % s := Int.emod_nonneg _ (by omega)
  have r1 : a % s < s := Int.emod_lt_of_pos _ (by omega)
  have hpb := part_bd r0 r1 U0 U1
  have e1 : a.tdiv s = a / s := Int.tdiv_eq_ediv_of_nonneg a0
  have e2 : a.tmod s = a % s := Int.tmod_eq_emod_of_nonneg a0
  obtain ⟨q, hq⟩ : ∃ q, a / s = q := ⟨_, rfl⟩
  obtain ⟨r, hr⟩ : ∃ r, a % s = r := ⟨_, rfl⟩
  rw [hq] at e1 q0 q1 hW
  rw [hr] at e2 r0 r1 hpb hc
  rw [hc] at hpb
  obtain ⟨p0, p1⟩ := hpb
  have sne : (s == 0) = false := by simp; omega
  have HT := Lib.hid htab; have HTT := Lib.hid hTT; have HSS := Lib.hid hSS; have HA := Lib.hid ha; have HU := Lib.hid hU; have HC := Lib.hid hc; have HQ := Lib.hid hq; have HR := Lib.hid hr
  clear htab hTT hSS hU hc hq hr
  subst hW
  have hW0 : 0 ≤ q := q0
  have hW1 : q < 10000000000000000 := by omega
  have hUU : (P == U) = false := by simp; exact hcU
  have hww : decide (0 < q) = false := by simp only [decide_eq_false_iff_not]; omega
  clear hw
  have hnn : decide (n < 0) = true := by simp only [decide_eq_true_eq]; exact hn
  have hpp : decide (0 < P) = true := by simp only [decide_eq_true_eq]; exact hp
  have hkk : decide (0 < (k : Int)) = true := by simp only [decide_eq_true_eq]; omega
  have hkk' : decide (0 < k) = true := by simp only [decide_eq_true_eq]; omega
  obtain ⟨A, hA, hAl, hAs⟩ := itoaB q hW0 hW1
  have hAi : (A.size : Int) ≤ 8388608 := by omega
  have HAA := Lib.hid hA; have HAL := Lib.hid hAl
  clear hA hAl
  have k45 : ((⟨#[45]⟩ : ByteArray).size : Int) ≤ 8388608 := by decide
  go_enter Tryz.func4, Tryz.ntmps4
  go_wp2_with fail
  refine (isTime_yes _ _ HTT.out).mono ?_; rintro e w' ⟨rfl, rfl⟩
  go_wp2_with fail
  refine (isScale_yes _ _ HSS.out).mono ?_; rintro e w' ⟨rfl, rfl⟩
  go_wp2_with fail
  refine (within_yes _ _ _ _ (by omega) (by omega)).mono ?_; rintro e w' ⟨rfl, rfl⟩
  go_wp2_with fail
  refine (power_any k _ hk9).mono ?_; rintro e w' ⟨rfl, rfl⟩
  rw [HU.out]
  go_wp2_with fail
  refine (size_any _ _ (by omega) (by omega)).mono ?_; rintro e w' ⟨rfl, rfl⟩
  rw [HA.out]
  go_wp2_with fail
  refine (size_any _ _ (by omega) (by omega)).mono ?_; rintro e w' ⟨rfl, rfl⟩
  rw [HA.out]
  go_wp2_with fail
  refine (portion_any _ _ _ _ _ (by omega) (by omega) (by omega) (by omega) (by omega) (by omega)).mono ?_; rintro e w2 ⟨rfl, q2, hw2⟩
  rw [HC.out]
  have B2 : Hid (Below w.heap.size w w2) := Lib.hid (by rw [hw2]; exact below_drewN (Below.refl _ _) _)
  clear hw2
  go_wp2_with fail
  refine (itoa_any _ (by omega) (by omega) _ (HT.out.below B2.out (Nat.le_refl _))).mono ?_; rintro e w3 ⟨rfl, b3⟩
  rw [HAA.out]
  have B3 := Lib.hid (B2.out.trans (b3.mono B2.out.size))
  clear b3
  go_wp2_with fail
  have hPb : P < 10000000000000000 := by omega
  have hP0 : (0 : Int) ≤ P := by omega
  refine (padded_big P k _ (HT.out.below B3.out (Nat.le_refl _)) hP0 hPb hk9).mono ?_; rintro e w4 ⟨rfl, b4⟩
  have B4 := Lib.hid (B3.out.trans (b4.mono B3.out.size))
  have hzs : (padB P k).size ≤ 16 := by rw [padB_size]; exact padL_len16 _ _ hP0 hPb hk9
  have hzl : (padB P k).data.toList = padL P k := padB_list _ _
  obtain ⟨Z, hZ⟩ : ∃ Z, padB P k = Z := ⟨_, rfl⟩
  rw [hZ] at hzs hzl ⊢
  have HZL := Lib.hid hzl
  clear b4 hZ hzl
  have hZi : (Z.size : Int) ≤ 8388608 := by omega
  have k46 : ((⟨#[46]⟩ : ByteArray).size : Int) ≤ 8388608 := by decide
  have j46 : (⟨#[46]⟩ : ByteArray).size ≤ 1 := by decide
  obtain ⟨z1, y1⟩ := cat_size ⟨#[46]⟩ Z 1 16 j46 hzs (by decide)
  obtain ⟨z2, y2⟩ := cat_size A (⟨#[46]⟩ ++ Z) 16 17 hAs z1 (by decide)
  go_wp2_with fail
  go_ret2
  refine ⟨⟨_, rfl, ?_⟩, B4.out⟩
  simp [cat_list, HAL.out, decOf, HZL.out, hk]

set_option maxRecDepth 100000 in
set_option maxHeartbeats 4000000 in
theorem dec_01d (n s U W a : Int) (P : Int) (k : Nat) (w : World) (htab : Tab w) (ht : isTimeN n) (hs : isScaleN s) (ha : (n.natAbs : Int) = a) (hU : ((10 ^ k : Nat) : Int) = U) (hk : 0 < k) (hk9 : k ≤ 9) (hc : portQ (a % s) U s 2 = P) (hcU : P ≠ U) (hW : a / s = W) (hn : n < 0) (hw : W = 0) (hp : P = 0) :
    Calls Tryz.prog 4 #[.int .i64 n, .int .i64 s, .int .i64 k] w fun e w' => (∃ S, e = .returned (.tuple #[.string S, .int .i64 0]) ∧ S.data.toList = decOf false W P k) ∧ Below w.heap.size w w' := by
  have hUb := pow9 k hk9
  rw [hU] at hUb
  obtain ⟨U0, U1⟩ := hUb
  have hTT := ht; have hSS := hs
  obtain ⟨s0, s1⟩ := hs
  obtain ⟨t0, t1⟩ := ht
  have a0 : 0 ≤ a := by omega
  have a1 : a ≤ 1000000000000000 := by omega
  have q0 : 0 ≤ a / s := Int.ediv_nonneg a0 (by omega)
  have q1 : a / s ≤ a := Int.ediv_le_self _ a0
  have r0 : 0 ≤ a % s := Int.emod_nonneg _ (by omega)
  have r1 : a % s < s := Int.emod_lt_of_pos _ (by omega)
  have hpb := part_bd r0 r1 U0 U1
  have e1 : a.tdiv s = a / s := Int.tdiv_eq_ediv_of_nonneg a0
  have e2 : a.tmod s = a % s := Int.tmod_eq_emod_of_nonneg a0
  obtain ⟨q, hq⟩ : ∃ q, a / s = q := ⟨_, rfl⟩
  obtain ⟨r, hr⟩ : ∃ r, a % s = r := ⟨_, rfl⟩
  rw [hq] at e1 q0 q1 hW
  rw [hr] at e2 r0 r1 hpb hc
  rw [hc] at hpb
  obtain ⟨p0, p1⟩ := hpb
  have sne : (s == 0) = false := by simp; omega
  have HT := Lib.hid htab; have HTT := Lib.hid hTT; have HSS := Lib.hid hSS; have HA := Lib.hid ha; have HU := Lib.hid hU; have HC := Lib.hid hc; have HQ := Lib.hid hq; have HR := Lib.hid hr
  clear htab hTT hSS hU hc hq hr
  subst hW
  have hW0 : 0 ≤ q := q0
  have hW1 : q < 10000000000000000 := by omega
  have hUU : (P == U) = false := by simp; exact hcU
  have hww : decide (0 < q) = false := by simp only [decide_eq_false_iff_not]; omega
  have hpp : decide (0 < P) = false := by simp only [decide_eq_false_iff_not]; omega
  clear hw
  clear hp
  have hnn : decide (n < 0) = true := by simp only [decide_eq_true_eq]; exact hn
  have hkk : decide (0 < (k : Int)) = true := by simp only [decide_eq_true_eq]; omega
  have hkk' : decide (0 < k) = true := by simp only [decide_eq_true_eq]; omega
  obtain ⟨A, hA, hAl, hAs⟩ := itoaB q hW0 hW1
  have hAi : (A.size : Int) ≤ 8388608 := by omega
  have HAA := Lib.hid hA; have HAL := Lib.hid hAl
  clear hA hAl
  have k45 : ((⟨#[45]⟩ : ByteArray).size : Int) ≤ 8388608 := by decide
  go_enter Tryz.func4, Tryz.ntmps4
  go_wp2_with fail
  refine (isTime_yes _ _ HTT.out).mono ?_; rintro e w' ⟨rfl, rfl⟩
  go_wp2_with fail
  refine (isScale_yes _ _ HSS.out).mono ?_; rintro e w' ⟨rfl, rfl⟩
  go_wp2_with fail
  refine (within_yes _ _ _ _ (by omega) (by omega)).mono ?_; rintro e w' ⟨rfl, rfl⟩
  go_wp2_with fail
  refine (power_any k _ hk9).mono ?_; rintro e w' ⟨rfl, rfl⟩
  rw [HU.out]
  go_wp2_with fail
  refine (size_any _ _ (by omega) (by omega)).mono ?_; rintro e w' ⟨rfl, rfl⟩
  rw [HA.out]
  go_wp2_with fail
  refine (size_any _ _ (by omega) (by omega)).mono ?_; rintro e w' ⟨rfl, rfl⟩
  rw [HA.out]
  go_wp2_with fail
  refine (portion_any _ _ _ _ _ (by omega) (by omega) (by omega) (by omega) (by omega) (by omega)).mono ?_; rintro e w2 ⟨rfl, q2, hw2⟩
  rw [HC.out]
  have B2 : Hid (Below w.heap.size w w2) := Lib.hid (by rw [hw2]; exact below_drewN (Below.refl _ _) _)
  clear hw2
  go_wp2_with fail
  refine (itoa_any _ (by omega) (by omega) _ (HT.out.below B2.out (Nat.le_refl _))).mono ?_; rintro e w3 ⟨rfl, b3⟩
  rw [HAA.out]
  have B3 := Lib.hid (B2.out.trans (b3.mono B2.out.size))
  clear b3
  go_wp2_with fail
  have hPb : P < 10000000000000000 := by omega
  have hP0 : (0 : Int) ≤ P := by omega
  refine (padded_big P k _ (HT.out.below B3.out (Nat.le_refl _)) hP0 hPb hk9).mono ?_; rintro e w4 ⟨rfl, b4⟩
  have B4 := Lib.hid (B3.out.trans (b4.mono B3.out.size))
  have hzs : (padB P k).size ≤ 16 := by rw [padB_size]; exact padL_len16 _ _ hP0 hPb hk9
  have hzl : (padB P k).data.toList = padL P k := padB_list _ _
  obtain ⟨Z, hZ⟩ : ∃ Z, padB P k = Z := ⟨_, rfl⟩
  rw [hZ] at hzs hzl ⊢
  have HZL := Lib.hid hzl
  clear b4 hZ hzl
  have hZi : (Z.size : Int) ≤ 8388608 := by omega
  have k46 : ((⟨#[46]⟩ : ByteArray).size : Int) ≤ 8388608 := by decide
  have j46 : (⟨#[46]⟩ : ByteArray).size ≤ 1 := by decide
  obtain ⟨z1, y1⟩ := cat_size ⟨#[46]⟩ Z 1 16 j46 hzs (by decide)
  obtain ⟨z2, y2⟩ := cat_size A (⟨#[46]⟩ ++ Z) 16 17 hAs z1 (by decide)
  go_wp2_with fail
  go_ret2
  refine ⟨⟨_, rfl, ?_⟩, B4.out⟩
  simp [cat_list, HAL.out, decOf, HZL.out, hk]

set_option maxRecDepth 100000 in
set_option maxHeartbeats 4000000 in
theorem dec_10a (n s U W a : Int) (k : Nat) (w : World) (htab : Tab w) (ht : isTimeN n) (hs : isScaleN s) (ha : (n.natAbs : Int) = a) (hU : ((10 ^ k : Nat) : Int) = U) (hk : k = 0) (hc : portQ (a % s) U s 2 = U) (hW : a / s + 1 = W) (hn : 0 ≤ n) :
    Calls Tryz.prog 4 #[.int .i64 n, .int .i64 s, .int .i64 k] w fun e w' => (∃ S, e = .returned (.tuple #[.string S, .int .i64 0]) ∧ S.data.toList = decOf false W 0 k) ∧ Below w.heap.size w w' := by
  subst hk
  have hk9 : 0 ≤ 9 := by omega
  obtain rfl : U = 1 := by rw [← hU]; rfl
  have hUb := pow9 0 hk9
  rw [hU] at hUb
  obtain ⟨U0, U1⟩ := hUb
  have hTT := ht; have hSS := hs
  obtain ⟨s0, s1⟩ := hs
  obtain ⟨t0, t1⟩ := ht
  have a0 : 0 ≤ a := by omega
  have a1 : a ≤ 1000000000000000 := by omega
  have q0 : 0 ≤ a / s := Int.ediv_nonneg a0 (by omega)
  have q1 : a / s ≤ a := Int.ediv_le_self _ a0
  have r0 : 0 ≤ a % s := Int.emod_nonneg _ (by omega)
  have r1 : a % s < s := Int.emod_lt_of_pos _ (by omega)
  have hpb := part_bd r0 r1 U0 U1
  have e1 : a.tdiv s = a / s := Int.tdiv_eq_ediv_of_nonneg a0
  have e2 : a.tmod s = a % s := Int.tmod_eq_emod_of_nonneg a0
  obtain ⟨q, hq⟩ : ∃ q, a / s = q := ⟨_, rfl⟩
  obtain ⟨r, hr⟩ : ∃ r, a % s = r := ⟨_, rfl⟩
  rw [hq] at e1 q0 q1 hW
  rw [hr] at e2 r0 r1 hpb hc
  rw [hc] at hpb
  obtain ⟨p0, p1⟩ := hpb
  have sne : (s == 0) = false := by simp; omega
  have HT := Lib.hid htab; have HTT := Lib.hid hTT; have HSS := Lib.hid hSS; have HA := Lib.hid ha; have HU := Lib.hid hU; have HC := Lib.hid hc; have HQ := Lib.hid hq; have HR := Lib.hid hr
  clear htab hTT hSS hU hc hq hr
  subst hW
  have hW0 : 0 ≤ q + 1 := by omega
  have hW1 : q + 1 < 10000000000000000 := by omega
  have hUU : ((1 : Int) == (1 : Int)) = true := by simp
  have hnn : decide (n < 0) = false := by simp only [decide_eq_false_iff_not]; omega
  obtain ⟨A, hA, hAl, hAs⟩ := itoaB (q + 1) hW0 hW1
  have hAi : (A.size : Int) ≤ 8388608 := by omega
  have HAA := Lib.hid hA; have HAL := Lib.hid hAl
  clear hA hAl
  have k45 : ((⟨#[45]⟩ : ByteArray).size : Int) ≤ 8388608 := by decide
  go_enter Tryz.func4, Tryz.ntmps4
  go_wp2_with fail
  refine (isTime_yes _ _ HTT.out).mono ?_; rintro e w' ⟨rfl, rfl⟩
  go_wp2_with fail
  refine (isScale_yes _ _ HSS.out).mono ?_; rintro e w' ⟨rfl, rfl⟩
  go_wp2_with fail
  refine (within_yes _ _ _ _ (by omega) (by omega)).mono ?_; rintro e w' ⟨rfl, rfl⟩
  go_wp2_with fail
  refine (power_any 0 _ hk9).mono ?_; rintro e w' ⟨rfl, rfl⟩
  rw [HU.out]
  go_wp2_with fail
  refine (size_any _ _ (by omega) (by omega)).mono ?_; rintro e w' ⟨rfl, rfl⟩
  rw [HA.out]
  go_wp2_with fail
  refine (size_any _ _ (by omega) (by omega)).mono ?_; rintro e w' ⟨rfl, rfl⟩
  rw [HA.out]
  go_wp2_with fail
  refine (portion_any _ _ _ _ _ (by omega) (by omega) (by omega) (by omega) (by omega) (by omega)).mono ?_; rintro e w2 ⟨rfl, q2, hw2⟩
  rw [HC.out]
  have B2 : Hid (Below w.heap.size w w2) := Lib.hid (by rw [hw2]; exact below_drewN (Below.refl _ _) _)
  clear hw2
  go_wp2_with fail
  refine (itoa_any _ (by omega) (by omega) _ (HT.out.below B2.out (Nat.le_refl _))).mono ?_; rintro e w3 ⟨rfl, b3⟩
  rw [HAA.out]
  have B3 := Lib.hid (B2.out.trans (b3.mono B2.out.size))
  clear b3
  go_wp2_with fail
  go_ret2
  refine ⟨⟨_, rfl, ?_⟩, B3.out⟩
  simp [cat_list, HAL.out, decOf]

set_option maxRecDepth 100000 in
set_option maxHeartbeats 4000000 in
theorem dec_10b (n s U W a : Int) (k : Nat) (w : World) (htab : Tab w) (ht : isTimeN n) (hs : isScaleN s) (ha : (n.natAbs : Int) = a) (hU : ((10 ^ k : Nat) : Int) = U) (hk : k = 0) (hc : portQ (a % s) U s 2 = U) (hW : a / s + 1 = W) (hn : n < 0) (hw : 0 < W) :
    Calls Tryz.prog 4 #[.int .i64 n, .int .i64 s, .int .i64 k] w fun e w' => (∃ S, e = .returned (.tuple #[.string S, .int .i64 0]) ∧ S.data.toList = decOf true W 0 k) ∧ Below w.heap.size w w' := by
  subst hk
  have hk9 : 0 ≤ 9 := by omega
  obtain rfl : U = 1 := by rw [← hU]; rfl
  have hUb := pow9 0 hk9
  rw [hU] at hUb
  obtain ⟨U0, U1⟩ := hUb
  have hTT := ht; have hSS := hs
  obtain ⟨s0, s1⟩ := hs
  obtain ⟨t0, t1⟩ := ht
  have a0 : 0 ≤ a := by omega
  have a1 : a ≤ 1000000000000000 := by omega
  have q0 : 0 ≤ a / s := Int.ediv_nonneg a0 (by omega)
  have q1 : a / s ≤ a := Int.ediv_le_self _ a0
  have r0 : 0 ≤ a % s := Int.emod_nonneg _ (by omega)
  have r1 : a % s < s := Int.emod_lt_of_pos _ (by omega)
  have hpb := part_bd r0 r1 U0 U1
  have e1 : a.tdiv s = a / s := Int.tdiv_eq_ediv_of_nonneg a0
  have e2 : a.tmod s = a % s := Int.tmod_eq_emod_of_nonneg a0
  obtain ⟨q, hq⟩ : ∃ q, a / s = q := ⟨_, rfl⟩
  obtain ⟨r, hr⟩ : ∃ r, a % s = r := ⟨_, rfl⟩
  rw [hq] at e1 q0 q1 hW
  rw [hr] at e2 r0 r1 hpb hc
  rw [hc] at hpb
  obtain ⟨p0, p1⟩ := hpb
  have sne : (s == 0) = false := by simp; omega
  have HT := Lib.hid htab; have HTT := Lib.hid hTT; have HSS := Lib.hid hSS; have HA := Lib.hid ha; have HU := Lib.hid hU; have HC := Lib.hid hc; have HQ := Lib.hid hq; have HR := Lib.hid hr
  clear htab hTT hSS hU hc hq hr
  subst hW
  have hW0 : 0 ≤ q + 1 := by omega
  have hW1 : q + 1 < 10000000000000000 := by omega
  have hUU : ((1 : Int) == (1 : Int)) = true := by simp
  have hnn : decide (n < 0) = true := by simp only [decide_eq_true_eq]; exact hn
  have hww : decide (0 < q + 1) = true := by simp only [decide_eq_true_eq]; exact hw
  obtain ⟨A, hA, hAl, hAs⟩ := itoaB (q + 1) hW0 hW1
  have hAi : (A.size : Int) ≤ 8388608 := by omega
  have HAA := Lib.hid hA; have HAL := Lib.hid hAl
  clear hA hAl
  have k45 : ((⟨#[45]⟩ : ByteArray).size : Int) ≤ 8388608 := by decide
  go_enter Tryz.func4, Tryz.ntmps4
  go_wp2_with fail
  refine (isTime_yes _ _ HTT.out).mono ?_; rintro e w' ⟨rfl, rfl⟩
  go_wp2_with fail
  refine (isScale_yes _ _ HSS.out).mono ?_; rintro e w' ⟨rfl, rfl⟩
  go_wp2_with fail
  refine (within_yes _ _ _ _ (by omega) (by omega)).mono ?_; rintro e w' ⟨rfl, rfl⟩
  go_wp2_with fail
  refine (power_any 0 _ hk9).mono ?_; rintro e w' ⟨rfl, rfl⟩
  rw [HU.out]
  go_wp2_with fail
  refine (size_any _ _ (by omega) (by omega)).mono ?_; rintro e w' ⟨rfl, rfl⟩
  rw [HA.out]
  go_wp2_with fail
  refine (size_any _ _ (by omega) (by omega)).mono ?_; rintro e w' ⟨rfl, rfl⟩
  rw [HA.out]
  go_wp2_with fail
  refine (portion_any _ _ _ _ _ (by omega) (by omega) (by omega) (by omega) (by omega) (by omega)).mono ?_; rintro e w2 ⟨rfl, q2, hw2⟩
  rw [HC.out]
  have B2 : Hid (Below w.heap.size w w2) := Lib.hid (by rw [hw2]; exact below_drewN (Below.refl _ _) _)
  clear hw2
  go_wp2_with fail
  refine (itoa_any _ (by omega) (by omega) _ (HT.out.below B2.out (Nat.le_refl _))).mono ?_; rintro e w3 ⟨rfl, b3⟩
  rw [HAA.out]
  have B3 := Lib.hid (B2.out.trans (b3.mono B2.out.size))
  clear b3
  go_wp2_with fail
  go_ret2
  refine ⟨⟨_, rfl, ?_⟩, B3.out⟩
  simp [cat_list, HAL.out, decOf]

set_option maxRecDepth 100000 in
set_option maxHeartbeats 4000000 in
theorem dec_11a (n s U W a : Int) (k : Nat) (w : World) (htab : Tab w) (ht : isTimeN n) (hs : isScaleN s) (ha : (n.natAbs : Int) = a) (hU : ((10 ^ k : Nat) : Int) = U) (hk : 0 < k) (hk9 : k ≤ 9) (hc : portQ (a % s) U s 2 = U) (hW : a / s + 1 = W) (hn : 0 ≤ n) :
    Calls Tryz.prog 4 #[.int .i64 n, .int .i64 s, .int .i64 k] w fun e w' => (∃ S, e = .returned (.tuple #[.string S, .int .i64 0]) ∧ S.data.toList = decOf false W 0 k) ∧ Below w.heap.size w w' := by
  have hUb := pow9 k hk9
  rw [hU] at hUb
  obtain ⟨U0, U1⟩ := hUb
  have hTT := ht; have hSS := hs
  obtain ⟨s0, s1⟩ := hs
  obtain ⟨t0, t1⟩ := ht
  have a0 : 0 ≤ a := by omega
  have a1 : a ≤ 1000000000000000 := by omega
  have q0 : 0 ≤ a / s := Int.ediv_nonneg a0 (by omega)
  have q1 : a / s ≤ a := Int.ediv_le_self _ a0
  have r0 : 0 ≤ a % s := Int.emod_nonneg _ (by omega)
  have r1 : a % s < s := Int.emod_lt_of_pos _ (by omega)
  have hpb := part_bd r0 r1 U0 U1
  have e1 : a.tdiv s = a / s := Int.tdiv_eq_ediv_of_nonneg a0
  have e2 : a.tmod s = a % s := Int.tmod_eq_emod_of_nonneg a0
  obtain ⟨q, hq⟩ : ∃ q, a / s = q := ⟨_, rfl⟩
  obtain ⟨r, hr⟩ : ∃ r, a % s = r := ⟨_, rfl⟩
  rw [hq] at e1 q0 q1 hW
  rw [hr] at e2 r0 r1 hpb hc
  rw [hc] at hpb
  obtain ⟨p0, p1⟩ := hpb
  have sne : (s == 0) = false := by simp; omega
  have HT := Lib.hid htab; have HTT := Lib.hid hTT; have HSS := Lib.hid hSS; have HA := Lib.hid ha; have HU := Lib.hid hU; have HC := Lib.hid hc; have HQ := Lib.hid hq; have HR := Lib.hid hr
  clear htab hTT hSS hU hc hq hr
  subst hW
  have hW0 : 0 ≤ q + 1 := by omega
  have hW1 : q + 1 < 10000000000000000 := by omega
  have hUU : (U == U) = true := by simp
  have hnn : decide (n < 0) = false := by simp only [decide_eq_false_iff_not]; omega
  have hkk : decide (0 < (k : Int)) = true := by simp only [decide_eq_true_eq]; omega
  have hkk' : decide (0 < k) = true := by simp only [decide_eq_true_eq]; omega
  obtain ⟨A, hA, hAl, hAs⟩ := itoaB (q + 1) hW0 hW1
  have hAi : (A.size : Int) ≤ 8388608 := by omega
  have HAA := Lib.hid hA; have HAL := Lib.hid hAl
  clear hA hAl
  have k45 : ((⟨#[45]⟩ : ByteArray).size : Int) ≤ 8388608 := by decide
  go_enter Tryz.func4, Tryz.ntmps4
  go_wp2_with fail
  refine (isTime_yes _ _ HTT.out).mono ?_; rintro e w' ⟨rfl, rfl⟩
  go_wp2_with fail
  refine (isScale_yes _ _ HSS.out).mono ?_; rintro e w' ⟨rfl, rfl⟩
  go_wp2_with fail
  refine (within_yes _ _ _ _ (by omega) (by omega)).mono ?_; rintro e w' ⟨rfl, rfl⟩
  go_wp2_with fail
  refine (power_any k _ hk9).mono ?_; rintro e w' ⟨rfl, rfl⟩
  rw [HU.out]
  go_wp2_with fail
  refine (size_any _ _ (by omega) (by omega)).mono ?_; rintro e w' ⟨rfl, rfl⟩
  rw [HA.out]
  go_wp2_with fail
  refine (size_any _ _ (by omega) (by omega)).mono ?_; rintro e w' ⟨rfl, rfl⟩
  rw [HA.out]
  go_wp2_with fail
  refine (portion_any _ _ _ _ _ (by omega) (by omega) (by omega) (by omega) (by omega) (by omega)).mono ?_; rintro e w2 ⟨rfl, q2, hw2⟩
  rw [HC.out]
  have B2 : Hid (Below w.heap.size w w2) := Lib.hid (by rw [hw2]; exact below_drewN (Below.refl _ _) _)
  clear hw2
  go_wp2_with fail
  refine (itoa_any _ (by omega) (by omega) _ (HT.out.below B2.out (Nat.le_refl _))).mono ?_; rintro e w3 ⟨rfl, b3⟩
  rw [HAA.out]
  have B3 := Lib.hid (B2.out.trans (b3.mono B2.out.size))
  clear b3
  go_wp2_with fail
  have hPb : (0 : Int) < 10000000000000000 := by omega
  have hP0 : (0 : Int) ≤ (0 : Int) := by omega
  refine (padded_big (0 : Int) k _ (HT.out.below B3.out (Nat.le_refl _)) hP0 hPb hk9).mono ?_; rintro e w4 ⟨rfl, b4⟩
  have B4 := Lib.hid (B3.out.trans (b4.mono B3.out.size))
  have hzs : (padB (0 : Int) k).size ≤ 16 := by rw [padB_size]; exact padL_len16 _ _ hP0 hPb hk9
  have hzl : (padB (0 : Int) k).data.toList = padL (0 : Int) k := padB_list _ _
  obtain ⟨Z, hZ⟩ : ∃ Z, padB (0 : Int) k = Z := ⟨_, rfl⟩
  rw [hZ] at hzs hzl ⊢
  have HZL := Lib.hid hzl
  clear b4 hZ hzl
  have hZi : (Z.size : Int) ≤ 8388608 := by omega
  have k46 : ((⟨#[46]⟩ : ByteArray).size : Int) ≤ 8388608 := by decide
  have j46 : (⟨#[46]⟩ : ByteArray).size ≤ 1 := by decide
  obtain ⟨z1, y1⟩ := cat_size ⟨#[46]⟩ Z 1 16 j46 hzs (by decide)
  obtain ⟨z2, y2⟩ := cat_size A (⟨#[46]⟩ ++ Z) 16 17 hAs z1 (by decide)
  go_wp2_with fail
  go_ret2
  refine ⟨⟨_, rfl, ?_⟩, B4.out⟩
  simp [cat_list, HAL.out, decOf, HZL.out, hk]

set_option maxRecDepth 100000 in
set_option maxHeartbeats 4000000 in
theorem dec_11b (n s U W a : Int) (k : Nat) (w : World) (htab : Tab w) (ht : isTimeN n) (hs : isScaleN s) (ha : (n.natAbs : Int) = a) (hU : ((10 ^ k : Nat) : Int) = U) (hk : 0 < k) (hk9 : k ≤ 9) (hc : portQ (a % s) U s 2 = U) (hW : a / s + 1 = W) (hn : n < 0) (hw : 0 < W) :
    Calls Tryz.prog 4 #[.int .i64 n, .int .i64 s, .int .i64 k] w fun e w' => (∃ S, e = .returned (.tuple #[.string S, .int .i64 0]) ∧ S.data.toList = decOf true W 0 k) ∧ Below w.heap.size w w' := by
  have hUb := pow9 k hk9
  rw [hU] at hUb
  obtain ⟨U0, U1⟩ := hUb
  have hTT := ht; have hSS := hs
  obtain ⟨s0, s1⟩ := hs
  obtain ⟨t0, t1⟩ := ht
  have a0 : 0 ≤ a := by omega
  have a1 : a ≤ 1000000000000000 := by omega
  have q0 : 0 ≤ a / s := Int.ediv_nonneg a0 (by omega)
  have q1 : a / s ≤ a := Int.ediv_le_self _ a0
  have r0 : 0 ≤ a % s := Int.emod_nonneg _ (by omega)
  have r1 : a % s < s := Int.emod_lt_of_pos _ (by omega)
  have hpb := part_bd r0 r1 U0 U1
  have e1 : a.tdiv s = a / s := Int.tdiv_eq_ediv_of_nonneg a0
  have e2 : a.tmod s = a % s := Int.tmod_eq_emod_of_nonneg a0
  obtain ⟨q, hq⟩ : ∃ q, a / s = q := ⟨_, rfl⟩
  obtain ⟨r, hr⟩ : ∃ r, a % s = r := ⟨_, rfl⟩
  rw [hq] at e1 q0 q1 hW
  rw [hr] at e2 r0 r1 hpb hc
  rw [hc] at hpb
  obtain ⟨p0, p1⟩ := hpb
  have sne : (s == 0) = false := by simp; omega
  have HT := Lib.hid htab; have HTT := Lib.hid hTT; have HSS := Lib.hid hSS; have HA := Lib.hid ha; have HU := Lib.hid hU; have HC := Lib.hid hc; have HQ := Lib.hid hq; have HR := Lib.hid hr
  clear htab hTT hSS hU hc hq hr
  subst hW
  have hW0 : 0 ≤ q + 1 := by omega
  have hW1 : q + 1 < 10000000000000000 := by omega
  have hUU : (U == U) = true := by simp
  have hnn : decide (n < 0) = true := by simp only [decide_eq_true_eq]; exact hn
  have hww : decide (0 < q + 1) = true := by simp only [decide_eq_true_eq]; exact hw
  have hkk : decide (0 < (k : Int)) = true := by simp only [decide_eq_true_eq]; omega
  have hkk' : decide (0 < k) = true := by simp only [decide_eq_true_eq]; omega
  obtain ⟨A, hA, hAl, hAs⟩ := itoaB (q + 1) hW0 hW1
  have hAi : (A.size : Int) ≤ 8388608 := by omega
  have HAA := Lib.hid hA; have HAL := Lib.hid hAl
  clear hA hAl
  have k45 : ((⟨#[45]⟩ : ByteArray).size : Int) ≤ 8388608 := by decide
  go_enter Tryz.func4, Tryz.ntmps4
  go_wp2_with fail
  refine (isTime_yes _ _ HTT.out).mono ?_; rintro e w' ⟨rfl, rfl⟩
  go_wp2_with fail
  refine (isScale_yes _ _ HSS.out).mono ?_; rintro e w' ⟨rfl, rfl⟩
  go_wp2_with fail
  refine (within_yes _ _ _ _ (by omega) (by omega)).mono ?_; rintro e w' ⟨rfl, rfl⟩
  go_wp2_with fail
  refine (power_any k _ hk9).mono ?_; rintro e w' ⟨rfl, rfl⟩
  rw [HU.out]
  go_wp2_with fail
  refine (size_any _ _ (by omega) (by omega)).mono ?_; rintro e w' ⟨rfl, rfl⟩
  rw [HA.out]
  go_wp2_with fail
  refine (size_any _ _ (by omega) (by omega)).mono ?_; rintro e w' ⟨rfl, rfl⟩
  rw [HA.out]
  go_wp2_with fail
  refine (portion_any _ _ _ _ _ (by omega) (by omega) (by omega) (by omega) (by omega) (by omega)).mono ?_; rintro e w2 ⟨rfl, q2, hw2⟩
  rw [HC.out]
  have B2 : Hid (Below w.heap.size w w2) := Lib.hid (by rw [hw2]; exact below_drewN (Below.refl _ _) _)
  clear hw2
  go_wp2_with fail
  refine (itoa_any _ (by omega) (by omega) _ (HT.out.below B2.out (Nat.le_refl _))).mono ?_; rintro e w3 ⟨rfl, b3⟩
  rw [HAA.out]
  have B3 := Lib.hid (B2.out.trans (b3.mono B2.out.size))
  clear b3
  go_wp2_with fail
  have hPb : (0 : Int) < 10000000000000000 := by omega
  have hP0 : (0 : Int) ≤ (0 : Int) := by omega
  refine (padded_big (0 : Int) k _ (HT.out.below B3.out (Nat.le_refl _)) hP0 hPb hk9).mono ?_; rintro e w4 ⟨rfl, b4⟩
  have B4 := Lib.hid (B3.out.trans (b4.mono B3.out.size))
  have hzs : (padB (0 : Int) k).size ≤ 16 := by rw [padB_size]; exact padL_len16 _ _ hP0 hPb hk9
  have hzl : (padB (0 : Int) k).data.toList = padL (0 : Int) k := padB_list _ _
  obtain ⟨Z, hZ⟩ : ∃ Z, padB (0 : Int) k = Z := ⟨_, rfl⟩
  rw [hZ] at hzs hzl ⊢
  have HZL := Lib.hid hzl
  clear b4 hZ hzl
  have hZi : (Z.size : Int) ≤ 8388608 := by omega
  have k46 : ((⟨#[46]⟩ : ByteArray).size : Int) ≤ 8388608 := by decide
  have j46 : (⟨#[46]⟩ : ByteArray).size ≤ 1 := by decide
  obtain ⟨z1, y1⟩ := cat_size ⟨#[46]⟩ Z 1 16 j46 hzs (by decide)
  obtain ⟨z2, y2⟩ := cat_size A (⟨#[46]⟩ ++ Z) 16 17 hAs z1 (by decide)
  go_wp2_with fail
  go_ret2
  refine ⟨⟨_, rfl, ?_⟩, B4.out⟩
  simp [cat_list, HAL.out, decOf, HZL.out, hk]

/-- The whole part and the places, after the carry. -/
structure DecP (n s : Int) (k : Nat) (W P : Int) : Prop where
  carry : (portQ ((n.natAbs : Int) % s) ((10 ^ k : Nat) : Int) s 2 = ((10 ^ k : Nat) : Int) ∧ (n.natAbs : Int) / s + 1 = W ∧ P = 0) ∨
    (portQ ((n.natAbs : Int) % s) ((10 ^ k : Nat) : Int) s 2 = P ∧ P ≠ ((10 ^ k : Nat) : Int) ∧ (n.natAbs : Int) / s = W)
theorem decP_ex (n s : Int) (k : Nat) : ∃ W P, DecP n s k W P := by
  by_cases h : portQ ((n.natAbs : Int) % s) ((10 ^ k : Nat) : Int) s 2 = ((10 ^ k : Nat) : Int)
  · exact ⟨_, _, ⟨.inl ⟨h, rfl, rfl⟩⟩⟩
  · exact ⟨_, _, ⟨.inr ⟨rfl, h, rfl⟩⟩⟩
theorem decimal_ok (n s W P : Int) (k : Nat) (w : World) (htab : Tab w) (ht : isTimeN n) (hs : isScaleN s) (hk9 : k ≤ 9) (hp : DecP n s k W P) :
    Calls Tryz.prog 4 #[.int .i64 n, .int .i64 s, .int .i64 k] w fun e w' => (∃ S, e = .returned (.tuple #[.string S, .int .i64 0]) ∧ S.data.toList = decOf (decide (n < 0 ∧ (0 < W ∨ 0 < P))) W P k) ∧ Below w.heap.size w w' := by
  have r0 : 0 ≤ (n.natAbs : Int) % s := Int.emod_nonneg _ (by have := hs.1; omega)
  have r1 : (n.natAbs : Int) % s < s := Int.emod_lt_of_pos _ (by have := hs.1; omega)
  have q0 : 0 ≤ (n.natAbs : Int) / s := Int.ediv_nonneg (by omega) (by have := hs.1; omega)
  obtain ⟨U0, U1⟩ := pow9 k hk9
  have hb := part_bd r0 r1 U0 U1
  rcases hp with ⟨⟨h1, h2, rfl⟩ | ⟨h1, h2, h3⟩⟩
  · by_cases hn : n < 0
    · rw [show decide (n < 0 ∧ (0 < W ∨ (0 : Int) < 0)) = true by simp only [decide_eq_true_eq]; omega]
      by_cases hk : 0 < k
      · exact dec_11b n s _ W _ k w htab ht hs rfl rfl hk hk9 h1 h2 hn (by omega)
      · exact dec_10b n s _ W _ k w htab ht hs rfl rfl (by omega) h1 h2 hn (by omega)
    · rw [show decide (n < 0 ∧ (0 < W ∨ (0 : Int) < 0)) = false by simp only [decide_eq_false_iff_not]; omega]
      by_cases hk : 0 < k
      · exact dec_11a n s _ W _ k w htab ht hs rfl rfl hk hk9 h1 h2 (by omega)
      · exact dec_10a n s _ W _ k w htab ht hs rfl rfl (by omega) h1 h2 (by omega)
  · rw [h1] at hb
    by_cases hn : n < 0
    · by_cases hW : 0 < W
      · rw [show decide (n < 0 ∧ (0 < W ∨ 0 < P)) = true by simp only [decide_eq_true_eq]; omega]
        by_cases hk : 0 < k
        · exact dec_01b n s _ W _ P k w htab ht hs rfl rfl hk hk9 h1 h2 h3 hn hW
        · exact dec_00b n s _ W _ P k w htab ht hs rfl rfl (by omega) h1 h2 h3 hn hW
      · by_cases hP : 0 < P
        · rw [show decide (n < 0 ∧ (0 < W ∨ 0 < P)) = true by simp only [decide_eq_true_eq]; omega]
          by_cases hk : 0 < k
          · exact dec_01c n s _ W _ P k w htab ht hs rfl rfl hk hk9 h1 h2 h3 hn (by omega) hP
          · exact dec_00c n s _ W _ P k w htab ht hs rfl rfl (by omega) h1 h2 h3 hn (by omega) hP
        · rw [show decide (n < 0 ∧ (0 < W ∨ 0 < P)) = false by simp only [decide_eq_false_iff_not]; omega]
          by_cases hk : 0 < k
          · exact dec_01d n s _ W _ P k w htab ht hs rfl rfl hk hk9 h1 h2 h3 hn (by omega) (by omega)
          · exact dec_00d n s _ W _ P k w htab ht hs rfl rfl (by omega) h1 h2 h3 hn (by omega) (by omega)
    · rw [show decide (n < 0 ∧ (0 < W ∨ 0 < P)) = false by simp only [decide_eq_false_iff_not]; omega]
      by_cases hk : 0 < k
      · exact dec_01a n s _ W _ P k w htab ht hs rfl rfl hk hk9 h1 h2 h3 (by omega)
      · exact dec_00a n s _ W _ P k w htab ht hs rfl rfl (by omega) h1 h2 h3 (by omega)

theorem decimal_bad (n s k : Int) (w : World) (h : ¬ (isTimeN n ∧ isScaleN s ∧ 0 ≤ k ∧ k ≤ 9)) :
    Calls Tryz.prog 4 #[.int .i64 n, .int .i64 s, .int .i64 k] w fun e w' => e = .returned (.tuple #[.string ⟨#[]⟩, .int .i64 1]) ∧ w = w' := by
  by_cases ht : isTimeN n
  · have HT := Lib.hid ht
    by_cases hs : isScaleN s
    · have HS := Lib.hid hs
      have hk : k < 0 ∨ 9 < k := by
        by_cases h9 : 0 ≤ k ∧ k ≤ 9
        · exact absurd ⟨ht, hs, h9⟩ h
        · omega
      have HK := Lib.hid hk
      clear ht hs h hk
      go_enter Tryz.func4, Tryz.ntmps4
      go_wp2_with fail
      refine (isTime_yes _ _ HT.out).mono ?_; rintro e w' ⟨rfl, rfl⟩
      go_wp2_with fail
      refine (isScale_yes _ _ HS.out).mono ?_; rintro e w' ⟨rfl, rfl⟩
      go_wp2_with fail
      refine (within_no _ _ _ _ HK.out).mono ?_; rintro e w' ⟨rfl, rfl⟩
      go_wp2_with fail
      go_ret2
      exact ⟨rfl, rfl⟩
    · have HS := Lib.hid hs
      clear ht hs h
      go_enter Tryz.func4, Tryz.ntmps4
      go_wp2_with fail
      refine (isTime_yes _ _ HT.out).mono ?_; rintro e w' ⟨rfl, rfl⟩
      go_wp2_with fail
      refine (isScale_no _ _ HS.out).mono ?_; rintro e w' ⟨rfl, rfl⟩
      go_wp2_with fail
      go_ret2
      exact ⟨rfl, rfl⟩
  · have HT := Lib.hid ht
    clear ht h
    go_enter Tryz.func4, Tryz.ntmps4
    go_wp2_with fail
    refine (isTime_no _ _ HT.out).mono ?_; rintro e w' ⟨rfl, rfl⟩
    go_wp2_with fail
    go_ret2
    exact ⟨rfl, rfl⟩


end Go.Proofs.YtppaklifacadpaaGreatDoor
