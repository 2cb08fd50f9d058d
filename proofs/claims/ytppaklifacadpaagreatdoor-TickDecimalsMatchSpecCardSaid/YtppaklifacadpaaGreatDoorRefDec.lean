/- The reference's Decimal, as the program's. -/
import Derived.Test.YtppaklifacadpaaGreatDoorDecRefPlain
import Derived.Test.YtppaklifacadpaaGreatDoorRefCvt
namespace Go.Proofs.YtppaklifacadpaaGreatDoor
set_option linter.unusedVariables false
set_option linter.unusedSimpArgs false
open Go.RowKit

theorem canon_len7 (a : List Int) (ha : Canon a) (h : lval a < 10000 ^ 7) : a.length ≤ 7 := by
  apply Decidable.byContradiction; intro hx
  have h1 := canon_low a ha (by omega)
  have h2 := lpow_mono (show 7 ≤ a.length - 1 by omega)
  omega

theorem digits_exact (u : Value) (zs : List Int) (w : World) (htab : Tab w) (hu : Lim w u zs) (cz : Canon zs) (hn : zs.length ≤ 30) :
    Calls Tryz.prog 21 #[u] w fun e w' => (∃ S : ByteArray, e = .returned (.string S) ∧ S.data.toList = Lib.decDigits (lval zs).toNat) ∧ Below w.heap.size w w' := by
  rcases hu with ⟨a, c, rfl, hcm, rfl⟩ | ⟨b, o, c, rfl, hne, hlt, hl, hm, hc⟩
  · go_enter Tryz.func21, Tryz.ntmps21
    go_wp2_with fail
    go_ret
    refine ⟨⟨⟨#[48]⟩, rfl, ?_⟩, Below.refl _ _⟩
    rw [show (lval []).toNat = 0 from rfl, Lib.decDigits_one (by omega)]; rfl
  · refine (digits_walk b o zs.length c zs w htab rfl (List.length_pos_iff.2 hne) hn hl hm hlt cz hc).mono ?_
    rintro e w' ⟨⟨S, rfl, h⟩, b⟩
    refine ⟨⟨S, rfl, ?_⟩, b⟩
    have hv := h.eq
    rw [List.drop_zero] at hv
    rw [canon_digits _ h.digs h.ne (.inl h.low)]
    congr 1; omega

theorem dec_len30 (u : Nat) (hu : u < 1000000000000000000000000000000) : (Lib.decDigits u).length ≤ 30 := by
  by_cases h0 : 0 < u
  · have h1 := (decDigits_low u).2 h0
    apply Decidable.byContradiction; intro hx
    have := Nat.pow_le_pow_right (show 1 ≤ 10 by omega) (show 30 ≤ (Lib.decDigits u).length - 1 by omega)
    omega
  · rw [Lib.decDigits_one (by omega)]; simp
theorem padL_digits (Q : Int) (h : 0 ≤ Q) : padL Q 1 = Lib.decDigits Q.toNat := by
  have hl := List.length_pos_iff.2 (decDigits_low Q.toNat).1
  unfold padL
  rw [show 1 - (Lib.decDigits Q.toNat).length = 0 by omega]; rfl

set_option maxRecDepth 100000 in
set_option maxHeartbeats 8000000 in
theorem rdecimal_ok (n s W P : Int) (k : Nat) (w : World) (htab : Tab w) (ht : isTimeN n) (hs : isScaleN s) (hk9 : k ≤ 9) (hp : DecP n s k W P) :
    Calls Tryz.prog 5 #[.int .i64 n, .int .i64 s, .int .i64 k] w fun e w' => (∃ S, e = .returned (.tuple #[.string S, .int .i64 0]) ∧ S.data.toList = decOf (decide (n < 0 ∧ (0 < W ∨ 0 < P))) W P k) ∧ Below w.heap.size w w' := by
  have HT := Lib.hid htab; have HTM := Lib.hid ht; have HSC := Lib.hid hs
  obtain ⟨t0, t1⟩ := ht
  obtain ⟨s0, s1⟩ := hs
  have hQ := dec_Q HSC.out hk9 hp
  have hU9 := pow9 k hk9
  have HQ := Lib.hid hQ; have HU9 := Lib.hid hU9
  have hk1 : decide ((k : Int) < 0) = false := by simp only [decide_eq_false_iff_not]; omega
  have hk2 : decide (9 < (k : Int)) = false := by simp only [decide_eq_false_iff_not]; omega
  have hk3 : decide (9 < k) = false := by simp only [decide_eq_false_iff_not]; omega
  clear htab hp hQ hU9
  go_enter Tryz.func5, Tryz.ntmps5
  go_wp2_with fail
  refine (rtime_yes _ _ HTM.out).mono ?_; rintro e w' ⟨rfl, rfl⟩
  go_wp2_with fail
  refine (rscale_yes _ _ HSC.out).mono ?_; rintro e w' ⟨rfl, rfl⟩
  go_wp2_with fail
  go_loopw [8, 9] (fun vn vi wr => ∃ (j : Nat) (N : Int), j ≤ k ∧ vn = .int .i64 N ∧ vi = .int .i64 j ∧ 1 ≤ N ∧ N ≤ 1000000000 ∧ Hid (N = ((10 ^ j : Nat) : Int)) ∧ w = wr) (fun _ vi _ => k - (intOf vi).toNat)
  case atStart => exact ⟨0, 1, Nat.zero_le _, rfl, rfl, by omega, by omega, Lib.hid rfl, rfl⟩
  case round =>
    obtain ⟨j, N, hj, rfl, rfl, n0, n1, HN, rfl⟩ := hrel
    by_cases hlt : j < k
    · have hb := pow9 (j + 1) (by omega)
      have hst := pow_step j
      rw [← HN.out] at hst
      rw [hst] at hb
      obtain ⟨b0, b1⟩ := hb
      have HST := Lib.hid hst
      clear hst
      go_wp2_with fail
      go_roundw
      case rel => exact ⟨j + 1, N * 10, by omega, by go_num, by go_num, b0, b1, Lib.hid HST.out.symm, trivial⟩
      case measure => simp [intOf]; omega
    · have hjk : j = k := by omega
      subst hjk
      have hlt' : decide (j < j) = false := by simp
      clear hlt
      go_wp2_with fail
      refine (turned_num n s N _ HT.out (by omega) (by omega) (by omega) (by omega) (by omega) (by omega)).mono ?_; rintro e w2 ⟨⟨r2, rfl, k2⟩, b2⟩
      have K2 := Lib.hid k2; have B2 := Lib.hid b2
      clear k2 b2
      go_wp2_with fail
      refine (round_num r2 (n * N) s _ 2 90 K2.out (by omega) (by omega)).mono ?_; rintro e w3 ⟨⟨r3, rfl, qs, g1, g2, g3, g4⟩, b3⟩
      have B3 := Lib.hid (B2.out.trans (b3.mono B2.out.size))
      have hrd := HQ.out (decide (n * N < 0))
      rw [← HN.out] at hrd
      have hna : ((n * N).natAbs : Int) = (n.natAbs : Int) * N := by
        rw [Int.natAbs_mul, Int.natCast_mul]; congr 1; omega
      rw [hna, hrd.1] at g3
      obtain ⟨hrd1, hW, hP, hPU⟩ := hrd
      obtain ⟨Q, hQ⟩ : ∃ Q, W * N + P = Q := ⟨_, rfl⟩
      rw [hQ] at g3 hrd1
      have hWN : 0 ≤ W * N := Int.mul_nonneg hW (by omega)
      have hQ0 : 0 ≤ Q := by omega
      have hQb : Q ≤ 1000000000000000000000000 + 1 := by
        rw [← hrd1]
        have h1 : (n.natAbs : Int) * N ≤ 1000000000000000 * 1000000000 := Int.mul_le_mul (by omega) (by omega) (by omega) (by omega)
        have h2 : (n.natAbs : Int) * N / s ≤ (n.natAbs : Int) * N := Int.ediv_le_self _ (Int.mul_nonneg (by omega) (by omega))
        unfold rdV
        split <;> omega
      have hq7 := canon_len7 qs g2 (by rw [g3]; omega)
      have hpos := canon_pos qs g2
      rw [g3, ← List.length_pos_iff] at hpos
      have hsgn : decide (n < 0 ∧ (0 < W ∨ 0 < P)) = decide (n < 0 ∧ 0 < Q) := by
        apply decide_eq_decide.2
        have hWN2 : 0 < W → 0 < W * N := fun h => Int.mul_pos h (by omega)
        constructor
        · rintro ⟨a, b | b⟩
          · have := hWN2 b; exact ⟨a, by omega⟩
          · exact ⟨a, by omega⟩
        · rintro ⟨a, b⟩
          refine ⟨a, ?_⟩
          by_cases hw0 : 0 < W
          · exact .inl hw0
          · have : W = 0 := by omega
            subst this
            rw [Int.zero_mul] at hQ
            exact .inr (by omega)
      obtain ⟨aq, cq, hr3, -⟩ := g1.parts
      have G1 := Lib.hid g1; have G2 := Lib.hid g2; have G3 := Lib.hid g3; have HPOS := Lib.hid hpos; have HSG := Lib.hid hsgn; have HQQ := Lib.hid hQ
      clear g1 g2 g3 b3 hpos hsgn hQ hna hrd1 hWN g4
      subst hr3
      go_wp2_with fail
      refine (digits_exact _ qs _ (HT.out.below B3.out (Nat.le_refl _)) G1.out G2.out (by omega)).mono ?_; rintro e w4 ⟨⟨S, rfl, hS⟩, b4⟩
      have B4 := Lib.hid (B3.out.trans (b4.mono B3.out.size))
      rw [G3.out] at hS
      have HS := Lib.hid hS
      clear hS b4
      have hpl := text_split (Q := Q) (k := j) hW hP (by rw [← HN.out]; exact hPU) (by rw [← HN.out]; exact HQQ.out.symm)
      have HPL := Lib.hid hpl
      clear hpl
      go_wp2_with fail
      have hl30 := dec_len30 Q.toNat (by omega)
      have hll0 := List.length_pos_iff.2 (decDigits_low Q.toNat).1
      obtain ⟨L, hL⟩ : ∃ L, Lib.decDigits Q.toNat = L := ⟨_, rfl⟩
      rw [hL] at hl30 hll0
      have hS := HS.out
      rw [hL] at hS
      have hSz : S.size = L.length := by rw [size_list S _ hS]
      have HL := Lib.hid hL; have HS2 : Hid (S.data.toList = List.replicate 0 48 ++ L) := Lib.hid (by rw [hS]; rfl)
      clear hL hS
      go_loopg [11] (j + 1 - L.length) (fun m p wr => ∃ (Z : ByteArray) (c : Nat), p = .string Z ∧ Hid (Z.data.toList = List.replicate c 48 ++ L) ∧ c ≤ j + 1 - L.length ∧ Hid (m = j + 1 - L.length - c) ∧ Z.size = c + L.length ∧ w4 = wr)
      case atStart => exact ⟨_, 0, rfl, HS2, Nat.zero_le _, Lib.hid (by omega), by omega, rfl⟩
      case round =>
        obtain ⟨Z, c, rfl, HZ, hc, HM, hZs, rfl⟩ := hrel
        have hzi : (Z.size : Int) ≤ 8388608 := by omega
        have hcl : ((⟨#[48]⟩ : ByteArray).size : Int) ≤ 8388608 := by decide
        by_cases hle : Z.size ≤ j
        · have hle' : decide (Z.size ≤ j) = true := by simp only [decide_eq_true_eq]; exact hle
          have hnew : ((⟨#[48]⟩ : ByteArray) ++ Z).data.toList = List.replicate (c + 1) 48 ++ L := by
            rw [cat_list, HZ.out, List.replicate_succ]; rfl
          have HNEW := Lib.hid hnew
          have hsz2 : ((⟨#[48]⟩ : ByteArray) ++ Z).size = c + 1 + L.length := by
            rw [ByteArray.size_append, hZs]
            show 1 + (c + L.length) = _
            omega
          have HSZ2 := Lib.hid hsz2
          have hcc : c + 1 ≤ j + 1 - L.length := by omega
          clear hnew hsz2 hle
          go_wp2_with fail
          go_roundg (j + 1 - L.length - (c + 1))
          case measure => have := HM.out; omega
          case rel => exact ⟨_, c + 1, rfl, HNEW, hcc, Lib.hid rfl, HSZ2.out, rfl⟩
        · have hle' : decide (Z.size ≤ j) = false := by simp only [decide_eq_false_iff_not]; exact hle
          have hcc : c = j + 1 - L.length := by omega
          have hzl : Z.data.toList = padL Q (j + 1) := by
            rw [HZ.out, hcc]; unfold padL; rw [HL.out]
          have HZL := Lib.hid hzl
          have hZ40 : Z.size ≤ 40 := by omega
          clear hle hzl hcc hZs
          have k45 : ((⟨#[45]⟩ : ByteArray).size : Int) ≤ 8388608 := by decide
          have j45 : (⟨#[45]⟩ : ByteArray).size ≤ 1 := by decide
          have k46 : ((⟨#[46]⟩ : ByteArray).size : Int) ≤ 8388608 := by decide
          have j46 : (⟨#[46]⟩ : ByteArray).size ≤ 1 := by decide
          by_cases hn : n < 0 <;> by_cases hq : 0 < Q <;> by_cases hj : 0 < j
          · have hsg : decide (n < 0 ∧ (0 < W ∨ 0 < P)) = true := by rw [HSG.out]; simp only [decide_eq_true_eq]; omega
            have HSGF := Lib.hid hsg
            clear hsg
            have d1 : decide (n < 0) = true := by simp only [decide_eq_true_eq]; omega
            have d2 : decide (0 < qs.length) = true := by have := HPOS.out; simp only [decide_eq_true_eq]; omega
            have d2' : decide (0 < (qs.length : Int)) = true := by have := HPOS.out; simp only [decide_eq_true_eq]; omega
            have d3 : decide (0 < j) = true := by simp only [decide_eq_true_eq]; omega
            have d3' : decide (0 < (j : Int)) = true := by simp only [decide_eq_true_eq]; omega
            obtain ⟨m, hm⟩ : ∃ m, Z.size - j = m := ⟨_, rfl⟩
            obtain ⟨hx1, hx2, hx3⟩ := HPL.out hj
            have hzl := HZL.out
            rw [← hzl, ← size_list Z _ rfl, hm] at hx2 hx3
            rw [← hzl, ← size_list Z _ rfl] at hx1
            have hA : (Z.extract 0 m).data.toList = Lib.decDigits W.toNat := by rw [sub_upto Z _ rfl]; exact hx2
            have hB : (Z.extract m Z.size).data.toList = padL P j := by rw [sub_from Z _ rfl]; exact hx3
            have hmz : m ≤ Z.size := by omega
            have hwr : IntKind.i64.wrap ((Z.size : Int) - (j : Int)) = (m : Int) := by rw [show (Z.size : Int) - (j : Int) = (m : Int) by omega]; exact IntWalk.i64_in _ ⟨by omega, by omega⟩
            have hAs : (Z.extract 0 m).size ≤ 40 := by rw [ByteArray.size_extract]; omega
            have hBs : (Z.extract m Z.size).size ≤ 40 := by rw [ByteArray.size_extract]; omega
            have hAi : ((Z.extract 0 m).size : Int) ≤ 8388608 := by omega
            have hBi : ((Z.extract m Z.size).size : Int) ≤ 8388608 := by omega
            obtain ⟨z1, y1⟩ := cat_size (Z.extract 0 m) ⟨#[46]⟩ 40 1 hAs j46 (by decide)
            obtain ⟨z2, y2⟩ := cat_size (Z.extract 0 m ++ ⟨#[46]⟩) (Z.extract m Z.size) 41 40 z1 hBs (by decide)
            have HA := Lib.hid hA; have HB := Lib.hid hB; have HJ := Lib.hid hj
            have hm0 : (0 : Int) ≤ (m : Int) := by omega
            clear hm hx1 hx2 hx3 hzl hA hB hj
            clear hn hq
            go_wp2_with fail
            go_quiet (fail)
            go_wp2_with fail
            go_ret2
            refine ⟨⟨_, rfl, ?_⟩, below_drewN B4.out _⟩
            rw [HSGF.out]
            simp only [decOf, cat_list, HA.out, HB.out, if_pos HJ.out]
            simp
          · have hsg : decide (n < 0 ∧ (0 < W ∨ 0 < P)) = true := by rw [HSG.out]; simp only [decide_eq_true_eq]; omega
            have HSGF := Lib.hid hsg
            clear hsg
            have d1 : decide (n < 0) = true := by simp only [decide_eq_true_eq]; omega
            have d2 : decide (0 < qs.length) = true := by have := HPOS.out; simp only [decide_eq_true_eq]; omega
            have d2' : decide (0 < (qs.length : Int)) = true := by have := HPOS.out; simp only [decide_eq_true_eq]; omega
            have d3 : decide (0 < j) = false := by simp only [decide_eq_false_iff_not]; omega
            have d3' : decide (0 < (j : Int)) = false := by simp only [decide_eq_false_iff_not]; omega
            have hj0 : j = 0 := by omega
            have HJ0 : Hid (¬ 0 < j) := Lib.hid (by omega)
            have hN1 : N = 1 := by rw [HN.out, hj0]; rfl
            have hP0 : P = 0 := by omega
            have hWQ : W = Q := by have := HQQ.out; rw [hN1, hP0] at this; omega
            have hzl := HZL.out
            rw [hj0, padL_digits Q hQ0, ← hWQ] at hzl
            have HZZ := Lib.hid hzl
            clear hN1 hP0 hWQ hzl hj hj0
            clear hn hq
            go_wp2_with fail
            go_ret2
            refine ⟨⟨_, rfl, ?_⟩, B4.out⟩
            rw [HSGF.out]
            simp only [decOf, cat_list, HZZ.out, if_neg HJ0.out]
            simp
          · have hsg : decide (n < 0 ∧ (0 < W ∨ 0 < P)) = false := by rw [HSG.out]; simp only [decide_eq_false_iff_not]; omega
            have HSGF := Lib.hid hsg
            clear hsg
            have d1 : decide (n < 0) = true := by simp only [decide_eq_true_eq]; omega
            have d2 : decide (0 < qs.length) = false := by have := HPOS.out; simp only [decide_eq_false_iff_not]; omega
            have d2' : decide (0 < (qs.length : Int)) = false := by have := HPOS.out; simp only [decide_eq_false_iff_not]; omega
            have d3 : decide (0 < j) = true := by simp only [decide_eq_true_eq]; omega
            have d3' : decide (0 < (j : Int)) = true := by simp only [decide_eq_true_eq]; omega
            obtain ⟨m, hm⟩ : ∃ m, Z.size - j = m := ⟨_, rfl⟩
            obtain ⟨hx1, hx2, hx3⟩ := HPL.out hj
            have hzl := HZL.out
            rw [← hzl, ← size_list Z _ rfl, hm] at hx2 hx3
            rw [← hzl, ← size_list Z _ rfl] at hx1
            have hA : (Z.extract 0 m).data.toList = Lib.decDigits W.toNat := by rw [sub_upto Z _ rfl]; exact hx2
            have hB : (Z.extract m Z.size).data.toList = padL P j := by rw [sub_from Z _ rfl]; exact hx3
            have hmz : m ≤ Z.size := by omega
            have hwr : IntKind.i64.wrap ((Z.size : Int) - (j : Int)) = (m : Int) := by rw [show (Z.size : Int) - (j : Int) = (m : Int) by omega]; exact IntWalk.i64_in _ ⟨by omega, by omega⟩
            have hAs : (Z.extract 0 m).size ≤ 40 := by rw [ByteArray.size_extract]; omega
            have hBs : (Z.extract m Z.size).size ≤ 40 := by rw [ByteArray.size_extract]; omega
            have hAi : ((Z.extract 0 m).size : Int) ≤ 8388608 := by omega
            have hBi : ((Z.extract m Z.size).size : Int) ≤ 8388608 := by omega
            obtain ⟨z1, y1⟩ := cat_size (Z.extract 0 m) ⟨#[46]⟩ 40 1 hAs j46 (by decide)
            obtain ⟨z2, y2⟩ := cat_size (Z.extract 0 m ++ ⟨#[46]⟩) (Z.extract m Z.size) 41 40 z1 hBs (by decide)
            have HA := Lib.hid hA; have HB := Lib.hid hB; have HJ := Lib.hid hj
            have hm0 : (0 : Int) ≤ (m : Int) := by omega
            clear hm hx1 hx2 hx3 hzl hA hB hj
            clear hn hq
            go_wp2_with fail
            go_quiet (fail)
            go_wp2_with fail
            go_ret2
            refine ⟨⟨_, rfl, ?_⟩, below_drewN B4.out _⟩
            rw [HSGF.out]
            simp only [decOf, cat_list, HA.out, HB.out, if_pos HJ.out]
            simp
          · have hsg : decide (n < 0 ∧ (0 < W ∨ 0 < P)) = false := by rw [HSG.out]; simp only [decide_eq_false_iff_not]; omega
            have HSGF := Lib.hid hsg
            clear hsg
            have d1 : decide (n < 0) = true := by simp only [decide_eq_true_eq]; omega
            have d2 : decide (0 < qs.length) = false := by have := HPOS.out; simp only [decide_eq_false_iff_not]; omega
            have d2' : decide (0 < (qs.length : Int)) = false := by have := HPOS.out; simp only [decide_eq_false_iff_not]; omega
            have d3 : decide (0 < j) = false := by simp only [decide_eq_false_iff_not]; omega
            have d3' : decide (0 < (j : Int)) = false := by simp only [decide_eq_false_iff_not]; omega
            have hj0 : j = 0 := by omega
            have HJ0 : Hid (¬ 0 < j) := Lib.hid (by omega)
            have hN1 : N = 1 := by rw [HN.out, hj0]; rfl
            have hP0 : P = 0 := by omega
            have hWQ : W = Q := by have := HQQ.out; rw [hN1, hP0] at this; omega
            have hzl := HZL.out
            rw [hj0, padL_digits Q hQ0, ← hWQ] at hzl
            have HZZ := Lib.hid hzl
            clear hN1 hP0 hWQ hzl hj hj0
            clear hn hq
            go_wp2_with fail
            go_ret2
            refine ⟨⟨_, rfl, ?_⟩, B4.out⟩
            rw [HSGF.out]
            simp only [decOf, cat_list, HZZ.out, if_neg HJ0.out]
            simp
          · have hsg : decide (n < 0 ∧ (0 < W ∨ 0 < P)) = false := by rw [HSG.out]; simp only [decide_eq_false_iff_not]; omega
            have HSGF := Lib.hid hsg
            clear hsg
            have d1 : decide (n < 0) = false := by simp only [decide_eq_false_iff_not]; omega
            have d2 : decide (0 < qs.length) = true := by have := HPOS.out; simp only [decide_eq_true_eq]; omega
            have d2' : decide (0 < (qs.length : Int)) = true := by have := HPOS.out; simp only [decide_eq_true_eq]; omega
            have d3 : decide (0 < j) = true := by simp only [decide_eq_true_eq]; omega
            have d3' : decide (0 < (j : Int)) = true := by simp only [decide_eq_true_eq]; omega
            obtain ⟨m, hm⟩ : ∃ m, Z.size - j = m := ⟨_, rfl⟩
            obtain ⟨hx1, hx2, hx3⟩ := HPL.out hj
            have hzl := HZL.out
            rw [← hzl, ← size_list Z _ rfl, hm] at hx2 hx3
            rw [← hzl, ← size_list Z _ rfl] at hx1
            have hA : (Z.extract 0 m).data.toList = Lib.decDigits W.toNat := by rw [sub_upto Z _ rfl]; exact hx2
            have hB : (Z.extract m Z.size).data.toList = padL P j := by rw [sub_from Z _ rfl]; exact hx3
            have hmz : m ≤ Z.size := by omega
            have hwr : IntKind.i64.wrap ((Z.size : Int) - (j : Int)) = (m : Int) := by rw [show (Z.size : Int) - (j : Int) = (m : Int) by omega]; exact IntWalk.i64_in _ ⟨by omega, by omega⟩
            have hAs : (Z.extract 0 m).size ≤ 40 := by rw [ByteArray.size_extract]; omega
            have hBs : (Z.extract m Z.size).size ≤ 40 := by rw [ByteArray.size_extract]; omega
            have hAi : ((Z.extract 0 m).size : Int) ≤ 8388608 := by omega
            have hBi : ((Z.extract m Z.size).size : Int) ≤ 8388608 := by omega
            obtain ⟨z1, y1⟩ := cat_size (Z.extract 0 m) ⟨#[46]⟩ 40 1 hAs j46 (by decide)
            obtain ⟨z2, y2⟩ := cat_size (Z.extract 0 m ++ ⟨#[46]⟩) (Z.extract m Z.size) 41 40 z1 hBs (by decide)
            have HA := Lib.hid hA; have HB := Lib.hid hB; have HJ := Lib.hid hj
            have hm0 : (0 : Int) ≤ (m : Int) := by omega
            clear hm hx1 hx2 hx3 hzl hA hB hj
            clear hn hq
            go_wp2_with fail
            go_quiet (fail)
            go_wp2_with fail
            go_ret2
            refine ⟨⟨_, rfl, ?_⟩, below_drewN B4.out _⟩
            rw [HSGF.out]
            simp only [decOf, cat_list, HA.out, HB.out, if_pos HJ.out]
            simp
          · have hsg : decide (n < 0 ∧ (0 < W ∨ 0 < P)) = false := by rw [HSG.out]; simp only [decide_eq_false_iff_not]; omega
            have HSGF := Lib.hid hsg
            clear hsg
            have d1 : decide (n < 0) = false := by simp only [decide_eq_false_iff_not]; omega
            have d2 : decide (0 < qs.length) = true := by have := HPOS.out; simp only [decide_eq_true_eq]; omega
            have d2' : decide (0 < (qs.length : Int)) = true := by have := HPOS.out; simp only [decide_eq_true_eq]; omega
            have d3 : decide (0 < j) = false := by simp only [decide_eq_false_iff_not]; omega
            have d3' : decide (0 < (j : Int)) = false := by simp only [decide_eq_false_iff_not]; omega
            have hj0 : j = 0 := by omega
            have HJ0 : Hid (¬ 0 < j) := Lib.hid (by omega)
            have hN1 : N = 1 := by rw [HN.out, hj0]; rfl
            have hP0 : P = 0 := by omega
            have hWQ : W = Q := by have := HQQ.out; rw [hN1, hP0] at this; omega
            have hzl := HZL.out
            rw [hj0, padL_digits Q hQ0, ← hWQ] at hzl
            have HZZ := Lib.hid hzl
            clear hN1 hP0 hWQ hzl hj hj0
            clear hn hq
            go_wp2_with fail
            go_ret2
            refine ⟨⟨_, rfl, ?_⟩, B4.out⟩
            rw [HSGF.out]
            simp only [decOf, cat_list, HZZ.out, if_neg HJ0.out]
            simp
          · have hsg : decide (n < 0 ∧ (0 < W ∨ 0 < P)) = false := by rw [HSG.out]; simp only [decide_eq_false_iff_not]; omega
            have HSGF := Lib.hid hsg
            clear hsg
            have d1 : decide (n < 0) = false := by simp only [decide_eq_false_iff_not]; omega
            have d2 : decide (0 < qs.length) = false := by have := HPOS.out; simp only [decide_eq_false_iff_not]; omega
            have d2' : decide (0 < (qs.length : Int)) = false := by have := HPOS.out; simp only [decide_eq_false_iff_not]; omega
            have d3 : decide (0 < j) = true := by simp only [decide_eq_true_eq]; omega
            have d3' : decide (0 < (j : Int)) = true := by simp only [decide_eq_true_eq]; omega
            obtain ⟨m, hm⟩ : ∃ m, Z.size - j = m := ⟨_, rfl⟩
            obtain ⟨hx1, hx2, hx3⟩ := HPL.out hj
            have hzl := HZL.out
            rw [← hzl, ← size_list Z _ rfl, hm] at hx2 hx3
            rw [← hzl, ← size_list Z _ rfl] at hx1
            have hA : (Z.extract 0 m).data.toList = Lib.decDigits W.toNat := by rw [sub_upto Z _ rfl]; exact hx2
            have hB : (Z.extract m Z.size).data.toList = padL P j := by rw [sub_from Z _ rfl]; exact hx3
            have hmz : m ≤ Z.size := by omega
            have hwr : IntKind.i64.wrap ((Z.size : Int) - (j : Int)) = (m : Int) := by rw [show (Z.size : Int) - (j : Int) = (m : Int) by omega]; exact IntWalk.i64_in _ ⟨by omega, by omega⟩
            have hAs : (Z.extract 0 m).size ≤ 40 := by rw [ByteArray.size_extract]; omega
            have hBs : (Z.extract m Z.size).size ≤ 40 := by rw [ByteArray.size_extract]; omega
            have hAi : ((Z.extract 0 m).size : Int) ≤ 8388608 := by omega
            have hBi : ((Z.extract m Z.size).size : Int) ≤ 8388608 := by omega
            obtain ⟨z1, y1⟩ := cat_size (Z.extract 0 m) ⟨#[46]⟩ 40 1 hAs j46 (by decide)
            obtain ⟨z2, y2⟩ := cat_size (Z.extract 0 m ++ ⟨#[46]⟩) (Z.extract m Z.size) 41 40 z1 hBs (by decide)
            have HA := Lib.hid hA; have HB := Lib.hid hB; have HJ := Lib.hid hj
            have hm0 : (0 : Int) ≤ (m : Int) := by omega
            clear hm hx1 hx2 hx3 hzl hA hB hj
            clear hn hq
            go_wp2_with fail
            go_quiet (fail)
            go_wp2_with fail
            go_ret2
            refine ⟨⟨_, rfl, ?_⟩, below_drewN B4.out _⟩
            rw [HSGF.out]
            simp only [decOf, cat_list, HA.out, HB.out, if_pos HJ.out]
            simp
          · have hsg : decide (n < 0 ∧ (0 < W ∨ 0 < P)) = false := by rw [HSG.out]; simp only [decide_eq_false_iff_not]; omega
            have HSGF := Lib.hid hsg
            clear hsg
            have d1 : decide (n < 0) = false := by simp only [decide_eq_false_iff_not]; omega
            have d2 : decide (0 < qs.length) = false := by have := HPOS.out; simp only [decide_eq_false_iff_not]; omega
            have d2' : decide (0 < (qs.length : Int)) = false := by have := HPOS.out; simp only [decide_eq_false_iff_not]; omega
            have d3 : decide (0 < j) = false := by simp only [decide_eq_false_iff_not]; omega
            have d3' : decide (0 < (j : Int)) = false := by simp only [decide_eq_false_iff_not]; omega
            have hj0 : j = 0 := by omega
            have HJ0 : Hid (¬ 0 < j) := Lib.hid (by omega)
            have hN1 : N = 1 := by rw [HN.out, hj0]; rfl
            have hP0 : P = 0 := by omega
            have hWQ : W = Q := by have := HQQ.out; rw [hN1, hP0] at this; omega
            have hzl := HZL.out
            rw [hj0, padL_digits Q hQ0, ← hWQ] at hzl
            have HZZ := Lib.hid hzl
            clear hN1 hP0 hWQ hzl hj hj0
            clear hn hq
            go_wp2_with fail
            go_ret2
            refine ⟨⟨_, rfl, ?_⟩, B4.out⟩
            rw [HSGF.out]
            simp only [decOf, cat_list, HZZ.out, if_neg HJ0.out]
            simp

end Go.Proofs.YtppaklifacadpaaGreatDoor
