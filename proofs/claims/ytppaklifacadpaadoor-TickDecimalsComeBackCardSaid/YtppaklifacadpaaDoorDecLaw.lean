/- The law: a time of a scale that is a power of ten is read from its decimal as it was, walked. -/
import Derived.Test.YtppaklifacadpaaDoorDecBack
namespace Go.Proofs.YtppaklifacadpaaDoor
set_option linter.unusedVariables false
set_option linter.unusedSimpArgs false
open Go.RowKit

set_option maxRecDepth 100000 in
set_option maxHeartbeats 4000000 in
theorem decLaw_out (n p k way : Int) (w : World) (h : ¬ (0 ≤ p ∧ p ≤ 9 ∧ p ≤ k ∧ k ≤ 9)) :
    Calls Tryd.prog 3 #[.int .i64 n, .int .i64 p, .int .i64 k, .int .i64 way] w fun e w' => e = .returned (.bool true) ∧ Below w.heap.size w w' := by
  by_cases h1 : p < 0
  · have d1 : decide (p < 0) = true := by simp only [decide_eq_true_eq]; exact h1
    clear h h1
    go_enter Tryd.func3, Tryd.ntmps3
    go_wp2_with fail
    refine (awake_any _).mono ?_; rintro e w5 ⟨rfl, k5, rfl⟩
    go_wp2_with fail
    go_ret
    exact ⟨rfl, below_drewN (Below.refl _ _) _⟩
  have d1 : decide (p < 0) = false := by simp only [decide_eq_false_iff_not]; exact h1
  by_cases h2 : 9 < p
  · have d2 : decide (9 < p) = true := by simp only [decide_eq_true_eq]; exact h2
    clear h h1 h2
    go_enter Tryd.func3, Tryd.ntmps3
    go_wp2_with fail
    refine (awake_any _).mono ?_; rintro e w5 ⟨rfl, k5, rfl⟩
    go_wp2_with fail
    go_ret
    exact ⟨rfl, below_drewN (Below.refl _ _) _⟩
  have d2 : decide (9 < p) = false := by simp only [decide_eq_false_iff_not]; exact h2
  by_cases h3 : k < p
  · have d3 : decide (k < p) = true := by simp only [decide_eq_true_eq]; exact h3
    clear h h1 h2 h3
    go_enter Tryd.func3, Tryd.ntmps3
    go_wp2_with fail
    refine (awake_any _).mono ?_; rintro e w5 ⟨rfl, k5, rfl⟩
    go_wp2_with fail
    go_ret
    exact ⟨rfl, below_drewN (Below.refl _ _) _⟩
  have d3 : decide (k < p) = false := by simp only [decide_eq_false_iff_not]; exact h3
  have h4 : 9 < k := by omega
  have d4 : decide (9 < k) = true := by simp only [decide_eq_true_eq]; exact h4
  clear h h1 h2 h3 h4
  go_enter Tryd.func3, Tryd.ntmps3
  go_wp2_with fail
  refine (awake_any _).mono ?_; rintro e w5 ⟨rfl, k5, rfl⟩
  go_wp2_with fail
  go_ret
  exact ⟨rfl, below_drewN (Below.refl _ _) _⟩

set_option maxRecDepth 100000 in
set_option maxHeartbeats 4000000 in
theorem decLaw_in (n way : Int) (p k : Nat) (w : World) (htab : Tab w) (hpk : p ≤ k) (hk : k ≤ 9) :
    Calls Tryd.prog 3 #[.int .i64 n, .int .i64 p, .int .i64 k, .int .i64 way] w fun e w' => e = .returned (.bool true) ∧ Below w.heap.size w w' := by
  have HT := Lib.hid htab
  have hp9 : p ≤ 9 := by omega
  have d1 : decide ((p : Int) < 0) = false := by simp only [decide_eq_false_iff_not]; omega
  have d2 : decide (9 < (p : Int)) = false := by simp only [decide_eq_false_iff_not]; omega
  have d2' : decide (9 < p) = false := by simp only [decide_eq_false_iff_not]; omega
  have d3 : decide ((k : Int) < (p : Int)) = false := by simp only [decide_eq_false_iff_not]; omega
  have d3' : decide (k < p) = false := by simp only [decide_eq_false_iff_not]; omega
  have d4 : decide (9 < (k : Int)) = false := by simp only [decide_eq_false_iff_not]; omega
  have d4' : decide (9 < k) = false := by simp only [decide_eq_false_iff_not]; omega
  clear htab
  go_enter Tryd.func3, Tryd.ntmps3
  go_wp2_with fail
  go_loopw [9, 10] (fun vn vi wr => ∃ (j : Nat) (N : Int), j ≤ p ∧ vn = .int .i64 N ∧ vi = .int .i64 j ∧ 1 ≤ N ∧ N ≤ 1000000000 ∧ Hid (N = ((10 ^ j : Nat) : Int)) ∧ w = wr) (fun _ vi _ => p - (intOf vi).toNat)
  case atStart => exact ⟨0, 1, Nat.zero_le _, rfl, rfl, by omega, by omega, Lib.hid rfl, rfl⟩
  case round =>
    obtain ⟨j, N, hj, rfl, rfl, n0, n1, HN, rfl⟩ := hrel
    by_cases hlt : j < p
    · have hb := pow9 (j + 1) (by omega)
      have hst := pow_step j
      rw [← HN.out] at hst
      rw [hst] at hb
      obtain ⟨b0, b1⟩ := hb
      have HST := Lib.hid hst
      clear hst
      go_wp2_with fail
      go_roundw
      case rel => exact ⟨j + 1, N * 10, by omega, by go_num, by go_num, b0, b1, Lib.hid HST.out.symm, trivial⟩
      case measure => simp [intOf]; omega
    · have hjk : j = p := by omega
      subst hjk
      have hlt' : decide (j < j) = false := by simp
      have hsc : isScaleN N := ⟨n0, n1⟩
      have HSC := Lib.hid hsc
      have B0 : Hid (Below w.heap.size w w) := Lib.hid (Below.refl _ _)
      clear hlt hsc
      by_cases ht : isTimeN n
      · obtain ⟨W, P, hdp⟩ := decP_ex n N k
        have hdp2 := hdp
        rw [HN.out] at hdp2
        obtain ⟨W0, W1, P0, P1, hne, hsum⟩ := dec_exact ht hpk hk hdp2
        obtain ⟨neg, hneg⟩ : ∃ b, decide (n < 0 ∧ (0 < W ∨ 0 < P)) = b := ⟨_, rfl⟩
        obtain ⟨ok, hq⟩ := dec_back (s := N) neg way hk W0 W1 P0 P1
        have hQ : decQ (decOf neg W P k) N way = n := by
          rw [hq, HN.out, ← hneg]; exact hsum way
        have HTM := Lib.hid ht; have HDP := Lib.hid hdp; have HNEG := Lib.hid hneg; have HOK := Lib.hid ok; have HQ := Lib.hid hQ
        clear ht hdp hdp2 hsum hneg ok hq hQ hne
        go_wp2_with fail
        refine (decimal_ok n N W P k _ HT.out HTM.out HSC.out hk HDP.out).mono ?_; rintro e w2 ⟨⟨S, rfl, hS⟩, b2⟩
        rw [HNEG.out] at hS
        have HS := Lib.hid hS; have B2 := Lib.hid b2
        have hss : S.size ≤ 9223372036854775807 := by rw [size_list S _ hS]; have := HOK.out.1; omega
        have hfv : rdF S.data.toList N way = 0 ∧ rdV S.data.toList N way = n ∨ rdF S.data.toList N way = 4 ∧ rdV S.data.toList N way = 0 := by
          rw [hS]
          by_cases hw : 1 ≤ way ∧ way ≤ 3
          · left
            have e0 := rdF_time (l := decOf neg W P k) HSC.out hw HOK.out (by rw [HQ.out]; exact HTM.out)
            exact ⟨e0, by unfold rdV; rw [if_pos e0]; exact HQ.out⟩
          · right
            have e0 := rdF_way (l := decOf neg W P k) HSC.out hw
            exact ⟨e0, by unfold rdV; rw [e0]; rfl⟩
        clear hS b2
        rcases hfv with ⟨hf, hv⟩ | ⟨hf, hv⟩
        · have HF := Lib.hid hf; have HV := Lib.hid hv
          clear hf hv
          go_wp2_with fail
          refine (readDec_any S N way _ hss).mono ?_; rintro e w3 ⟨rfl, q, hw3⟩
          rw [HF.out, HV.out]
          have B3 : Hid (Below w.heap.size w w3) := Lib.hid (by rw [hw3]; exact below_drewN B2.out _)
          clear hw3
          go_wp2_with fail
          refine (awake_any _).mono ?_; rintro e w5 ⟨rfl, k5, rfl⟩
          go_wp2_with fail
          go_ret
          exact ⟨rfl, below_drewN B3.out _⟩
        · have HF := Lib.hid hf; have HV := Lib.hid hv
          clear hf hv
          go_wp2_with fail
          refine (readDec_any S N way _ hss).mono ?_; rintro e w3 ⟨rfl, q, hw3⟩
          rw [HF.out, HV.out]
          have B3 : Hid (Below w.heap.size w w3) := Lib.hid (by rw [hw3]; exact below_drewN B2.out _)
          clear hw3
          go_wp2_with fail
          refine (awake_any _).mono ?_; rintro e w5 ⟨rfl, k5, rfl⟩
          go_wp2_with fail
          go_ret
          exact ⟨rfl, below_drewN B3.out _⟩
      · have HBAD : Hid (¬ (isTimeN n ∧ isScaleN N ∧ 0 ≤ (k : Int) ∧ (k : Int) ≤ 9)) := Lib.hid (fun hx => ht hx.1)
        clear ht
        go_wp2_with fail
        refine (decimal_bad n N k _ HBAD.out).mono ?_; rintro e w2 ⟨rfl, rfl⟩
        go_wp2_with fail
        refine (awake_any _).mono ?_; rintro e w5 ⟨rfl, k5, rfl⟩
        go_wp2_with fail
        go_ret
        exact ⟨rfl, below_drewN B0.out _⟩

theorem decLaw_any (n p k way : Int) (w : World) (htab : Tab w) :
    Calls Tryd.prog 3 #[.int .i64 n, .int .i64 p, .int .i64 k, .int .i64 way] w fun e w' => e = .returned (.bool true) ∧ Below w.heap.size w w' := by
  by_cases h : 0 ≤ p ∧ p ≤ 9 ∧ p ≤ k ∧ k ≤ 9
  · have e1 : p = ((p.toNat : Nat) : Int) := by omega
    have e2 : k = ((k.toNat : Nat) : Int) := by omega
    rw [e1, e2]
    exact decLaw_in n way p.toNat k.toNat w htab (by omega) (by omega)
  · exact decLaw_out n p k way w h


end Go.Proofs.YtppaklifacadpaaDoor
