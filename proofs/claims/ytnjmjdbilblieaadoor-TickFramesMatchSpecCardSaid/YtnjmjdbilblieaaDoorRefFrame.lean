/- The reference's FrameTime and FrameAt answer as the program's. -/
import Derived.Test.YtnjmjdbilblieaaDoorRefConvert
import Derived.Test.YtnjmjdbilblieaaDoorFrameC
namespace Go.Proofs.YtnjmjdbilblieaaDoor
set_option linter.unusedVariables false
set_option linter.unusedSimpArgs false
open Go.RowKit

theorem rcheck_yes (a b c : Int) (w : World) (h : isRateN a b c) :
    Calls Tryd.prog 50 #[.int .i64 a, .int .i64 b, .int .i64 c] w fun e w' => e = .returned (.bool true) ∧ w = w' := by
  obtain ⟨⟨a1, a2⟩, ⟨b1, b2⟩, h3⟩ := h
  have H3 := Lib.hid h3
  clear h3
  go_enter Tryd.func50, Tryd.ntmps50
  go_wp2_with fail
  refine (rscale_yes _ _ H3.out).mono ?_; rintro e w' ⟨rfl, rfl⟩
  go_wp2_with fail
  go_ret
  exact ⟨rfl, rfl⟩
theorem rcheck_no (a b c : Int) (w : World) (h : ¬ isRateN a b c) :
    Calls Tryd.prog 50 #[.int .i64 a, .int .i64 b, .int .i64 c] w fun e w' => e = .returned (.bool false) ∧ w = w' := by
  by_cases a1 : 1 ≤ a
  · by_cases a2 : a ≤ 1000000
    · by_cases b1 : 1 ≤ b
      · by_cases b2 : b ≤ 1000000
        · have h3 : ¬ isScaleN c := fun hx => h ⟨⟨a1, a2⟩, ⟨b1, b2⟩, hx⟩
          have H3 := Lib.hid h3
          clear h3 h
          go_enter Tryd.func50, Tryd.ntmps50
          go_wp2_with fail
          refine (rscale_no _ _ H3.out).mono ?_; rintro e w' ⟨rfl, rfl⟩
          go_wp2_with fail
          go_ret
          exact ⟨rfl, rfl⟩
        · have b2' : decide (b ≤ 1000000) = false := by simp only [decide_eq_false_iff_not]; exact b2
          clear h
          go_enter Tryd.func50, Tryd.ntmps50
          go_wp2_with fail
          go_ret
          exact ⟨rfl, rfl⟩
      · have b1' : decide (1 ≤ b) = false := by simp only [decide_eq_false_iff_not]; exact b1
        clear h
        go_enter Tryd.func50, Tryd.ntmps50
        go_wp2_with fail
        go_ret
        exact ⟨rfl, rfl⟩
    · have a2' : decide (a ≤ 1000000) = false := by simp only [decide_eq_false_iff_not]; exact a2
      clear h
      go_enter Tryd.func50, Tryd.ntmps50
      go_wp2_with fail
      go_ret
      exact ⟨rfl, rfl⟩
  · have a1' : decide (1 ≤ a) = false := by simp only [decide_eq_false_iff_not]; exact a1
    clear h
    go_enter Tryd.func50, Tryd.ntmps50
    go_wp2_with fail
    go_ret
    exact ⟨rfl, rfl⟩

/-- When a frame begins, at most one more than the greatest time. -/
def frC (k a b c : Int) : Int := if frT k a b c ≤ 1000000000000000 then frT k a b c else 1000000000000001

theorem fr_rd {k a b c : Int} (h : isRateN a b c) (k0 : 0 ≤ k) : decide (k * b * c < 0) = false ∧ rdV false 1 ((k * b * c).natAbs : Int) a = frT k a b c := by
  have h0 : 0 ≤ k * b * c := Int.mul_nonneg (Int.mul_nonneg k0 (by have := h.2.1; omega)) (by have := h.2.2; unfold isScaleN at this; omega)
  refine ⟨by simp; exact h0, ?_⟩
  rw [Int.natAbs_of_nonneg h0]
  simp [rdV, growsB, frT, Int.mul_assoc]

set_option maxRecDepth 100000 in
set_option maxHeartbeats 4000000 in
theorem rframe_any (k a b c : Int) (w : World) (htab : Tab w) (h : isRateN a b c) (k0 : 0 ≤ k) (k1 : k ≤ 1000000000) :
    Calls Tryd.prog 51 #[.int .i64 k, .int .i64 a, .int .i64 b, .int .i64 c] w fun e w' => e = .returned (.int .i64 (frC k a b c)) ∧ Below w.heap.size w w' := by
  have HT := Lib.hid htab; have H := Lib.hid h
  have HB : Hid ((1 ≤ a ∧ a ≤ 1000000) ∧ (1 ≤ b ∧ b ≤ 1000000) ∧ (1 ≤ c ∧ c ≤ 1000000000)) := Lib.hid ⟨h.1, h.2.1, h.2.2⟩
  have HK : Hid (0 ≤ k ∧ k ≤ 1000000000) := Lib.hid ⟨k0, k1⟩
  clear htab h k0 k1
  go_enter Tryd.func51, Tryd.ntmps51
  go_wp2_with fail
  refine (int_any k (by have := HK.out; omega) (by have := HK.out; omega) _ HT.out).mono ?_
  rintro e w2 ⟨⟨r2, rfl, k2⟩, b2⟩
  have K2 := Lib.hid k2; have B2 := Lib.hid b2
  have HT2 := Lib.hid (HT.out.below b2 (Nat.le_refl _))
  clear k2 b2
  go_wp2_with fail
  refine (int_any b (by have := HB.out; omega) (by have := HB.out; omega) _ HT2.out).mono ?_
  rintro e w3 ⟨⟨r3, rfl, k3⟩, b3⟩
  have K2' := Lib.hid (K2.out.below b3 (Nat.le_refl _))
  have K3 := Lib.hid k3
  have B3 : Hid (Below w.heap.size w w3) := Lib.hid (B2.out.trans (b3.mono B2.out.size))
  have HT3 := Lib.hid (HT2.out.below b3 (Nat.le_refl _))
  clear k3 b3
  go_wp2_with fail
  refine (times_num _ _ k 1 b 1 _ 30 30 K2'.out K3.out (by omega)).mono ?_
  rintro e w4 ⟨⟨r4, rfl, k4⟩, b4⟩
  have K4 := Lib.hid k4
  have B4 : Hid (Below w.heap.size w w4) := Lib.hid (B3.out.trans (b4.mono B3.out.size))
  have HT4 := Lib.hid (HT3.out.below b4 (Nat.le_refl _))
  clear k4 b4
  go_wp2_with fail
  refine (int_any c (by have := HB.out; omega) (by have := HB.out; omega) _ HT4.out).mono ?_
  rintro e w5 ⟨⟨r5, rfl, k5⟩, b5⟩
  have K4' := Lib.hid (K4.out.below b5 (Nat.le_refl _))
  have K5 := Lib.hid k5
  have B5 : Hid (Below w.heap.size w w5) := Lib.hid (B4.out.trans (b5.mono B4.out.size))
  have HT5 := Lib.hid (HT4.out.below b5 (Nat.le_refl _))
  clear k5 b5
  go_wp2_with fail
  refine (times_num _ _ (k * b) (1 * 1) c 1 _ (30 + 30) 30 K4'.out K5.out (by omega)).mono ?_
  rintro e w6 ⟨⟨r6, rfl, k6⟩, b6⟩
  have K6 := Lib.hid k6
  have B6 : Hid (Below w.heap.size w w6) := Lib.hid (B5.out.trans (b6.mono B5.out.size))
  have HT6 := Lib.hid (HT5.out.below b6 (Nat.le_refl _))
  clear k6 b6
  go_wp2_with fail
  refine (int_any a (by have := HB.out; omega) (by have := HB.out; omega) _ HT6.out).mono ?_
  rintro e w7 ⟨⟨r7, rfl, k7⟩, b7⟩
  have K6' := Lib.hid (K6.out.below b7 (Nat.le_refl _))
  have K7 := Lib.hid k7
  have B7 : Hid (Below w.heap.size w w7) := Lib.hid (B6.out.trans (b7.mono B6.out.size))
  have HT7 := Lib.hid (HT6.out.below b7 (Nat.le_refl _))
  clear k7 b7
  go_wp2_with fail
  refine (over_num _ _ (k * b * c) (1 * 1 * 1) a 1 _ (30 + 30 + 30) 30 K6'.out K7.out (by have := HB.out; omega) (by omega)).mono ?_
  rintro e w8 ⟨⟨r8, rfl, k8⟩, b8⟩
  have k8' : NumR w8 r8 (k * b * c) a 120 := by
    have := k8
    simp only [Int.mul_one, Int.one_mul] at this
    exact this
  have K8 := Lib.hid k8'
  have B8 : Hid (Below w.heap.size w w8) := Lib.hid (B7.out.trans (b8.mono B7.out.size))
  have HT8 := Lib.hid (HT7.out.below b8 (Nat.le_refl _))
  clear k8 k8' b8
  go_wp2_with fail
  refine (roundn_num _ (k * b * c) a _ 1 1000000000000000 120 HT8.out K8.out ⟨by omega, by omega⟩ (by omega) (by omega) (by omega)).mono ?_
  rintro e w9 ⟨rfl, b9⟩
  have B9 : Hid (Below w.heap.size w w9) := Lib.hid (B8.out.trans (b9.mono B8.out.size))
  clear b9
  obtain ⟨f1, f2⟩ := fr_rd H.out HK.out.1
  rw [f1, f2]
  clear f1 f2
  obtain ⟨A, hA⟩ : ∃ A, frT k a b c = A := ⟨_, rfl⟩
  have hC : frC k a b c = if A ≤ 1000000000000000 then A else 1000000000000001 := by rw [← hA]; rfl
  rw [hA]
  have HCC := Lib.hid hC
  clear hA hC
  by_cases hle : A ≤ 1000000000000000
  · have e5 : (if 1000000000000000 < A then 0 else sgnI false A) = A := by rw [if_neg (by omega)]; rfl
    have e6 : decide (A ≤ 1000000000000000) = true := by simp; exact hle
    rw [e5, e6]
    clear e5 e6
    go_wp2_with fail
    go_ret
    exact ⟨ret_int (by rw [HCC.out, if_pos hle]), B9.out⟩
  · have e5 : (if 1000000000000000 < A then 0 else sgnI false A) = 0 := by rw [if_pos (by omega)]
    have e6 : decide (A ≤ 1000000000000000) = false := by simp; omega
    have HLE := Lib.hid hle
    rw [e5, e6]
    clear e5 e6 hle
    go_wp2_with fail
    go_ret
    exact ⟨ret_int (by rw [HCC.out, if_neg (by have := HLE.out; omega)]), B9.out⟩

set_option maxRecDepth 100000 in
set_option maxHeartbeats 2000000 in
theorem rftime_any (k a b c : Int) (w : World) (htab : Tab w) :
    Calls Tryd.prog 18 #[.int .i64 k, .int .i64 a, .int .i64 b, .int .i64 c] w fun e w' => e = .returned (.tuple #[.int .i64 (ftV k a b c), .int .i64 (ftF k a b c)]) ∧ Below w.heap.size w w' := by
  have HT := Lib.hid htab
  clear htab
  by_cases k0 : k < 0
  · have e0 : ftF k a b c = 1 := by unfold ftF; rw [if_neg (fun hx => by have := hx.1; omega)]
    have e1 : ftV k a b c = 0 := by simp [ftV, e0]
    have E0 := Lib.hid e0; have E1 := Lib.hid e1; clear e0 e1
    go_enter Tryd.func18, Tryd.ntmps18
    go_wp2_with fail
    go_ret2
    exact ⟨ret2_ii E1.out.symm E0.out.symm, Below.refl _ _⟩
  · have k0' : decide (k < 0) = false := by simp only [decide_eq_false_iff_not]; exact k0
    by_cases k1 : 1000000000 < k
    · have e0 : ftF k a b c = 1 := by unfold ftF; rw [if_neg (fun hx => by have := hx.1; omega)]
      have e1 : ftV k a b c = 0 := by simp [ftV, e0]
      have E0 := Lib.hid e0; have E1 := Lib.hid e1; clear e0 e1
      go_enter Tryd.func18, Tryd.ntmps18
      go_wp2_with fail
      go_ret2
      exact ⟨ret2_ii E1.out.symm E0.out.symm, Below.refl _ _⟩
    · have k1' : decide (1000000000 < k) = false := by simp only [decide_eq_false_iff_not]; exact k1
      by_cases hr : isRateN a b c
      · have HR := Lib.hid hr
        have HC : Hid (frC k a b c = if frT k a b c ≤ 1000000000000000 then frT k a b c else 1000000000000001) := Lib.hid rfl
        clear hr
        by_cases ht : frT k a b c ≤ 1000000000000000
        · have e0 : ftF k a b c = 0 := by unfold ftF; rw [if_pos ⟨⟨by omega, by omega⟩, HR.out, ht⟩]
          have e1 : ftV k a b c = frT k a b c := by simp [ftV, e0]
          have hc : frC k a b c = frT k a b c := by rw [HC.out, if_pos ht]
          have hnn := frT_nonneg HR.out (show 0 ≤ k by omega)
          have E0 := Lib.hid e0; have E1 := Lib.hid e1; have HCC := Lib.hid hc; clear e0 e1 hc
          obtain ⟨A, hA⟩ : ∃ A, frT k a b c = A := ⟨_, rfl⟩
          rw [hA] at ht hnn
          have HA := Lib.hid hA
          have hgt : decide (1000000000000000 < A) = false := by simp; exact ht
          clear hA
          go_enter Tryd.func18, Tryd.ntmps18
          go_wp2_with fail
          refine (rcheck_yes _ _ _ _ HR.out).mono ?_; rintro e w' ⟨rfl, rfl⟩
          go_wp2_with fail
          refine (rframe_any k a b c _ HT.out HR.out (by omega) (by omega)).mono ?_; rintro e w2 ⟨rfl, b2⟩
          rw [HCC.out, HA.out]
          have B2 := Lib.hid b2; clear b2
          go_wp2_with fail
          go_ret2
          exact ⟨ret2_ii (by rw [E1.out, HA.out]) E0.out.symm, B2.out⟩
        · have e0 : ftF k a b c = 1 := by unfold ftF; rw [if_neg (fun hx => ht hx.2.2)]
          have e1 : ftV k a b c = 0 := by simp [ftV, e0]
          have hc : frC k a b c = 1000000000000001 := by rw [HC.out, if_neg ht]
          have E0 := Lib.hid e0; have E1 := Lib.hid e1; have HCC := Lib.hid hc; clear e0 e1 hc ht
          go_enter Tryd.func18, Tryd.ntmps18
          go_wp2_with fail
          refine (rcheck_yes _ _ _ _ HR.out).mono ?_; rintro e w' ⟨rfl, rfl⟩
          go_wp2_with fail
          refine (rframe_any k a b c _ HT.out HR.out (by omega) (by omega)).mono ?_; rintro e w2 ⟨rfl, b2⟩
          rw [HCC.out]
          have B2 := Lib.hid b2; clear b2
          go_wp2_with fail
          go_ret2
          exact ⟨ret2_ii E1.out.symm E0.out.symm, B2.out⟩
      · have e0 : ftF k a b c = 1 := by unfold ftF; rw [if_neg (fun hx => hr hx.2.1)]
        have e1 : ftV k a b c = 0 := by simp [ftV, e0]
        have E0 := Lib.hid e0; have E1 := Lib.hid e1; have HR := Lib.hid hr; clear e0 e1 hr
        go_enter Tryd.func18, Tryd.ntmps18
        go_wp2_with fail
        refine (rcheck_no _ _ _ _ HR.out).mono ?_; rintro e w' ⟨rfl, rfl⟩
        go_wp2_with fail
        go_ret2
        exact ⟨ret2_ii E1.out.symm E0.out.symm, Below.refl _ _⟩

theorem fra_uniq {t a b c n : Int} (h : isRateN a b c) (t0 : 0 ≤ t) (n0 : 0 ≤ n) (n1 : n ≤ 1000000000) (h1 : frT n a b c ≤ t) (h2 : n = 1000000000 ∨ t < frT (n + 1) a b c) : frA t a b c = n := by
  obtain ⟨q0, q1, q2, q3⟩ := frA_spec h t0
  apply Decidable.byContradiction; intro hne
  rcases Int.lt_or_gt_of_ne hne with hx | hx
  · rcases q3 with q3 | q3
    · omega
    · have := frT_mono h (show frA t a b c + 1 ≤ n by omega)
      omega
  · rcases h2 with h2 | h2
    · omega
    · have := frT_mono h (show n + 1 ≤ frA t a b c by omega)
      omega
theorem frC_le {k a b c t : Int} (ht : t ≤ 1000000000000000) : frC k a b c ≤ t ↔ frT k a b c ≤ t := by
  unfold frC; split <;> omega

set_option maxRecDepth 100000 in
set_option maxHeartbeats 4000000 in
theorem rfat_any (t a b c : Int) (w : World) (htab : Tab w) :
    Calls Tryd.prog 20 #[.int .i64 t, .int .i64 a, .int .i64 b, .int .i64 c] w fun e w' => e = .returned (.tuple #[.int .i64 (faV t a b c), .int .i64 (faF t a b c)]) ∧ Below w.heap.size w w' := by
  have HT := Lib.hid htab
  clear htab
  by_cases k0 : t < 0
  · have e0 : faF t a b c = 1 := by unfold faF; rw [if_neg (fun hx => by have := hx.1; omega)]
    have e1 : faV t a b c = 0 := by simp [faV, e0]
    have E0 := Lib.hid e0; have E1 := Lib.hid e1; clear e0 e1
    go_enter Tryd.func20, Tryd.ntmps20
    go_wp2_with fail
    go_ret2
    exact ⟨ret2_ii E1.out.symm E0.out.symm, Below.refl _ _⟩
  · have k0' : decide (t < 0) = false := by simp only [decide_eq_false_iff_not]; exact k0
    by_cases k1 : 1000000000000000 < t
    · have e0 : faF t a b c = 1 := by unfold faF; rw [if_neg (fun hx => by have := hx.1; omega)]
      have e1 : faV t a b c = 0 := by simp [faV, e0]
      have E0 := Lib.hid e0; have E1 := Lib.hid e1; clear e0 e1
      go_enter Tryd.func20, Tryd.ntmps20
      go_wp2_with fail
      go_ret2
      exact ⟨ret2_ii E1.out.symm E0.out.symm, Below.refl _ _⟩
    · have k1' : decide (1000000000000000 < t) = false := by simp only [decide_eq_false_iff_not]; exact k1
      by_cases hr : isRateN a b c
      · have e0 : faF t a b c = 0 := by unfold faF; rw [if_pos ⟨⟨by omega, by omega⟩, hr⟩]
        have e1 : faV t a b c = frA t a b c := by simp [faV, e0]
        have h00 : frT 0 a b c ≤ t := by simp [frT]; omega
        have E0 := Lib.hid e0; have E1 := Lib.hid e1; have HR := Lib.hid hr; have H00 := Lib.hid h00; clear e0 e1 hr h00
        go_enter Tryd.func20, Tryd.ntmps20
        go_wp2_with fail
        refine (rcheck_yes _ _ _ _ HR.out).mono ?_; rintro e w' ⟨rfl, rfl⟩
        go_wp2_with fail
        go_loopw [10, 11] (fun vl vh wx => ∃ (lo hi : Int), 0 ≤ lo ∧ lo ≤ hi ∧ hi ≤ 1000000000 ∧ vl = .int .i64 lo ∧ vh = .int .i64 hi ∧ Below w.heap.size w wx ∧ Hid (frT lo a b c ≤ t) ∧ Hid (hi = 1000000000 ∨ t < frT (hi + 1) a b c)) (fun vl vh _ => (intOf vh - intOf vl).toNat)
        case atStart => exact ⟨0, 1000000000, by omega, by omega, by omega, rfl, rfl, Below.refl _ _, H00, Lib.hid (.inl rfl)⟩
        case round =>
          obtain ⟨lo, hi, hlo0, hlohi, hhi, rfl, rfl, hbx, HLO, HHI⟩ := hrel
          have HBX := Lib.hid hbx
          clear hbx
          by_cases hlh : lo < hi
          · obtain ⟨M, hM⟩ : ∃ M, (lo + hi + 1) / 2 = M := ⟨_, rfl⟩
            have hmb : lo < M ∧ M ≤ hi := by omega
            obtain ⟨m0, m1⟩ := hmb
            have hq0 : (lo + hi + 1).tdiv 2 = M := by rw [Int.tdiv_eq_ediv_of_nonneg (by omega)]; exact hM
            clear hM
            go_wp2_with fail
            refine (rframe_any M a b c _ (HT.out.below HBX.out (Nat.le_refl _)) HR.out (by omega) (by omega)).mono ?_; rintro e w2 ⟨rfl, b2⟩
            have B2 := Lib.hid (HBX.out.trans (b2.mono HBX.out.size)); clear b2
            have hiff := frC_le (k := M) (a := a) (b := b) (c := c) (show t ≤ 1000000000000000 by omega)
            obtain ⟨C, hC⟩ : ∃ C, frC M a b c = C := ⟨_, rfl⟩
            rw [hC] at hiff ⊢
            have HIFF := Lib.hid hiff
            clear hC hiff
            by_cases hle : C ≤ t
            · go_wp2_with fail
              go_roundw
              case rel => exact ⟨M, hi, by omega, by omega, hhi, rfl, rfl, B2.out, Lib.hid (HIFF.out.1 hle), HHI⟩
              case measure => simp [intOf]; omega
            · have hle' : decide (C ≤ t) = false := by simp only [decide_eq_false_iff_not]; exact hle
              have hnt : t < frT M a b c := by
                apply Decidable.byContradiction; intro hx
                exact hle (HIFF.out.2 (by omega))
              have HNT := Lib.hid hnt
              clear hnt
              go_wp2_with fail
              go_roundw
              case rel =>
                refine ⟨lo, M - 1, by omega, by omega, by omega, rfl, by go_num, B2.out, HLO, Lib.hid (.inr ?_)⟩
                rw [Int.sub_add_cancel]
                exact HNT.out
              case measure => simp [intOf]; omega
          · have hlo2 : hi = lo := by omega
            subst hlo2
            have hu := fra_uniq HR.out (show 0 ≤ t by omega) hlo0 hhi HLO.out HHI.out
            have HU := Lib.hid hu
            clear hu
            go_wp2_with fail
            go_ret2
            exact ⟨ret2_ii (by rw [E1.out, HU.out]) E0.out.symm, HBX.out⟩
      · have e0 : faF t a b c = 1 := by unfold faF; rw [if_neg (fun hx => hr hx.2)]
        have e1 : faV t a b c = 0 := by simp [faV, e0]
        have E0 := Lib.hid e0; have E1 := Lib.hid e1; have HR := Lib.hid hr; clear e0 e1 hr
        go_enter Tryd.func20, Tryd.ntmps20
        go_wp2_with fail
        refine (rcheck_no _ _ _ _ HR.out).mono ?_; rintro e w' ⟨rfl, rfl⟩
        go_wp2_with fail
        go_ret2
        exact ⟨ret2_ii E1.out.symm E0.out.symm, Below.refl _ _⟩

set_option maxRecDepth 100000 in
set_option maxHeartbeats 4000000 in
theorem framesLaw_any (k t a b c : Int) (w : World) (htab : Tab w) :
    Calls Tryd.prog 7 #[.int .i64 k, .int .i64 t, .int .i64 a, .int .i64 b, .int .i64 c] w fun e w' => e = .returned (.bool true) ∧ Below w.heap.size w w' := by
  have HT := Lib.hid htab
  obtain ⟨V, hV⟩ : ∃ V, ftV k a b c = V := ⟨_, rfl⟩
  obtain ⟨F, hF⟩ : ∃ F, ftF k a b c = F := ⟨_, rfl⟩
  obtain ⟨X, hX⟩ : ∃ X, faV t a b c = X := ⟨_, rfl⟩
  obtain ⟨Y, hY⟩ : ∃ Y, faF t a b c = Y := ⟨_, rfl⟩
  have HV := Lib.hid hV; have HF := Lib.hid hF; have HX := Lib.hid hX; have HY := Lib.hid hY
  clear htab hV hF hX hY
  go_enter Tryd.func7, Tryd.ntmps7
  go_wp2_with fail
  refine (ftime_any _ _ _ _ _).mono ?_; rintro e w' ⟨rfl, n, hw⟩
  rw [HV.out, HF.out]
  have B1 : Hid (Below w.heap.size w w') := Lib.hid (by rw [hw]; exact below_drewN (Below.refl _ _) _)
  clear hw
  go_wp2_with fail
  refine (rftime_any _ _ _ _ _ (HT.out.below B1.out (Nat.le_refl _))).mono ?_; rintro e w2 ⟨rfl, b2⟩
  rw [HV.out, HF.out]
  have B2 := Lib.hid (B1.out.trans (b2.mono B1.out.size)); clear b2
  go_wp2_with fail
  refine (fat_any _ _ _ _ _).mono ?_; rintro e w3 ⟨rfl, n3, hw⟩
  rw [HX.out, HY.out]
  have B3 : Hid (Below w.heap.size w w3) := Lib.hid (by rw [hw]; exact below_drewN B2.out _)
  clear hw
  go_wp2_with fail
  refine (rfat_any _ _ _ _ _ (HT.out.below B3.out (Nat.le_refl _))).mono ?_; rintro e w4 ⟨rfl, b4⟩
  rw [HX.out, HY.out]
  have B4 := Lib.hid (B3.out.trans (b4.mono B3.out.size)); clear b4
  go_wp2_with fail
  refine (awake_any _).mono ?_; rintro e w5 ⟨rfl, k5, rfl⟩
  go_wp2_with fail
  go_ret
  exact ⟨rfl, below_drewN B4.out _⟩

end Go.Proofs.YtnjmjdbilblieaaDoor
