/- The reference's Convert answers as the program's. -/
import Derived.Test.YtnjmjdbilblieaaDoorRefCvt
namespace Go.Proofs.YtnjmjdbilblieaaDoor
set_option linter.unusedVariables false
set_option linter.unusedSimpArgs false
open Go.RowKit

set_option maxRecDepth 100000 in
set_option maxHeartbeats 2000000 in
theorem rconvert_any (n f t way : Int) (w : World) (htab : Tab w) :
    Calls Tryd.prog 9 #[.int .i64 n, .int .i64 f, .int .i64 t, .int .i64 way] w fun e w' => e = .returned (.tuple #[.int .i64 (cvtV n f t way), .int .i64 (cvtF n f t way)]) ∧ Below w.heap.size w w' := by
  have HT := Lib.hid htab
  clear htab
  by_cases h1 : isTimeN n
  · have H1 := Lib.hid h1; obtain ⟨a1, a2⟩ := h1
    by_cases h2 : isScaleN f
    · have H2 := Lib.hid h2; obtain ⟨b1, b2⟩ := h2
      by_cases h3 : isScaleN t
      · have H3 := Lib.hid h3; obtain ⟨c1, c2⟩ := h3
        by_cases h4 : 1 ≤ way ∧ way ≤ 3
        · have H4 := Lib.hid h4; clear h4
          have hb := portQ_bd n t f way (by omega) (by omega)
          by_cases h5 : isTimeN (portQ n t f way)
          · have e0 : cvtF n f t way = 0 := by simp [cvtF, H1.out, H2.out, H3.out, H4.out, h5]
            have e1 : cvtV n f t way = portQ n t f way := by simp [cvtV, e0]
            have H5 := Lib.hid h5; have E0 := Lib.hid e0; have E1 := Lib.hid e1; clear h5 e0 e1
            go_enter Tryd.func9, Tryd.ntmps9
            go_wp2_with fail
            refine (rtime_yes _ _ H1.out).mono ?_; rintro e w' ⟨rfl, rfl⟩
            go_wp2_with fail
            refine (rscale_yes _ _ H2.out).mono ?_; rintro e w' ⟨rfl, rfl⟩
            go_wp2_with fail
            refine (rscale_yes _ _ H3.out).mono ?_; rintro e w' ⟨rfl, rfl⟩
            go_wp2_with fail
            refine (rway_yes _ _ H4.out).mono ?_; rintro e w' ⟨rfl, rfl⟩
            go_wp2_with fail
            refine (turned_num n f t _ HT.out (by omega) (by omega) (by omega) (by omega) (by omega) (by omega)).mono ?_; rintro e w2 ⟨⟨r2, rfl, k2⟩, b2⟩
            have K2 := Lib.hid k2; have B2 := Lib.hid b2; clear k2 b2
            go_wp2_with fail
            refine (roundn_num _ (n * t) f _ way 1000000000000000 90 (HT.out.below B2.out (Nat.le_refl _)) K2.out H4.out (by omega) (by omega) (by omega)).mono ?_; rintro e w3 ⟨rfl, b3⟩
            have B3 := Lib.hid (B2.out.trans (b3.mono B2.out.size)); clear b3
            obtain ⟨A, hA⟩ : ∃ A, rdV (decide (n * t < 0)) way ((n * t).natAbs : Int) f = A := ⟨_, rfl⟩
            have hpr := port_rd n t f way (by omega) (by omega)
            rw [hA] at hpr ⊢
            have HPR := Lib.hid hpr
            clear hpr hA
            have hle : A ≤ 1000000000000000 := by
              apply Decidable.byContradiction; intro hx
              exact HPR.out.1.2 (by omega) H5.out
            have e5 : (if 1000000000000000 < A then 0 else sgnI (decide (n * t < 0)) A) = portQ n t f way := by rw [if_neg (by omega)]; exact HPR.out.2 hle
            have e6 : decide (A ≤ 1000000000000000) = true := by simp; exact hle
            rw [e5, e6]
            clear e5 e6 hle
            go_wp2_with fail
            go_ret2
            exact ⟨ret2_ii E1.out.symm E0.out.symm, B3.out⟩
          · have e0 : cvtF n f t way = 1 := by simp [cvtF, H1.out, H2.out, H3.out, H4.out, h5]
            have e1 : cvtV n f t way = 0 := by simp [cvtV, e0]
            have H5 := Lib.hid h5; have E0 := Lib.hid e0; have E1 := Lib.hid e1; clear h5 e0 e1
            go_enter Tryd.func9, Tryd.ntmps9
            go_wp2_with fail
            refine (rtime_yes _ _ H1.out).mono ?_; rintro e w' ⟨rfl, rfl⟩
            go_wp2_with fail
            refine (rscale_yes _ _ H2.out).mono ?_; rintro e w' ⟨rfl, rfl⟩
            go_wp2_with fail
            refine (rscale_yes _ _ H3.out).mono ?_; rintro e w' ⟨rfl, rfl⟩
            go_wp2_with fail
            refine (rway_yes _ _ H4.out).mono ?_; rintro e w' ⟨rfl, rfl⟩
            go_wp2_with fail
            refine (turned_num n f t _ HT.out (by omega) (by omega) (by omega) (by omega) (by omega) (by omega)).mono ?_; rintro e w2 ⟨⟨r2, rfl, k2⟩, b2⟩
            have K2 := Lib.hid k2; have B2 := Lib.hid b2; clear k2 b2
            go_wp2_with fail
            refine (roundn_num _ (n * t) f _ way 1000000000000000 90 (HT.out.below B2.out (Nat.le_refl _)) K2.out H4.out (by omega) (by omega) (by omega)).mono ?_; rintro e w3 ⟨rfl, b3⟩
            have B3 := Lib.hid (B2.out.trans (b3.mono B2.out.size)); clear b3
            obtain ⟨A, hA⟩ : ∃ A, rdV (decide (n * t < 0)) way ((n * t).natAbs : Int) f = A := ⟨_, rfl⟩
            have hpr := port_rd n t f way (by omega) (by omega)
            rw [hA] at hpr ⊢
            have HPR := Lib.hid hpr
            clear hpr hA
            have hgt : 1000000000000000 < A := HPR.out.1.1 H5.out
            have e5 : (if 1000000000000000 < A then 0 else sgnI (decide (n * t < 0)) A) = 0 := by rw [if_pos hgt]
            have e6 : decide (A ≤ 1000000000000000) = false := by simp; exact hgt
            rw [e5, e6]
            clear e5 e6 hgt
            go_wp2_with fail
            go_ret2
            exact ⟨ret2_ii E1.out.symm E0.out.symm, B3.out⟩
        · have e0 : cvtF n f t way = 4 := by simp [cvtF, H1.out, H2.out, H3.out]; omega
          have e1 : cvtV n f t way = 0 := by simp [cvtV, e0]
          have H4 := Lib.hid h4; have E0 := Lib.hid e0; have E1 := Lib.hid e1; clear h4 e0 e1
          go_enter Tryd.func9, Tryd.ntmps9
          go_wp2_with fail
          refine (rtime_yes _ _ H1.out).mono ?_; rintro e w' ⟨rfl, rfl⟩
          go_wp2_with fail
          refine (rscale_yes _ _ H2.out).mono ?_; rintro e w' ⟨rfl, rfl⟩
          go_wp2_with fail
          refine (rscale_yes _ _ H3.out).mono ?_; rintro e w' ⟨rfl, rfl⟩
          go_wp2_with fail
          refine (rway_no _ _ H4.out).mono ?_; rintro e w' ⟨rfl, rfl⟩
          go_wp2_with fail
          go_ret2
          exact ⟨ret2_ii E1.out.symm E0.out.symm, Below.refl _ _⟩
      · have e0 : cvtF n f t way = 1 := by simp [cvtF, h3]
        have e1 : cvtV n f t way = 0 := by simp [cvtV, e0]
        have H3 := Lib.hid h3; have E0 := Lib.hid e0; have E1 := Lib.hid e1; clear h3 e0 e1
        go_enter Tryd.func9, Tryd.ntmps9
        go_wp2_with fail
        refine (rtime_yes _ _ H1.out).mono ?_; rintro e w' ⟨rfl, rfl⟩
        go_wp2_with fail
        refine (rscale_yes _ _ H2.out).mono ?_; rintro e w' ⟨rfl, rfl⟩
        go_wp2_with fail
        refine (rscale_no _ _ H3.out).mono ?_; rintro e w' ⟨rfl, rfl⟩
        go_wp2_with fail
        go_ret2
        exact ⟨ret2_ii E1.out.symm E0.out.symm, Below.refl _ _⟩
    · have e0 : cvtF n f t way = 1 := by simp [cvtF, h2]
      have e1 : cvtV n f t way = 0 := by simp [cvtV, e0]
      have H2 := Lib.hid h2; have E0 := Lib.hid e0; have E1 := Lib.hid e1; clear h2 e0 e1
      go_enter Tryd.func9, Tryd.ntmps9
      go_wp2_with fail
      refine (rtime_yes _ _ H1.out).mono ?_; rintro e w' ⟨rfl, rfl⟩
      go_wp2_with fail
      refine (rscale_no _ _ H2.out).mono ?_; rintro e w' ⟨rfl, rfl⟩
      go_wp2_with fail
      go_ret2
      exact ⟨ret2_ii E1.out.symm E0.out.symm, Below.refl _ _⟩
  · have e0 : cvtF n f t way = 1 := by simp [cvtF, h1]
    have e1 : cvtV n f t way = 0 := by simp [cvtV, e0]
    have H1 := Lib.hid h1; have E0 := Lib.hid e0; have E1 := Lib.hid e1; clear h1 e0 e1
    go_enter Tryd.func9, Tryd.ntmps9
    go_wp2_with fail
    refine (rtime_no _ _ H1.out).mono ?_; rintro e w' ⟨rfl, rfl⟩
    go_wp2_with fail
    go_ret2
    exact ⟨ret2_ii E1.out.symm E0.out.symm, Below.refl _ _⟩


set_option maxHeartbeats 2000000 in
theorem convertsLaw_any (n f t way : Int) (w : World) (htab : Tab w) :
    Calls Tryd.prog 3 #[.int .i64 n, .int .i64 f, .int .i64 t, .int .i64 way] w fun e w' => e = .returned (.bool true) ∧ Below w.heap.size w w' := by
  have HT := Lib.hid htab
  obtain ⟨V, hV⟩ : ∃ V, cvtV n f t way = V := ⟨_, rfl⟩
  obtain ⟨F, hF⟩ : ∃ F, cvtF n f t way = F := ⟨_, rfl⟩
  have HV := Lib.hid hV; have HF := Lib.hid hF
  clear htab hV hF
  go_enter Tryd.func3, Tryd.ntmps3
  go_wp2_with fail
  refine (convert_any _ _ _ _ _).mono ?_; rintro e w' ⟨rfl, k, hw⟩
  rw [HV.out, HF.out]
  have B1 : Hid (Below w.heap.size w w') := Lib.hid (by rw [hw]; exact below_drewN (Below.refl _ _) _)
  clear hw
  go_wp2_with fail
  refine (rconvert_any _ _ _ _ _ (HT.out.below B1.out (Nat.le_refl _))).mono ?_; rintro e w2 ⟨rfl, b2⟩
  rw [HV.out, HF.out]
  have B2 := Lib.hid (B1.out.trans (b2.mono B1.out.size)); clear b2
  go_wp2_with fail
  refine (awake_any _).mono ?_; rintro e w3 ⟨rfl, k3, rfl⟩
  go_wp2_with fail
  go_ret
  exact ⟨rfl, below_drewN B2.out _⟩

end Go.Proofs.YtnjmjdbilblieaaDoor
