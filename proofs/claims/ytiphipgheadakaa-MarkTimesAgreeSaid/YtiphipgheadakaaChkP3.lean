/- The closure of CheckParts (program), 3 of 3. -/
import Derived.Test.YtiphipgheadakaaChkP0
namespace Go.Proofs.Ytiphipgheadakaa
set_option linter.unusedVariables false
set_option linter.unusedSimpArgs false
open Go.RowKit

set_option maxRecDepth 100000 in
set_option maxHeartbeats 16000000 in
theorem chkp_pf (i : Int) (ad : ByteArray) (fr ln en al : Int) (EB AB B : Nat) (w : World) (hE : Vr w EB (.int .i64 en)) (hV : Vr w AB (.int .i64 al)) (hne : AB ≠ EB) (hB1 : B ≤ EB) (hB2 : B ≤ AB) (hm : ad.size ≤ maxLen) (hA : ad.size = 0) (hL : inB ln 1 1000000000000000 = true) (hF : inB fr 0 1000000000000000 = false) :
    Calls Try.prog 57 #[.int .i64 i, .agg #[.string ad, .int .i64 fr, .int .i64 ln], .pointer (some ⟨EB, 0, none⟩), .pointer (some ⟨AB, 0, none⟩)] w fun r w' => r = .returned (.int .i64 (ptE en ⟨ad, fr, ln⟩)) ∧ Vr w' EB (.int .i64 (IntKind.i64.wrap (fr + ln))) ∧ Vr w' AB (.int .i64 (IntKind.i64.wrap (al + ln))) ∧ Below B w w' := by
  have HNM := Lib.hid (fun W => isName_any ad W hm)
  have HL : Hid (∀ W, Calls Try.prog 59 #[.int .i64 ln] W fun e w' => e = .returned (.bool true) ∧ W = w') := Lib.hid (fun W => by rw [← hL]; exact lengthP_any _ W)
  have HF : Hid (∀ W, Calls Try.prog 42 #[.int .i64 fr] W fun e w' => e = .returned (.bool false) ∧ W = w') := Lib.hid (fun W => by rw [← hF]; exact tickP_any _ W)
  obtain ⟨NB, hNB⟩ : ∃ NB, nameB ad = NB := ⟨_, rfl⟩
  rw [hNB] at HNM
  obtain ⟨R, hR⟩ : ∃ R, ptE en ⟨ad, fr, ln⟩ = R := ⟨_, rfl⟩
  have HSM : Hid (fstF [fIf (false) 5, fIf (true) 1, fIf (false) 3, fIf (decide (fr < en)) 8] = R) := Lib.hid (by
    rw [← hR]
    have e : isAd ⟨ad, fr, ln⟩ = false := by exact decide_eq_false (by show ¬ 0 < ad.size; omega)
    unfold ptE
    simp only [e, hNB, hL, hF, Bool.true_and, Bool.false_and, Bool.not_true, Bool.not_false, Bool.true_or, Bool.false_or])
  rw [hR]
  have FX := PBox.new w ⟨ad, fr, ln⟩ 44
  have b1 : Below B w (w.alloc (.cells #[.string ad, .int .i64 fr, .int .i64 ln] 44)) := (Below.refl _ w).alloc (by have := hE.lt; omega) _
  have hXE : EB ≠ w.heap.size := Nat.ne_of_lt hE.lt
  have hXA : AB ≠ w.heap.size := Nat.ne_of_lt hV.lt
  have hE := hE.alloc (.cells #[.string ad, .int .i64 fr, .int .i64 ln] 44)
  have hV := hV.alloc (.cells #[.string ad, .int .i64 fr, .int .i64 ln] 44)
  obtain ⟨A2, hA2⟩ : ∃ A2, IntKind.i64.wrap (al + ln) = A2 := ⟨_, rfl⟩
  have hA3 : wrap64 (al + ln) = A2 := by rw [← IntWalk.i64_left]; exact hA2
  rw [hA2]
  have k1 := sEq hA
  have k2 := sEq2 hA
  obtain ⟨E2, hE2⟩ : ∃ E2, IntKind.i64.wrap (fr + ln) = E2 := ⟨_, rfl⟩
  have hE3 : wrap64 (fr + ln) = E2 := by rw [← IntWalk.i64_left]; exact hE2
  rw [hE2]
  clear hNB hR hA hL hF hm
  go_enter Try.func57, Try.ntmps57
  go_upto_region 1 with fail
  generalize w.alloc (.cells #[.string ad, .int .i64 fr, .int .i64 ln] 44) = W at *
  generalize w.heap.size = X at *
  have d0 := FX.c0; have d1 := FX.c1; have d2 := FX.c2; have dl := FX.lt
  have v0 := hE.c; have vl := hE.lt
  refine region_still_tail 48 (by kernel_rfl) (by kernel_rfl) ?_
  simp only [List.take_succ_cons, List.take_zero, List.drop_succ_cons, List.drop_zero]
  refine St.step (fun K hK => ?_); go_simp; refine hK.out _ ?_; clear hK K
  refine St.step (fun K hK => ?_); go_simp; refine hK.out _ ?_; clear hK K
  refine St.step (fun K hK => ?_); go_simp; refine hK.out _ ?_; clear hK K
  refine St.step (fun K hK => ?_); go_simp; refine hK.out _ ?_; clear hK K
  refine St.skip (by kernel_rfl) ?_
  refine St.skip (by kernel_rfl) ?_
  refine St.skip (by kernel_rfl) ?_
  refine St.skip (by kernel_rfl) ?_
  refine St.step (fun K hK => ?_); go_simp; refine hK.out _ ?_; clear hK K
  refine St.step (fun K hK => ?_); go_simp; refine ⟨_, (st_of (bfaultIf_any _ _ _)), ?_⟩; refine hK.out _ ?_; clear hK K
  refine St.step (fun K hK => ?_); go_simp; refine hK.out _ ?_; clear hK K
  refine St.step (fun K hK => ?_); go_simp; refine hK.out _ ?_; clear hK K
  refine St.step (fun K hK => ?_); go_simp; refine ⟨_, (st_of (HL.out _)), ?_⟩; refine hK.out _ ?_; clear hK K
  refine St.step (fun K hK => ?_); go_simp; refine hK.out _ ?_; clear hK K
  refine St.step (fun K hK => ?_); go_simp; refine hK.out _ ?_; clear hK K
  refine St.step (fun K hK => ?_); go_simp; refine hK.out _ ?_; clear hK K
  refine St.step (fun K hK => ?_); go_simp; refine hK.out _ ?_; clear hK K
  refine St.step (fun K hK => ?_); go_simp; refine ⟨_, (st_of (HF.out _)), ?_⟩; refine hK.out _ ?_; clear hK K
  refine St.step (fun K hK => ?_); go_simp; refine hK.out _ ?_; clear hK K
  refine St.step (fun K hK => ?_); go_simp; refine hK.out _ ?_; clear hK K
  refine St.step (fun K hK => ?_); go_simp; refine hK.out _ ?_; clear hK K
  refine St.skip (by kernel_rfl) ?_
  refine St.skip (by kernel_rfl) ?_
  refine St.skip (by kernel_rfl) ?_
  refine St.skip (by kernel_rfl) ?_
  refine St.skip (by kernel_rfl) ?_
  refine St.skip (by kernel_rfl) ?_
  refine St.step (fun K hK => ?_); go_simp; refine hK.out _ ?_; clear hK K
  refine St.step (fun K hK => ?_); go_simp; refine ⟨_, (st_of (bfaultIf_any _ _ _)), ?_⟩; refine hK.out _ ?_; clear hK K
  refine St.step (fun K hK => ?_); go_simp; refine hK.out _ ?_; clear hK K
  refine St.step (fun K hK => ?_); go_simp; refine hK.out _ ?_; clear hK K
  refine St.step (fun K hK => ?_); go_simp; refine hK.out _ ?_; clear hK K
  refine St.step (fun K hK => ?_); go_simp; refine hK.out _ ?_; clear hK K
  refine St.skip (by kernel_rfl) ?_
  refine St.skip (by kernel_rfl) ?_
  refine St.skip (by kernel_rfl) ?_
  refine St.step (fun K hK => ?_); go_simp; refine hK.out _ ?_; clear hK K
  refine St.step (fun K hK => ?_); go_simp; refine ⟨_, (st_of (bfaultIf_any _ _ _)), ?_⟩; refine hK.out _ ?_; clear hK K
  refine St.step (fun K hK => ?_); go_simp; refine hK.out _ ?_; clear hK K
  refine St.step (fun K hK => ?_); go_simp; refine hK.out _ ?_; clear hK K
  refine St.step (fun K hK => ?_); go_simp; refine hK.out _ ?_; clear hK K
  refine St.step (fun K hK => ?_); go_simp; refine hK.out _ ?_; clear hK K
  refine St.step (fun K hK => ?_); go_simp; refine hK.out _ ?_; clear hK K
  refine St.step (fun K hK => ?_); go_simp; refine hK.out _ ?_; clear hK K
  refine St.step (fun K hK => ?_); go_simp; refine hK.out _ ?_; clear hK K
  refine St.step (fun K hK => ?_); go_simp; refine hK.out _ ?_; clear hK K
  refine St.step (fun K hK => ?_); go_simp; refine hK.out _ ?_; clear hK K
  refine St.step (fun K hK => ?_); go_simp; refine ⟨_, (st_of (bfaultIf_any _ _ _)), ?_⟩; refine hK.out _ ?_; clear hK K
  refine St.nil ?_
  have b1 := b1.drew
  have FX := FX.drew
  have hE := hE.drew
  have hV := hV.drew
  clear d0 d1 d2 dl v0 vl k2 HNM HL HF 
  generalize W.drew = W2 at *
  go_wp2_with fail
  refine (lfirst4 _ _ _ _ _).mono ?_; rintro e w' ⟨rfl, rfl⟩
  rw [HSM.out]
  clear HSM
  have b1 := b1.alloc (o := .cells #[.int .i64 (fIf (false) 5), .int .i64 (fIf (true) 1), .int .i64 (fIf (false) 3), .int .i64 (fIf (decide (fr < en)) 8)] 29) (Nat.le_of_lt (Nat.lt_of_le_of_lt hB1 hE.lt))
  have FX := FX.alloc (.cells #[.int .i64 (fIf (false) 5), .int .i64 (fIf (true) 1), .int .i64 (fIf (false) 3), .int .i64 (fIf (decide (fr < en)) 8)] 29)
  have hE := hE.alloc (.cells #[.int .i64 (fIf (false) 5), .int .i64 (fIf (true) 1), .int .i64 (fIf (false) 3), .int .i64 (fIf (decide (fr < en)) 8)] 29)
  have hV := hV.alloc (.cells #[.int .i64 (fIf (false) 5), .int .i64 (fIf (true) 1), .int .i64 (fIf (false) 3), .int .i64 (fIf (decide (fr < en)) 8)] 29)
  go_upto_region 2 with fail
  generalize W2.alloc (.cells #[.int .i64 (fIf (false) 5), .int .i64 (fIf (true) 1), .int .i64 (fIf (false) 3), .int .i64 (fIf (decide (fr < en)) 8)] 29) = W3 at *
  have d2 := FX.c2; have dl := FX.lt; have a0 := hV.c; have af := hV.fr; have al0 := hV.lt
  go_upto_region 3 with fail
  have hE := hE.other hne (.int .i64 A2) (o := 0)
  have hV := hV.set (.int .i64 A2)
  have FX := FX.other hXA (.int .i64 A2) (o := 0)
  have b1 := b1.setCell (p := ⟨AB, 0, none⟩) hB2 (.int .i64 A2)
  clear d2 dl a0 af al0
  generalize W3.setCell ⟨AB, 0, none⟩ (.int .i64 A2) = W4 at *
  have d0 := FX.c0; have d1 := FX.c1; have d2 := FX.c2; have dl := FX.lt; have e0 := hE.c; have ef := hE.fr; have el := hE.lt
  go_wp2_with fail
  go_ret
  exact ⟨rfl, hE.set _, hV.other (Ne.symm hne) _, b1.setCell (p := ⟨EB, 0, none⟩) hB1 _⟩
set_option maxRecDepth 100000 in
set_option maxHeartbeats 16000000 in
theorem chkp_pg (i : Int) (ad : ByteArray) (fr ln en al : Int) (EB AB B : Nat) (w : World) (hE : Vr w EB (.int .i64 en)) (hV : Vr w AB (.int .i64 al)) (hne : AB ≠ EB) (hB1 : B ≤ EB) (hB2 : B ≤ AB) (hm : ad.size ≤ maxLen) (hA : ad.size = 0) (hL : inB ln 1 1000000000000000 = true) (hF : inB fr 0 1000000000000000 = true) :
    Calls Try.prog 57 #[.int .i64 i, .agg #[.string ad, .int .i64 fr, .int .i64 ln], .pointer (some ⟨EB, 0, none⟩), .pointer (some ⟨AB, 0, none⟩)] w fun r w' => r = .returned (.int .i64 (ptE en ⟨ad, fr, ln⟩)) ∧ Vr w' EB (.int .i64 (IntKind.i64.wrap (fr + ln))) ∧ Vr w' AB (.int .i64 (IntKind.i64.wrap (al + ln))) ∧ Below B w w' := by
  have HNM := Lib.hid (fun W => isName_any ad W hm)
  have HL : Hid (∀ W, Calls Try.prog 59 #[.int .i64 ln] W fun e w' => e = .returned (.bool true) ∧ W = w') := Lib.hid (fun W => by rw [← hL]; exact lengthP_any _ W)
  have HF : Hid (∀ W, Calls Try.prog 42 #[.int .i64 fr] W fun e w' => e = .returned (.bool true) ∧ W = w') := Lib.hid (fun W => by rw [← hF]; exact tickP_any _ W)
  obtain ⟨NB, hNB⟩ : ∃ NB, nameB ad = NB := ⟨_, rfl⟩
  rw [hNB] at HNM
  obtain ⟨R, hR⟩ : ∃ R, ptE en ⟨ad, fr, ln⟩ = R := ⟨_, rfl⟩
  have HSM : Hid (fstF [fIf (false) 5, fIf (decide (1000000000000000 - ln < fr)) 1, fIf (false) 3, fIf (decide (fr < en)) 8] = R) := Lib.hid (by
    rw [← hR]
    have e : isAd ⟨ad, fr, ln⟩ = false := by exact decide_eq_false (by show ¬ 0 < ad.size; omega)
    unfold ptE
    simp only [e, hNB, hL, hF, Bool.true_and, Bool.false_and, Bool.not_true, Bool.not_false, Bool.true_or, Bool.false_or])
  rw [hR]
  have FX := PBox.new w ⟨ad, fr, ln⟩ 44
  have b1 : Below B w (w.alloc (.cells #[.string ad, .int .i64 fr, .int .i64 ln] 44)) := (Below.refl _ w).alloc (by have := hE.lt; omega) _
  have hXE : EB ≠ w.heap.size := Nat.ne_of_lt hE.lt
  have hXA : AB ≠ w.heap.size := Nat.ne_of_lt hV.lt
  have hE := hE.alloc (.cells #[.string ad, .int .i64 fr, .int .i64 ln] 44)
  have hV := hV.alloc (.cells #[.string ad, .int .i64 fr, .int .i64 ln] 44)
  obtain ⟨A2, hA2⟩ : ∃ A2, IntKind.i64.wrap (al + ln) = A2 := ⟨_, rfl⟩
  have hA3 : wrap64 (al + ln) = A2 := by rw [← IntWalk.i64_left]; exact hA2
  rw [hA2]
  have k1 := sEq hA
  have k2 := sEq2 hA
  obtain ⟨E2, hE2⟩ : ∃ E2, IntKind.i64.wrap (fr + ln) = E2 := ⟨_, rfl⟩
  have hE3 : wrap64 (fr + ln) = E2 := by rw [← IntWalk.i64_left]; exact hE2
  rw [hE2]
  have hLb := inB_iff.1 hL
  have wT : IntKind.i64.wrap (1000000000000000 - ln) = 1000000000000000 - ln := IntWalk.i64_in _ ⟨by omega, by omega⟩
  clear hLb
  clear hNB hR hA hL hF hm
  go_enter Try.func57, Try.ntmps57
  go_upto_region 1 with fail
  generalize w.alloc (.cells #[.string ad, .int .i64 fr, .int .i64 ln] 44) = W at *
  generalize w.heap.size = X at *
  have d0 := FX.c0; have d1 := FX.c1; have d2 := FX.c2; have dl := FX.lt
  have v0 := hE.c; have vl := hE.lt
  refine region_still_tail 48 (by kernel_rfl) (by kernel_rfl) ?_
  simp only [List.take_succ_cons, List.take_zero, List.drop_succ_cons, List.drop_zero]
  refine St.step (fun K hK => ?_); go_simp; refine hK.out _ ?_; clear hK K
  refine St.step (fun K hK => ?_); go_simp; refine hK.out _ ?_; clear hK K
  refine St.step (fun K hK => ?_); go_simp; refine hK.out _ ?_; clear hK K
  refine St.step (fun K hK => ?_); go_simp; refine hK.out _ ?_; clear hK K
  refine St.skip (by kernel_rfl) ?_
  refine St.skip (by kernel_rfl) ?_
  refine St.skip (by kernel_rfl) ?_
  refine St.skip (by kernel_rfl) ?_
  refine St.step (fun K hK => ?_); go_simp; refine hK.out _ ?_; clear hK K
  refine St.step (fun K hK => ?_); go_simp; refine ⟨_, (st_of (bfaultIf_any _ _ _)), ?_⟩; refine hK.out _ ?_; clear hK K
  refine St.step (fun K hK => ?_); go_simp; refine hK.out _ ?_; clear hK K
  refine St.step (fun K hK => ?_); go_simp; refine hK.out _ ?_; clear hK K
  refine St.step (fun K hK => ?_); go_simp; refine ⟨_, (st_of (HL.out _)), ?_⟩; refine hK.out _ ?_; clear hK K
  refine St.step (fun K hK => ?_); go_simp; refine hK.out _ ?_; clear hK K
  refine St.step (fun K hK => ?_); go_simp; refine hK.out _ ?_; clear hK K
  refine St.step (fun K hK => ?_); go_simp; refine hK.out _ ?_; clear hK K
  refine St.step (fun K hK => ?_); go_simp; refine hK.out _ ?_; clear hK K
  refine St.step (fun K hK => ?_); go_simp; refine ⟨_, (st_of (HF.out _)), ?_⟩; refine hK.out _ ?_; clear hK K
  refine St.step (fun K hK => ?_); go_simp; refine hK.out _ ?_; clear hK K
  refine St.step (fun K hK => ?_); go_simp; refine hK.out _ ?_; clear hK K
  refine St.step (fun K hK => ?_); go_simp; refine hK.out _ ?_; clear hK K
  refine St.step (fun K hK => ?_); go_simp; refine hK.out _ ?_; clear hK K
  refine St.step (fun K hK => ?_); go_simp; refine hK.out _ ?_; clear hK K
  refine St.step (fun K hK => ?_); go_simp; refine hK.out _ ?_; clear hK K
  refine St.step (fun K hK => ?_); go_simp; refine hK.out _ ?_; clear hK K
  refine St.step (fun K hK => ?_); go_simp; refine hK.out _ ?_; clear hK K
  refine St.step (fun K hK => ?_); go_simp; refine hK.out _ ?_; clear hK K
  refine St.step (fun K hK => ?_); go_simp; refine hK.out _ ?_; clear hK K
  refine St.step (fun K hK => ?_); go_simp; refine ⟨_, (st_of (bfaultIf_any _ _ _)), ?_⟩; refine hK.out _ ?_; clear hK K
  refine St.step (fun K hK => ?_); go_simp; refine hK.out _ ?_; clear hK K
  refine St.step (fun K hK => ?_); go_simp; refine hK.out _ ?_; clear hK K
  refine St.step (fun K hK => ?_); go_simp; refine hK.out _ ?_; clear hK K
  refine St.step (fun K hK => ?_); go_simp; refine hK.out _ ?_; clear hK K
  refine St.skip (by kernel_rfl) ?_
  refine St.skip (by kernel_rfl) ?_
  refine St.skip (by kernel_rfl) ?_
  refine St.step (fun K hK => ?_); go_simp; refine hK.out _ ?_; clear hK K
  refine St.step (fun K hK => ?_); go_simp; refine ⟨_, (st_of (bfaultIf_any _ _ _)), ?_⟩; refine hK.out _ ?_; clear hK K
  refine St.step (fun K hK => ?_); go_simp; refine hK.out _ ?_; clear hK K
  refine St.step (fun K hK => ?_); go_simp; refine hK.out _ ?_; clear hK K
  refine St.step (fun K hK => ?_); go_simp; refine hK.out _ ?_; clear hK K
  refine St.step (fun K hK => ?_); go_simp; refine hK.out _ ?_; clear hK K
  refine St.step (fun K hK => ?_); go_simp; refine hK.out _ ?_; clear hK K
  refine St.step (fun K hK => ?_); go_simp; refine hK.out _ ?_; clear hK K
  refine St.step (fun K hK => ?_); go_simp; refine hK.out _ ?_; clear hK K
  refine St.step (fun K hK => ?_); go_simp; refine hK.out _ ?_; clear hK K
  refine St.step (fun K hK => ?_); go_simp; refine hK.out _ ?_; clear hK K
  refine St.step (fun K hK => ?_); go_simp; refine ⟨_, (st_of (bfaultIf_any _ _ _)), ?_⟩; refine hK.out _ ?_; clear hK K
  refine St.nil ?_
  have b1 := b1.drew
  have FX := FX.drew
  have hE := hE.drew
  have hV := hV.drew
  clear d0 d1 d2 dl v0 vl k2 HNM HL HF wT
  generalize W.drew = W2 at *
  go_wp2_with fail
  refine (lfirst4 _ _ _ _ _).mono ?_; rintro e w' ⟨rfl, rfl⟩
  rw [HSM.out]
  clear HSM
  have b1 := b1.alloc (o := .cells #[.int .i64 (fIf (false) 5), .int .i64 (fIf (decide (1000000000000000 - ln < fr)) 1), .int .i64 (fIf (false) 3), .int .i64 (fIf (decide (fr < en)) 8)] 29) (Nat.le_of_lt (Nat.lt_of_le_of_lt hB1 hE.lt))
  have FX := FX.alloc (.cells #[.int .i64 (fIf (false) 5), .int .i64 (fIf (decide (1000000000000000 - ln < fr)) 1), .int .i64 (fIf (false) 3), .int .i64 (fIf (decide (fr < en)) 8)] 29)
  have hE := hE.alloc (.cells #[.int .i64 (fIf (false) 5), .int .i64 (fIf (decide (1000000000000000 - ln < fr)) 1), .int .i64 (fIf (false) 3), .int .i64 (fIf (decide (fr < en)) 8)] 29)
  have hV := hV.alloc (.cells #[.int .i64 (fIf (false) 5), .int .i64 (fIf (decide (1000000000000000 - ln < fr)) 1), .int .i64 (fIf (false) 3), .int .i64 (fIf (decide (fr < en)) 8)] 29)
  go_upto_region 2 with fail
  generalize W2.alloc (.cells #[.int .i64 (fIf (false) 5), .int .i64 (fIf (decide (1000000000000000 - ln < fr)) 1), .int .i64 (fIf (false) 3), .int .i64 (fIf (decide (fr < en)) 8)] 29) = W3 at *
  have d2 := FX.c2; have dl := FX.lt; have a0 := hV.c; have af := hV.fr; have al0 := hV.lt
  go_upto_region 3 with fail
  have hE := hE.other hne (.int .i64 A2) (o := 0)
  have hV := hV.set (.int .i64 A2)
  have FX := FX.other hXA (.int .i64 A2) (o := 0)
  have b1 := b1.setCell (p := ⟨AB, 0, none⟩) hB2 (.int .i64 A2)
  clear d2 dl a0 af al0
  generalize W3.setCell ⟨AB, 0, none⟩ (.int .i64 A2) = W4 at *
  have d0 := FX.c0; have d1 := FX.c1; have d2 := FX.c2; have dl := FX.lt; have e0 := hE.c; have ef := hE.fr; have el := hE.lt
  go_wp2_with fail
  go_ret
  exact ⟨rfl, hE.set _, hV.other (Ne.symm hne) _, b1.setCell (p := ⟨EB, 0, none⟩) hB1 _⟩

end Go.Proofs.Ytiphipgheadakaa
