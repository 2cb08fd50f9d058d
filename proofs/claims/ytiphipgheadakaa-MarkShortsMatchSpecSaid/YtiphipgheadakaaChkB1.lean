/- The closure of CheckBreaks (program), 1 of 4. -/
import Derived.Test.YtiphipgheadakaaChkB0
namespace Go.Proofs.Ytiphipgheadakaa
set_option linter.unusedVariables false
set_option linter.unusedSimpArgs false
open Go.RowKit

set_option maxRecDepth 100000 in
set_option maxHeartbeats 16000000 in
theorem chkb_zfo (ev be en : Int) (LB SB MB m : Nat) (f : Int → Bool) (w : World) (hLl : LB < w.heap.size) (hSc : w.cell? ⟨SB, 0, none⟩ = some (.map (some MB))) (hSl : SB < w.heap.size) (hM : Sn w MB m f) (hSM : SB ≠ MB) (hm : m ≤ 200) (hw : (Lit.int .i64 ev).wf = true) (hT : inB be 0 1000000000000000 = false) (hE : (en != -1) = false) :
    Calls Try.prog 46 #[.int .i64 0, .agg #[.int .i64 ev, .int .i64 be, .int .i64 en], .pointer (some ⟨LB, 0, none⟩), .pointer (some ⟨SB, 0, none⟩)] w fun r w' => r = .returned (.int .i64 (bkE 0 (f ev) ⟨ev, be, en⟩)) ∧ Sn w' MB (m + 1) (fun y => y == ev || f y) ∧ BelowX w.heap.size MB w w' := by
  obtain ⟨V, hV⟩ : ∃ V, inB ev 0 4294967295 = V := ⟨_, rfl⟩
  obtain ⟨E2, hE2⟩ : ∃ E2, inB en 0 1000000000000000 = E2 := ⟨_, rfl⟩
  obtain ⟨C, hC⟩ : ∃ C, f ev = C := ⟨_, rfl⟩
  have HV : Hid (∀ W, Calls Try.prog 47 #[.int .i64 ev, .int .i64 0, .int .i64 4294967295] W fun e w' => e = .returned (.bool V) ∧ W = w') := Lib.hid (fun W => by rw [← hV]; exact bwithin_any _ _ _ W)
  have HB : Hid (∀ W, Calls Try.prog 42 #[.int .i64 be] W fun e w' => e = .returned (.bool false) ∧ W = w') := Lib.hid (fun W => by rw [← hT]; exact tickP_any _ W)
  have HE : Hid (∀ W, Calls Try.prog 42 #[.int .i64 en] W fun e w' => e = .returned (.bool E2) ∧ W = w') := Lib.hid (fun W => by rw [← hE2]; exact tickP_any _ W)
  obtain ⟨R, hR⟩ : ∃ R, bkE 0 (f ev) ⟨ev, be, en⟩ = R := ⟨_, rfl⟩
  have HSM : Hid (fstF [fIf (!V) 1, fIf (true) 1, fIf (false) 8, fIf (false) 11, fIf (decide (be < 0)) 8, fIf C 7] = R) := Lib.hid (by
    have zz : ((0 : Int) == -1) = false := rfl
    rw [← hR]
    unfold bkE
    simp only [hV, hT, hE, hE2, hC, zz, Bool.true_and, Bool.false_and, Bool.not_true, Bool.not_false, Bool.true_or, Bool.false_or])
  rw [hR]
  have HW := Lib.hid hw; have HCC := Lib.hid hC
  have FX := BBox.new w ⟨ev, be, en⟩ 35
  have b1 : BelowX w.heap.size MB w ((w.alloc (.cells #[.int .i64 ev, .int .i64 be, .int .i64 en] 35)).alloc (.cells #[.int .i64 0, .int .i64 0, .int .i64 0] 35)) := ((BelowX.refl _ _ w).alloc (Nat.le_refl _) _).alloc (by simp) _
  have GX := BBox.new (w.alloc (.cells #[.int .i64 ev, .int .i64 be, .int .i64 en] 35)) ⟨0, 0, 0⟩ 35
  have FX := FX.alloc (.cells #[.int .i64 0, .int .i64 0, .int .i64 0] 35)
  have hM := (hM.alloc (.cells #[.int .i64 ev, .int .i64 be, .int .i64 en] 35)).alloc (.cells #[.int .i64 0, .int .i64 0, .int .i64 0] 35)
  have hs : (w.alloc (.cells #[.int .i64 ev, .int .i64 be, .int .i64 en] 35)).heap.size = w.heap.size + 1 := by simp
  rw [hs] at GX
  have m0 : ((w.alloc (.cells #[.int .i64 ev, .int .i64 be, .int .i64 en] 35)).alloc (.cells #[.int .i64 0, .int .i64 0, .int .i64 0] 35)).cell? ⟨SB, 0, none⟩ = some (.map (some MB)) := (b1.cell (p := ⟨SB, 0, none⟩) hSl hSM).trans hSc
  have ml : SB < ((w.alloc (.cells #[.int .i64 ev, .int .i64 be, .int .i64 en] 35)).alloc (.cells #[.int .i64 0, .int .i64 0, .int .i64 0] 35)).heap.size := Nat.lt_of_lt_of_le hSl b1.size
  have ms : w.heap.size ≤ ((w.alloc (.cells #[.int .i64 ev, .int .i64 be, .int .i64 en] 35)).alloc (.cells #[.int .i64 0, .int .i64 0, .int .i64 0] 35)).heap.size := b1.size
  have hEq : (en == -1) = !false := by rw [← hE, bne, Bool.not_not]
  replace hEq : (en == -1) = true := hEq
  clear hV hT hE2 hC hR hs hw
  go_enter Try.func46, Try.ntmps46
  go_upto_region 4 with fail
  generalize (w.alloc (.cells #[.int .i64 ev, .int .i64 be, .int .i64 en] 35)).alloc (.cells #[.int .i64 0, .int .i64 0, .int .i64 0] 35) = W at *
  have hrun := hM.drew.look HW.out
  rw [HCC.out] at hrun
  have d0 := FX.c0; have d1 := FX.c1; have d2 := FX.c2; have dl := FX.lt
  have g0 := GX.c0; have g1 := GX.c1; have g2 := GX.c2; have gl := GX.lt
  refine region_still_tail 47 (by kernel_rfl) (by kernel_rfl) ?_
  simp only [List.take_succ_cons, List.take_zero, List.drop_succ_cons, List.drop_zero]
  refine St.step (fun K hK => ?_); go_simp; refine hK.out _ ?_; clear hK K
  refine St.step (fun K hK => ?_); go_simp; refine hK.out _ ?_; clear hK K
  refine St.step (fun K hK => ?_); go_simp; refine ⟨_, (st_of (HV.out _)), ?_⟩; refine hK.out _ ?_; clear hK K
  refine St.step (fun K hK => ?_); go_simp; refine hK.out _ ?_; clear hK K
  refine St.step (fun K hK => ?_); go_simp; refine ⟨_, (st_of (bfaultIf_any _ _ _)), ?_⟩; refine hK.out _ ?_; clear hK K
  refine St.step (fun K hK => ?_); go_simp; refine hK.out _ ?_; clear hK K
  refine St.step (fun K hK => ?_); go_simp; refine hK.out _ ?_; clear hK K
  refine St.step (fun K hK => ?_); go_simp; refine ⟨_, (st_of (HB.out _)), ?_⟩; refine hK.out _ ?_; clear hK K
  refine St.step (fun K hK => ?_); go_simp; refine hK.out _ ?_; clear hK K
  refine St.step (fun K hK => ?_); go_simp; refine hK.out _ ?_; clear hK K
  refine St.skip (by kernel_rfl) ?_
  refine St.skip (by kernel_rfl) ?_
  refine St.skip (by kernel_rfl) ?_
  refine St.skip (by kernel_rfl) ?_
  refine St.skip (by kernel_rfl) ?_
  refine St.skip (by kernel_rfl) ?_
  refine St.skip (by kernel_rfl) ?_
  refine St.skip (by kernel_rfl) ?_
  refine St.skip (by kernel_rfl) ?_
  refine St.step (fun K hK => ?_); go_simp; refine hK.out _ ?_; clear hK K
  refine St.step (fun K hK => ?_); go_simp; refine ⟨_, (st_of (bfaultIf_any _ _ _)), ?_⟩; refine hK.out _ ?_; clear hK K
  refine St.step (fun K hK => ?_); go_simp; refine hK.out _ ?_; clear hK K
  refine St.step (fun K hK => ?_); go_simp; refine hK.out _ ?_; clear hK K
  refine St.step (fun K hK => ?_); go_simp; refine hK.out _ ?_; clear hK K
  refine St.step (fun K hK => ?_); go_simp; refine hK.out _ ?_; clear hK K
  refine St.skip (by kernel_rfl) ?_
  refine St.skip (by kernel_rfl) ?_
  refine St.skip (by kernel_rfl) ?_
  refine St.skip (by kernel_rfl) ?_
  refine St.skip (by kernel_rfl) ?_
  refine St.step (fun K hK => ?_); go_simp; refine hK.out _ ?_; clear hK K
  refine St.step (fun K hK => ?_); go_simp; refine ⟨_, (st_of (bfaultIf_any _ _ _)), ?_⟩; refine hK.out _ ?_; clear hK K
  refine St.step (fun K hK => ?_); go_simp; refine hK.out _ ?_; clear hK K
  refine St.step (fun K hK => ?_); go_simp; refine hK.out _ ?_; clear hK K
  refine St.step (fun K hK => ?_); go_simp; refine hK.out _ ?_; clear hK K
  refine St.step (fun K hK => ?_); go_simp; refine ⟨_, (st_of (bfaultIf_any _ _ _)), ?_⟩; refine hK.out _ ?_; clear hK K
  refine St.step (fun K hK => ?_); go_simp; refine hK.out _ ?_; clear hK K
  refine St.step (fun K hK => ?_); go_simp; refine hK.out _ ?_; clear hK K
  refine St.step (fun K hK => ?_); go_simp; refine hK.out _ ?_; clear hK K
  refine St.step (fun K hK => ?_); go_simp; refine hK.out _ ?_; clear hK K
  refine St.step (fun K hK => ?_); go_simp; refine hK.out _ ?_; clear hK K
  refine St.step (fun K hK => ?_); go_simp; refine ⟨_, (st_of (bfaultIf_any _ _ _)), ?_⟩; refine hK.out _ ?_; clear hK K
  refine St.step (fun K hK => ?_); go_simp; refine hK.out _ ?_; clear hK K
  refine St.step (fun K hK => ?_); go_simp; refine hK.out _ ?_; clear hK K
  refine St.step (fun K hK => ?_); go_simp; refine hK.out _ ?_; clear hK K
  refine St.step (fun K hK => ?_); go_simp; refine hK.out _ ?_; clear hK K
  refine St.step (fun K hK => ?_); go_simp; refine ⟨_, (st_of (bfaultIf_any _ _ _)), ?_⟩; refine hK.out _ ?_; clear hK K
  refine St.nil ?_
  have b1 := b1.drew
  have FX := FX.drew
  have hM := hM.drew
  replace m0 : W.drew.cell? ⟨SB, 0, none⟩ = some (.map (some MB)) := m0
  replace ml : SB < W.drew.heap.size := ml
  replace ms : w.heap.size ≤ W.drew.heap.size := ms
  clear d0 d1 d2 dl g0 g1 g2 gl GX hrun HV HB HE hEq
  generalize W.drew = W2 at *
  go_wp2_with fail
  refine (lfirst6 _ _ _ _ _ _ _).mono ?_; rintro e w' ⟨rfl, rfl⟩
  rw [HSM.out]
  clear HSM
  have b1 := b1.alloc (o := .cells #[.int .i64 (fIf (!V) 1), .int .i64 (fIf (true) 1), .int .i64 (fIf (false) 8), .int .i64 (fIf (false) 11), .int .i64 (fIf (decide (be < 0)) 8), .int .i64 (fIf C 7)] 29) ms
  have FX := FX.alloc (.cells #[.int .i64 (fIf (!V) 1), .int .i64 (fIf (true) 1), .int .i64 (fIf (false) 8), .int .i64 (fIf (false) 11), .int .i64 (fIf (decide (be < 0)) 8), .int .i64 (fIf C 7)] 29)
  have hM := hM.alloc (.cells #[.int .i64 (fIf (!V) 1), .int .i64 (fIf (true) 1), .int .i64 (fIf (false) 8), .int .i64 (fIf (false) 11), .int .i64 (fIf (decide (be < 0)) 8), .int .i64 (fIf C 7)] 29)
  replace m0 : (W2.alloc (.cells #[.int .i64 (fIf (!V) 1), .int .i64 (fIf (true) 1), .int .i64 (fIf (false) 8), .int .i64 (fIf (false) 11), .int .i64 (fIf (decide (be < 0)) 8), .int .i64 (fIf C 7)] 29)).cell? ⟨SB, 0, none⟩ = some (.map (some MB)) := (World.cell?_alloc_old _ _ _ (Nat.ne_of_lt ml)).trans m0
  replace ml : SB < (W2.alloc (.cells #[.int .i64 (fIf (!V) 1), .int .i64 (fIf (true) 1), .int .i64 (fIf (false) 8), .int .i64 (fIf (false) 11), .int .i64 (fIf (decide (be < 0)) 8), .int .i64 (fIf C 7)] 29)).heap.size := Nat.lt_of_lt_of_le ml (by simp)
  replace ms : w.heap.size ≤ (W2.alloc (.cells #[.int .i64 (fIf (!V) 1), .int .i64 (fIf (true) 1), .int .i64 (fIf (false) 8), .int .i64 (fIf (false) 11), .int .i64 (fIf (decide (be < 0)) 8), .int .i64 (fIf C 7)] 29)).heap.size := Nat.le_trans ms (by simp)
  go_upto_region 5 with fail
  generalize W2.alloc (.cells #[.int .i64 (fIf (!V) 1), .int .i64 (fIf (true) 1), .int .i64 (fIf (false) 8), .int .i64 (fIf (false) 11), .int .i64 (fIf (decide (be < 0)) 8), .int .i64 (fIf C 7)] 29) = W3 at *
  have d0 := FX.c0; have dl := FX.lt
  go_wp2_with (at_mapUpdate; refine wpList_set rfl _ _ _ rfl MB m f rfl hM (by unfold maxLen; omega) ev rfl rfl HW.out ?_; intro w4 hM4 hg4)
  have b4 := b1.grown hg4 ms
  go_ret
  exact ⟨rfl, hM4, b4⟩
set_option maxRecDepth 100000 in
set_option maxHeartbeats 16000000 in
theorem chkb_zfe (ev be en : Int) (LB SB MB m : Nat) (f : Int → Bool) (w : World) (hLl : LB < w.heap.size) (hSc : w.cell? ⟨SB, 0, none⟩ = some (.map (some MB))) (hSl : SB < w.heap.size) (hM : Sn w MB m f) (hSM : SB ≠ MB) (hm : m ≤ 200) (hw : (Lit.int .i64 ev).wf = true) (hT : inB be 0 1000000000000000 = false) (hE : (en != -1) = true) :
    Calls Try.prog 46 #[.int .i64 0, .agg #[.int .i64 ev, .int .i64 be, .int .i64 en], .pointer (some ⟨LB, 0, none⟩), .pointer (some ⟨SB, 0, none⟩)] w fun r w' => r = .returned (.int .i64 (bkE 0 (f ev) ⟨ev, be, en⟩)) ∧ Sn w' MB (m + 1) (fun y => y == ev || f y) ∧ BelowX w.heap.size MB w w' := by
  obtain ⟨V, hV⟩ : ∃ V, inB ev 0 4294967295 = V := ⟨_, rfl⟩
  obtain ⟨E2, hE2⟩ : ∃ E2, inB en 0 1000000000000000 = E2 := ⟨_, rfl⟩
  obtain ⟨C, hC⟩ : ∃ C, f ev = C := ⟨_, rfl⟩
  have HV : Hid (∀ W, Calls Try.prog 47 #[.int .i64 ev, .int .i64 0, .int .i64 4294967295] W fun e w' => e = .returned (.bool V) ∧ W = w') := Lib.hid (fun W => by rw [← hV]; exact bwithin_any _ _ _ W)
  have HB : Hid (∀ W, Calls Try.prog 42 #[.int .i64 be] W fun e w' => e = .returned (.bool false) ∧ W = w') := Lib.hid (fun W => by rw [← hT]; exact tickP_any _ W)
  have HE : Hid (∀ W, Calls Try.prog 42 #[.int .i64 en] W fun e w' => e = .returned (.bool E2) ∧ W = w') := Lib.hid (fun W => by rw [← hE2]; exact tickP_any _ W)
  obtain ⟨R, hR⟩ : ∃ R, bkE 0 (f ev) ⟨ev, be, en⟩ = R := ⟨_, rfl⟩
  have HSM : Hid (fstF [fIf (!V) 1, fIf (true) 1, fIf (decide (en ≤ be)) 8, fIf (false) 11, fIf (decide (be < 0)) 8, fIf C 7] = R) := Lib.hid (by
    have zz : ((0 : Int) == -1) = false := rfl
    rw [← hR]
    unfold bkE
    simp only [hV, hT, hE, hE2, hC, zz, Bool.true_and, Bool.false_and, Bool.not_true, Bool.not_false, Bool.true_or, Bool.false_or])
  rw [hR]
  have HW := Lib.hid hw; have HCC := Lib.hid hC
  have FX := BBox.new w ⟨ev, be, en⟩ 35
  have b1 : BelowX w.heap.size MB w ((w.alloc (.cells #[.int .i64 ev, .int .i64 be, .int .i64 en] 35)).alloc (.cells #[.int .i64 0, .int .i64 0, .int .i64 0] 35)) := ((BelowX.refl _ _ w).alloc (Nat.le_refl _) _).alloc (by simp) _
  have GX := BBox.new (w.alloc (.cells #[.int .i64 ev, .int .i64 be, .int .i64 en] 35)) ⟨0, 0, 0⟩ 35
  have FX := FX.alloc (.cells #[.int .i64 0, .int .i64 0, .int .i64 0] 35)
  have hM := (hM.alloc (.cells #[.int .i64 ev, .int .i64 be, .int .i64 en] 35)).alloc (.cells #[.int .i64 0, .int .i64 0, .int .i64 0] 35)
  have hs : (w.alloc (.cells #[.int .i64 ev, .int .i64 be, .int .i64 en] 35)).heap.size = w.heap.size + 1 := by simp
  rw [hs] at GX
  have m0 : ((w.alloc (.cells #[.int .i64 ev, .int .i64 be, .int .i64 en] 35)).alloc (.cells #[.int .i64 0, .int .i64 0, .int .i64 0] 35)).cell? ⟨SB, 0, none⟩ = some (.map (some MB)) := (b1.cell (p := ⟨SB, 0, none⟩) hSl hSM).trans hSc
  have ml : SB < ((w.alloc (.cells #[.int .i64 ev, .int .i64 be, .int .i64 en] 35)).alloc (.cells #[.int .i64 0, .int .i64 0, .int .i64 0] 35)).heap.size := Nat.lt_of_lt_of_le hSl b1.size
  have ms : w.heap.size ≤ ((w.alloc (.cells #[.int .i64 ev, .int .i64 be, .int .i64 en] 35)).alloc (.cells #[.int .i64 0, .int .i64 0, .int .i64 0] 35)).heap.size := b1.size
  have hEq : (en == -1) = !true := by rw [← hE, bne, Bool.not_not]
  replace hEq : (en == -1) = false := hEq
  clear hV hT hE2 hC hR hs hw
  go_enter Try.func46, Try.ntmps46
  go_upto_region 4 with fail
  generalize (w.alloc (.cells #[.int .i64 ev, .int .i64 be, .int .i64 en] 35)).alloc (.cells #[.int .i64 0, .int .i64 0, .int .i64 0] 35) = W at *
  have hrun := hM.drew.look HW.out
  rw [HCC.out] at hrun
  have d0 := FX.c0; have d1 := FX.c1; have d2 := FX.c2; have dl := FX.lt
  have g0 := GX.c0; have g1 := GX.c1; have g2 := GX.c2; have gl := GX.lt
  refine region_still_tail 47 (by kernel_rfl) (by kernel_rfl) ?_
  simp only [List.take_succ_cons, List.take_zero, List.drop_succ_cons, List.drop_zero]
  refine St.step (fun K hK => ?_); go_simp; refine hK.out _ ?_; clear hK K
  refine St.step (fun K hK => ?_); go_simp; refine hK.out _ ?_; clear hK K
  refine St.step (fun K hK => ?_); go_simp; refine ⟨_, (st_of (HV.out _)), ?_⟩; refine hK.out _ ?_; clear hK K
  refine St.step (fun K hK => ?_); go_simp; refine hK.out _ ?_; clear hK K
  refine St.step (fun K hK => ?_); go_simp; refine ⟨_, (st_of (bfaultIf_any _ _ _)), ?_⟩; refine hK.out _ ?_; clear hK K
  refine St.step (fun K hK => ?_); go_simp; refine hK.out _ ?_; clear hK K
  refine St.step (fun K hK => ?_); go_simp; refine hK.out _ ?_; clear hK K
  refine St.step (fun K hK => ?_); go_simp; refine ⟨_, (st_of (HB.out _)), ?_⟩; refine hK.out _ ?_; clear hK K
  refine St.step (fun K hK => ?_); go_simp; refine hK.out _ ?_; clear hK K
  refine St.step (fun K hK => ?_); go_simp; refine hK.out _ ?_; clear hK K
  refine St.skip (by kernel_rfl) ?_
  refine St.skip (by kernel_rfl) ?_
  refine St.skip (by kernel_rfl) ?_
  refine St.skip (by kernel_rfl) ?_
  refine St.skip (by kernel_rfl) ?_
  refine St.skip (by kernel_rfl) ?_
  refine St.skip (by kernel_rfl) ?_
  refine St.skip (by kernel_rfl) ?_
  refine St.skip (by kernel_rfl) ?_
  refine St.step (fun K hK => ?_); go_simp; refine hK.out _ ?_; clear hK K
  refine St.step (fun K hK => ?_); go_simp; refine ⟨_, (st_of (bfaultIf_any _ _ _)), ?_⟩; refine hK.out _ ?_; clear hK K
  refine St.step (fun K hK => ?_); go_simp; refine hK.out _ ?_; clear hK K
  refine St.step (fun K hK => ?_); go_simp; refine hK.out _ ?_; clear hK K
  refine St.step (fun K hK => ?_); go_simp; refine hK.out _ ?_; clear hK K
  refine St.step (fun K hK => ?_); go_simp; refine hK.out _ ?_; clear hK K
  refine St.step (fun K hK => ?_); go_simp; refine hK.out _ ?_; clear hK K
  refine St.step (fun K hK => ?_); go_simp; refine hK.out _ ?_; clear hK K
  refine St.step (fun K hK => ?_); go_simp; refine hK.out _ ?_; clear hK K
  refine St.step (fun K hK => ?_); go_simp; refine hK.out _ ?_; clear hK K
  refine St.step (fun K hK => ?_); go_simp; refine hK.out _ ?_; clear hK K
  refine St.step (fun K hK => ?_); go_simp; refine hK.out _ ?_; clear hK K
  refine St.step (fun K hK => ?_); go_simp; refine ⟨_, (st_of (bfaultIf_any _ _ _)), ?_⟩; refine hK.out _ ?_; clear hK K
  refine St.step (fun K hK => ?_); go_simp; refine hK.out _ ?_; clear hK K
  refine St.step (fun K hK => ?_); go_simp; refine hK.out _ ?_; clear hK K
  refine St.step (fun K hK => ?_); go_simp; refine hK.out _ ?_; clear hK K
  refine St.step (fun K hK => ?_); go_simp; refine ⟨_, (st_of (bfaultIf_any _ _ _)), ?_⟩; refine hK.out _ ?_; clear hK K
  refine St.step (fun K hK => ?_); go_simp; refine hK.out _ ?_; clear hK K
  refine St.step (fun K hK => ?_); go_simp; refine hK.out _ ?_; clear hK K
  refine St.step (fun K hK => ?_); go_simp; refine hK.out _ ?_; clear hK K
  refine St.step (fun K hK => ?_); go_simp; refine hK.out _ ?_; clear hK K
  refine St.step (fun K hK => ?_); go_simp; refine hK.out _ ?_; clear hK K
  refine St.step (fun K hK => ?_); go_simp; refine ⟨_, (st_of (bfaultIf_any _ _ _)), ?_⟩; refine hK.out _ ?_; clear hK K
  refine St.step (fun K hK => ?_); go_simp; refine hK.out _ ?_; clear hK K
  refine St.step (fun K hK => ?_); go_simp; refine hK.out _ ?_; clear hK K
  refine St.step (fun K hK => ?_); go_simp; refine hK.out _ ?_; clear hK K
  refine St.step (fun K hK => ?_); go_simp; refine hK.out _ ?_; clear hK K
  refine St.step (fun K hK => ?_); go_simp; refine ⟨_, (st_of (bfaultIf_any _ _ _)), ?_⟩; refine hK.out _ ?_; clear hK K
  refine St.nil ?_
  have b1 := b1.drew
  have FX := FX.drew
  have hM := hM.drew
  replace m0 : W.drew.cell? ⟨SB, 0, none⟩ = some (.map (some MB)) := m0
  replace ml : SB < W.drew.heap.size := ml
  replace ms : w.heap.size ≤ W.drew.heap.size := ms
  clear d0 d1 d2 dl g0 g1 g2 gl GX hrun HV HB HE hEq
  generalize W.drew = W2 at *
  go_wp2_with fail
  refine (lfirst6 _ _ _ _ _ _ _).mono ?_; rintro e w' ⟨rfl, rfl⟩
  rw [HSM.out]
  clear HSM
  have b1 := b1.alloc (o := .cells #[.int .i64 (fIf (!V) 1), .int .i64 (fIf (true) 1), .int .i64 (fIf (decide (en ≤ be)) 8), .int .i64 (fIf (false) 11), .int .i64 (fIf (decide (be < 0)) 8), .int .i64 (fIf C 7)] 29) ms
  have FX := FX.alloc (.cells #[.int .i64 (fIf (!V) 1), .int .i64 (fIf (true) 1), .int .i64 (fIf (decide (en ≤ be)) 8), .int .i64 (fIf (false) 11), .int .i64 (fIf (decide (be < 0)) 8), .int .i64 (fIf C 7)] 29)
  have hM := hM.alloc (.cells #[.int .i64 (fIf (!V) 1), .int .i64 (fIf (true) 1), .int .i64 (fIf (decide (en ≤ be)) 8), .int .i64 (fIf (false) 11), .int .i64 (fIf (decide (be < 0)) 8), .int .i64 (fIf C 7)] 29)
  replace m0 : (W2.alloc (.cells #[.int .i64 (fIf (!V) 1), .int .i64 (fIf (true) 1), .int .i64 (fIf (decide (en ≤ be)) 8), .int .i64 (fIf (false) 11), .int .i64 (fIf (decide (be < 0)) 8), .int .i64 (fIf C 7)] 29)).cell? ⟨SB, 0, none⟩ = some (.map (some MB)) := (World.cell?_alloc_old _ _ _ (Nat.ne_of_lt ml)).trans m0
  replace ml : SB < (W2.alloc (.cells #[.int .i64 (fIf (!V) 1), .int .i64 (fIf (true) 1), .int .i64 (fIf (decide (en ≤ be)) 8), .int .i64 (fIf (false) 11), .int .i64 (fIf (decide (be < 0)) 8), .int .i64 (fIf C 7)] 29)).heap.size := Nat.lt_of_lt_of_le ml (by simp)
  replace ms : w.heap.size ≤ (W2.alloc (.cells #[.int .i64 (fIf (!V) 1), .int .i64 (fIf (true) 1), .int .i64 (fIf (decide (en ≤ be)) 8), .int .i64 (fIf (false) 11), .int .i64 (fIf (decide (be < 0)) 8), .int .i64 (fIf C 7)] 29)).heap.size := Nat.le_trans ms (by simp)
  go_upto_region 5 with fail
  generalize W2.alloc (.cells #[.int .i64 (fIf (!V) 1), .int .i64 (fIf (true) 1), .int .i64 (fIf (decide (en ≤ be)) 8), .int .i64 (fIf (false) 11), .int .i64 (fIf (decide (be < 0)) 8), .int .i64 (fIf C 7)] 29) = W3 at *
  have d0 := FX.c0; have dl := FX.lt
  go_wp2_with (at_mapUpdate; refine wpList_set rfl _ _ _ rfl MB m f rfl hM (by unfold maxLen; omega) ev rfl rfl HW.out ?_; intro w4 hM4 hg4)
  have b4 := b1.grown hg4 ms
  go_ret
  exact ⟨rfl, hM4, b4⟩

end Go.Proofs.Ytiphipgheadakaa
