/- leastDelay and Delay of package sample. -/
import Derived.Test.YtgpiagdldcnijaaTaken
namespace Go.Proofs.Ytgpiagdldcnijaa
set_option linter.unusedVariables false
set_option linter.unusedSimpArgs false
open Go.RowKit Go.Deep

theorem sret2 {a b c d : Int} (h : a = b) (k : c = d) : Ending.returned (.tuple #[.int .i64 a, .int .i64 c]) = .returned (.tuple #[.int .i64 b, .int .i64 d]) := by rw [h, k]

set_option maxRecDepth 100000 in
set_option maxHeartbeats 2000000 in
theorem delayc_any (t x b d S r : Int) (Bd Bp Br : Nat) (ty : TypeId) (w : World) (hd : w.heap[Bd]? = some (.cells #[.int .i64 d] ty (0, 0))) (hp : w.cell? ⟨Bp, 0, none⟩ = some (.int .i64 S)) (hr : w.cell? ⟨Br, 0, none⟩ = some (.int .i64 r))
    (b0 : 0 ≤ b) (b1 : b ≤ 500000000) (s0 : 1 ≤ S) (s1 : S ≤ 1000000000) (r0 : 1 ≤ r) (r1 : r ≤ 1000000000) (t0 : 0 ≤ t) (t1 : t ≤ 2000000000000000) :
    Calls Try.prog 126 #[.int .i64 t, .int .i64 x, .int .i64 b, .pointer (some ⟨Bd, 0, none⟩), .pointer (some ⟨Bp, 0, none⟩), .pointer (some ⟨Br, 0, none⟩)] w fun e w' =>
      e = .returned (.tuple #[]) ∧ BelowX w.heap.size Bd w w' ∧ w'.heap[Bd]? = some (.cells #[.int .i64 (max d (upQ (b * S) r - t))] ty (0, 0)) := by
  have hcell := cell_of_one hd
  have hfree := free_of_one hd
  obtain ⟨m0, m1⟩ := prod_bd b0 b1 s0 s1
  obtain ⟨P, hP⟩ : ∃ P, b * S = P := ⟨_, rfl⟩
  rw [hP] at m0 m1 ⊢
  have hq0 := upQ_nonneg m0 r0
  have hq1 := upQ_bd m0 r0
  obtain ⟨q, hq⟩ : ∃ q, upQ P r = q := ⟨_, rfl⟩
  rw [hq] at hq0 hq1 ⊢
  have HQ := Lib.hid hq
  have hmul : IntKind.i64.wrap (b * S) = P := by rw [hP]; exact IntWalk.i64_in _ ⟨by omega, by omega⟩
  have hsub : IntKind.i64.wrap (q - t) = q - t := IntWalk.i64_in _ ⟨by omega, by omega⟩
  have hbel : ∀ X, BelowX w.heap.size Bd w (w.setCell ⟨Bd, 0, none⟩ (.int .i64 X)).drew := fun X => ((BelowX.refl _ _ _).set 0 _).drew
  have hnew : ∀ X, (w.setCell ⟨Bd, 0, none⟩ (.int .i64 X)).drew.heap[Bd]? = some (.cells #[.int .i64 X] ty (0, 0)) := fun X => one_setCell hd
  have HB := Lib.hid hbel; have HN := Lib.hid hnew
  clear hq hbel hnew hP
  go_enter Try.func126, Try.ntmps126
  go_wp2_with fail
  refine region_still_tail 9 (by kernel_rfl) (by kernel_rfl) ?_
  simp only [List.take_succ_cons, List.take_zero, List.drop_succ_cons, List.drop_zero]
  refine St.step (fun K hK => ?_); go_simp; refine hK.out _ ?_; clear hK K
  refine St.step (fun K hK => ?_); go_simp; refine hK.out _ ?_; clear hK K
  refine St.step (fun K hK => ?_); go_simp; refine hK.out _ ?_; clear hK K
  refine St.step (fun K hK => ?_); go_simp; refine hK.out _ ?_; clear hK K
  refine St.step (fun K hK => ?_); go_simp; refine hK.out _ ?_; clear hK K
  refine St.step (fun K hK => ?_); go_simp; refine hK.out _ ?_; clear hK K
  refine St.step (fun K hK => ?_); go_simp; refine ⟨_, st_of (roundedUp_any _ _ _ m0 (by omega) r0 (by omega)), ?_⟩; refine hK.out _ ?_; clear hK K
  rw [HQ.out]
  refine St.step (fun K hK => ?_); go_simp; refine hK.out _ ?_; clear hK K
  refine St.step (fun K hK => ?_); go_simp; refine hK.out _ ?_; clear hK K
  refine St.nil ?_
  go_wp2_with fail
  · go_end0
    rw [show max d (q - t) = q - t by omega]
    exact ⟨rfl, HB.out _, HN.out _⟩
  · go_end0
    rw [show max d (q - t) = d by omega]
    exact ⟨rfl, HB.out _, HN.out _⟩

theorem three_boxes (w : World) (o1 o2 o3 : Obj) : (((w.alloc o1).alloc o2).alloc o3).heap[w.heap.size]? = some o1 ∧ (((w.alloc o1).alloc o2).alloc o3).heap[w.heap.size + 1]? = some o2 ∧ (((w.alloc o1).alloc o2).alloc o3).heap[w.heap.size + 1 + 1]? = some o3 ∧
    (((w.alloc o1).alloc o2).alloc o3).heap.size = w.heap.size + 3 ∧ Below w.heap.size w (((w.alloc o1).alloc o2).alloc o3) := by
  have h1 := one_new w o1
  have h2 := one_new (w.alloc o1) o2
  have h3 := one_new ((w.alloc o1).alloc o2) o3
  simp only [World.size_alloc] at h2 h3
  exact ⟨one_alloc (one_alloc h1), one_alloc h2, h3, by simp, ((((Below.refl _ _).alloc (Nat.le_refl _) _).alloc (by simp) _).alloc (by simp; omega) _)⟩
theorem cell_of_two {w : World} {b : Nat} {u v : Value} {t : TypeId} (h : w.heap[b]? = some (.cells #[u, v] t (0, 0))) : w.cell? ⟨b, 0, none⟩ = some u ∧ w.cell? ⟨b, 1, none⟩ = some v := by simp [World.cell?, h]

theorem good_scale {ss : List Smp} {S : Int} (h : chkP ss S = 0) : Good ss ∧ 1 ≤ S ∧ S ≤ 1000000000 := (chkP_zero ss S).1 h

set_option maxRecDepth 100000 in
set_option maxHeartbeats 2000000 in
theorem leastDelay_any (S rate : Int) (v : Value) (ss : List Smp) (w : World) (g : Good ss) (s0 : 1 ≤ S) (s1 : S ≤ 1000000000) (r0 : 1 ≤ rate) (r1 : rate ≤ 1000000000) (h : Smps w v ss) :
    Calls Try.prog 101 #[.agg #[.int .i64 S, v], .int .i64 rate] w fun e w' => e = .returned (.int .i64 (dlyTo ss S rate ss.length)) ∧ Below w.heap.size w w' := by
  have hS := h
  rcases h with ⟨a, cap, rfl, h0⟩ | ⟨b, off, cap, rfl, hne, hlt, hl, hm, hc⟩
  · have hs : ss = [] := List.length_eq_zero_iff.1 h0
    subst hs
    clear hS h0
    go_enter Try.func101, Try.ntmps101
    go_wp2_with fail
    refine (each_empty _ _ _ _ _ _).mono ?_; rintro e w4 ⟨rfl, b4⟩
    obtain ⟨k1, k2, k3, k4, k5⟩ := three_boxes w (.cells #[.int .i64 S, .slice a 0 cap] 82) (.cells #[.int .i64 rate] 3) (.cells #[.int .i64 0] 3)
    generalize ((w.alloc (.cells #[.int .i64 S, .slice a 0 cap] 82)).alloc (.cells #[.int .i64 rate] 3)).alloc (.cells #[.int .i64 0] 3) = W at *
    have c4 := cell_of_one (one_below k3 b4 (by omega))
    have bel := k5.trans (b4.mono k5.size)
    clear k1 k2 k3 k4 k5 b4
    go_wp2_with fail
    go_ret
    exact ⟨rfl, bel⟩
  · obtain ⟨n, hz⟩ : ∃ n, ss.length = n := ⟨_, rfl⟩
    rw [hz] at hne hS ⊢
    have HZ := Lib.hid hz
    have HG := Lib.hid g
    have HS := Lib.hid hS
    clear hz g hS hc hl hm
    go_enter Try.func101, Try.ntmps101
    go_wp2_with fail
    obtain ⟨k1, k2, k3, k4, k5⟩ := three_boxes w (.cells #[.int .i64 S, .slice (some ⟨b, off, none⟩) n cap] 82) (.cells #[.int .i64 rate] 3) (.cells #[.int .i64 0] 3)
    generalize ((w.alloc (.cells #[.int .i64 S, .slice (some ⟨b, off, none⟩) n cap] 82)).alloc (.cells #[.int .i64 rate] 3)).alloc (.cells #[.int .i64 0] 3) = W at *
    have cp := (cell_of_two k1).1
    have cr := cell_of_one k2
    refine (each_walk S b off n cap ss 126 #[.pointer (some ⟨w.heap.size + 1 + 1, 0, none⟩), .pointer (some ⟨w.heap.size, 0, none⟩), .pointer (some ⟨w.heap.size + 1, 0, none⟩)] (w.heap.size + 1 + 1) 3 (fun k => .int .i64 (dlyTo ss S rate k)) W (enters_of Try.func126 (by kernel_rfl) rfl) HZ.out hne HG.out (by omega) (by omega) (by omega) (HS.out.below k5 (Nat.le_refl _)) k3 (fun k wr hk hb hv => by
      obtain ⟨q0, q1⟩ := sizeTo_bd5 HG.out (k + 1) (by rw [HZ.out]; omega)
      obtain ⟨t0, t1⟩ := tick_bd HG.out k (by rw [HZ.out]; exact hk)
      refine (delayc_any (tickAt ss k) (sizeTo ss k) (sizeTo ss (k + 1)) (dlyTo ss S rate k) S rate (w.heap.size + 1 + 1) w.heap.size (w.heap.size + 1) 3 wr hv ?_ ?_ q0 q1 s0 s1 r0 r1 t0 t1).mono ?_
      · rw [hb.cell (p := ⟨w.heap.size, 0, none⟩) (by show w.heap.size < _; omega) (by show w.heap.size ≠ _; omega)]; exact cp
      · rw [hb.cell (p := ⟨w.heap.size + 1, 0, none⟩) (by show w.heap.size + 1 < _; omega) (by show w.heap.size + 1 ≠ _; omega)]; exact cr
      · rintro e w' ⟨rfl, h1, h2⟩
        exact ⟨rfl, h1, h2⟩)).mono ?_
    rintro e w4 ⟨rfl, b4, v4⟩
    have c4 := cell_of_one v4
    have bel : Below w.heap.size w w4 := k5.trans (b4.below (by omega) (by omega))
    clear k1 k2 k3 k4 k5 b4 v4 cp cr
    go_wp2_with fail
    go_ret
    exact ⟨rfl, bel⟩

set_option maxRecDepth 100000 in
set_option maxHeartbeats 2000000 in
/-- Delay, whatever the parcel. -/
theorem delay_any (S rate : Int) (v : Value) (ss : List Smp) (w : World) (h : Smps w v ss) :
    Calls Try.prog 44 #[.agg #[.int .i64 S, v], .int .i64 rate] w fun e w' => e = .returned (.tuple #[.int .i64 (dlyV ss S rate), .int .i64 (dlyF ss S rate)]) ∧ Below w.heap.size w w' := by
  obtain ⟨a, cap, rfl⟩ := h.parts
  obtain ⟨n, hn⟩ : ∃ n, ss.length = n := ⟨_, rfl⟩
  rw [hn] at h ⊢
  have HNN := Lib.hid hn
  obtain ⟨x, hx⟩ : ∃ x, chkP ss S = x := ⟨_, rfl⟩
  have HX := Lib.hid hx
  have hb0 : Below w.heap.size w (w.alloc (.cells #[.int .i64 S, .slice a n cap] 82)) := (Below.refl _ _).alloc (Nat.le_refl _) _
  have HS := Lib.hid (h.below hb0 (Nat.le_refl _))
  have HS0 := Lib.hid h
  by_cases h0 : x = 0
  · subst h0
    obtain ⟨g, s0, s1⟩ := good_scale hx
    have HG := Lib.hid g
    by_cases hr : rateIn rate
    · have hF : dlyF ss S rate = if dlyTo ss S rate n ≤ 1000000000000 then 0 else 1 := by rw [dlyF, if_pos hx, if_pos hr, hn]
      have hV : dlyV ss S rate = if dlyTo ss S rate n ≤ 1000000000000 then dlyTo ss S rate n else 0 := by
        rw [dlyV, hF, hn]
        split
        · simp
        · simp
      have HF := Lib.hid hF; have HV := Lib.hid hV
      obtain ⟨D, hD⟩ : ∃ D, dlyTo ss S rate n = D := ⟨_, rfl⟩
      rw [hD] at HF HV
      have HD := Lib.hid hD
      have HR := Lib.hid hr
      have hin : inB rate 1 1000000000 = true := inB_yes hr.1 hr.2
      have HIN := Lib.hid hin
      clear hF hV hx h hn g hD hr hin
      go_enter Try.func44, Try.ntmps44
      go_wp2_with fail
      refine (checkParcel_any _ _ ss _ HS.out).mono ?_; rintro e w1 ⟨rfl, b1⟩
      rw [HX.out]
      have e1 := one_below (one_new w (.cells #[.int .i64 S, .slice a n cap] 82)) b1 (by simp)
      obtain ⟨cp0, cp1⟩ := cell_of_two e1
      have bel1 := hb0.trans (b1.mono hb0.size)
      clear b1 e1
      go_wp2_with fail
      refine (swithin_any _ _ _ _).mono ?_; rintro e w' ⟨rfl, rfl⟩
      rw [HIN.out]
      go_wp2_with fail
      refine (leastDelay_any _ _ _ ss _ HG.out s0 s1 HR.out.1 HR.out.2 (HS0.out.below bel1 (Nat.le_refl _))).mono ?_; rintro e w2 ⟨rfl, b2⟩
      rw [HNN.out, HD.out]
      have bel2 := bel1.trans (b2.mono bel1.size)
      by_cases hc : D ≤ 1000000000000
      · have r1 := HF.out; have r2 := HV.out
        rw [if_pos hc] at r1 r2
        have R1 := Lib.hid r1; have R2 := Lib.hid r2
        clear r1 r2
        go_wp2_with fail
        go_ret2
        exact ⟨sret2 R2.out.symm R1.out.symm, bel2⟩
      · have r1 := HF.out; have r2 := HV.out
        rw [if_neg hc] at r1 r2
        have R1 := Lib.hid r1; have R2 := Lib.hid r2
        have hc2 : 1000000000000 < D := by omega
        clear r1 r2 hc
        go_wp2_with fail
        go_ret2
        exact ⟨sret2 R2.out.symm R1.out.symm, bel2⟩
    · have hF : dlyF ss S rate = 1 := by rw [dlyF, if_pos hx, if_neg hr]
      have hV : dlyV ss S rate = 0 := by rw [dlyV, hF, if_neg (by decide)]
      have hin : inB rate 1 1000000000 = false := by
        rw [Bool.eq_false_iff]; intro hh; exact hr (inB_iff.1 hh)
      have HF := Lib.hid hF; have HV := Lib.hid hV; have HIN := Lib.hid hin
      clear hF hV hx h hn g hr hin
      go_enter Try.func44, Try.ntmps44
      go_wp2_with fail
      refine (checkParcel_any _ _ ss _ HS.out).mono ?_; rintro e w1 ⟨rfl, b1⟩
      rw [HX.out]
      have bel1 := hb0.trans (b1.mono hb0.size)
      clear b1
      go_wp2_with fail
      refine (swithin_any _ _ _ _).mono ?_; rintro e w' ⟨rfl, rfl⟩
      rw [HIN.out]
      go_wp2_with fail
      go_ret2
      exact ⟨sret2 HV.out.symm HF.out.symm, bel1⟩
  · have hF : dlyF ss S rate = x := by rw [dlyF, hx, if_neg h0]
    have hV : dlyV ss S rate = 0 := by rw [dlyV, hF, if_neg h0]
    have hb : (x == 0) = false := by simp [h0]
    have HF := Lib.hid hF; have HV := Lib.hid hV
    clear hF hV hx h hn h0
    go_enter Try.func44, Try.ntmps44
    go_wp2_with fail
    refine (checkParcel_any _ _ ss _ HS.out).mono ?_; rintro e w1 ⟨rfl, b1⟩
    rw [HX.out]
    go_wp2_with fail
    go_ret2
    exact ⟨sret2 HV.out.symm HF.out.symm, hb0.trans (b1.mono hb0.size)⟩

end Go.Proofs.Ytgpiagdldcnijaa
