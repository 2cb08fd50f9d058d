/- LeastRate of package sample. -/
import Derived.Test.YtgpiagdldcnijaaDelay
namespace Go.Proofs.Ytgpiagdldcnijaa
set_option linter.unusedVariables false
set_option linter.unusedSimpArgs false
open Go.RowKit Go.Deep

set_option maxRecDepth 100000 in
set_option maxHeartbeats 2000000 in
theorem leastc_any (t x b r S dl : Int) (Br Bp Bd : Nat) (ty : TypeId) (w : World) (hr : w.heap[Br]? = some (.cells #[.int .i64 r] ty (0, 0))) (hp : w.cell? ⟨Bp, 0, none⟩ = some (.int .i64 S)) (hd : w.cell? ⟨Bd, 0, none⟩ = some (.int .i64 dl))
    (b0 : 0 ≤ b) (b1 : b ≤ 500000000) (s0 : 1 ≤ S) (s1 : S ≤ 1000000000) (d0 : 0 ≤ dl) (d1 : dl ≤ 1000000000000) (t0 : 0 ≤ t) (t1 : t ≤ 2000000000000000) :
    Calls Try.prog 99 #[.int .i64 t, .int .i64 x, .int .i64 b, .pointer (some ⟨Bd, 0, none⟩), .pointer (some ⟨Br, 0, none⟩), .pointer (some ⟨Bp, 0, none⟩)] w fun e w' =>
      e = .returned (.tuple #[]) ∧ BelowX w.heap.size Br w w' ∧ w'.heap[Br]? = some (.cells #[.int .i64 (leastStep r b S (dl + t))] ty (0, 0)) := by
  have hcell := cell_of_one hr
  have hfree := free_of_one hr
  by_cases hb : b = 0
  · have e : leastStep r b S (dl + t) = r := by rw [leastStep, if_pos hb]
    rw [e]
    subst hb
    have H := Lib.hid hr
    clear e hr
    go_enter Try.func99, Try.ntmps99
    go_wp2_with fail
    go_end0
    exact ⟨rfl, BelowX.refl _ _ _, H.out⟩
  · have hb2 : (b == 0) = false := by simp [hb]
    by_cases ha : dl + t = 0
    · have e : leastStep r b S (dl + t) = 1000000001 := by rw [leastStep, if_neg hb, if_pos ha]
      rw [e]
      have ha2 : (dl + t == 0) = true := by simp [ha]
      have H := Lib.hid (show (w.setCell ⟨Br, 0, none⟩ (.int .i64 1000000001)).heap[Br]? = some (.cells #[.int .i64 1000000001] ty (0, 0)) from one_setCell hr)
      clear e hr hb ha
      go_enter Try.func99, Try.ntmps99
      go_wp2_with fail
      go_end0
      exact ⟨rfl, (BelowX.refl _ _ _).set 0 _, H.out⟩
    · have e : leastStep r b S (dl + t) = max r (upQ (b * S) (dl + t)) := by rw [leastStep, if_neg hb, if_neg ha]
      rw [e]
      have ha2 : (dl + t == 0) = false := by simp [ha]
      obtain ⟨A, hA⟩ : ∃ A, dl + t = A := ⟨_, rfl⟩
      obtain ⟨m0, m1⟩ := prod_bd b0 b1 s0 s1
      obtain ⟨P, hP⟩ : ∃ P, b * S = P := ⟨_, rfl⟩
      rw [hP] at m0 m1 ⊢
      have a0 : 1 ≤ A := by omega
      have a1 : A ≤ 1000000000000000000 := by omega
      have hadd : IntKind.i64.wrap (dl + t) = A := by rw [hA]; exact IntWalk.i64_in _ ⟨by omega, by omega⟩
      have ha3 : (A == 0) = false := by simp; omega
      have hmul : IntKind.i64.wrap (b * S) = P := by rw [hP]; exact IntWalk.i64_in _ ⟨by omega, by omega⟩
      obtain ⟨q, hq⟩ : ∃ q, upQ P A = q := ⟨_, rfl⟩
      rw [hA, hq]
      have HQ := Lib.hid hq
      have hbel : ∀ X, BelowX w.heap.size Br w (w.setCell ⟨Br, 0, none⟩ (.int .i64 X)).drew := fun X => ((BelowX.refl _ _ _).set 0 _).drew
      have hnew : ∀ X, (w.setCell ⟨Br, 0, none⟩ (.int .i64 X)).drew.heap[Br]? = some (.cells #[.int .i64 X] ty (0, 0)) := fun X => one_setCell hr
      have HB := Lib.hid hbel; have HN := Lib.hid hnew
      have HA := Lib.hid hA
      clear e hr hb ha hq hbel hnew hP hA
      go_enter Try.func99, Try.ntmps99
      go_wp2_with fail
      refine region_still_tail 7 (by kernel_rfl) (by kernel_rfl) ?_
      simp only [List.take_succ_cons, List.take_zero, List.drop_succ_cons, List.drop_zero]
      refine St.step (fun K hK => ?_); go_simp; refine hK.out _ ?_; clear hK K
      refine St.step (fun K hK => ?_); go_simp; refine hK.out _ ?_; clear hK K
      refine St.step (fun K hK => ?_); go_simp; refine hK.out _ ?_; clear hK K
      refine St.step (fun K hK => ?_); go_simp; refine hK.out _ ?_; clear hK K
      refine St.step (fun K hK => ?_); go_simp; refine hK.out _ ?_; clear hK K
      refine St.step (fun K hK => ?_); go_simp; refine hK.out _ ?_; clear hK K
      refine St.step (fun K hK => ?_); go_simp; refine ⟨_, st_of (roundedUp_any _ _ _ m0 (by omega) a0 a1), ?_⟩; refine hK.out _ ?_; clear hK K
      rw [HQ.out]
      refine St.nil ?_
      go_wp2_with fail
      · go_end0
        rw [show max r q = q by omega]
        exact ⟨rfl, HB.out _, HN.out _⟩
      · go_end0
        rw [show max r q = r by omega]
        exact ⟨rfl, HB.out _, HN.out _⟩

theorem two_boxes (w : World) (o1 o2 : Obj) : ((w.alloc o1).alloc o2).heap[w.heap.size]? = some o1 ∧ ((w.alloc o1).alloc o2).heap[w.heap.size + 1]? = some o2 ∧
    ((w.alloc o1).alloc o2).heap.size = w.heap.size + 2 ∧ Below w.heap.size w ((w.alloc o1).alloc o2) := by
  have h1 := one_new w o1
  have h2 := one_new (w.alloc o1) o2
  simp only [World.size_alloc] at h2
  exact ⟨one_alloc h1, h2, by simp, (((Below.refl _ _).alloc (Nat.le_refl _) _).alloc (by simp) _)⟩

theorem lr_scale {ss : List Smp} {S d : Int} (h : chkP ss S = 0) (hw : waitIn d) : lrF ss S d = (if leastTo ss S d ss.length ≤ 1000000000 then 0 else 1) ∧ lrV ss S d = (if leastTo ss S d ss.length ≤ 1000000000 then leastTo ss S d ss.length else 0) := by
  have e : lrF ss S d = (if leastTo ss S d ss.length ≤ 1000000000 then 0 else 1) := by rw [lrF, if_pos h, if_pos hw]
  refine ⟨e, ?_⟩
  rw [lrV, e]
  split <;> simp

set_option maxRecDepth 100000 in
set_option maxHeartbeats 4000000 in
/-- LeastRate, whatever the parcel. -/
theorem leastRate_any (S dl : Int) (v : Value) (ss : List Smp) (w : World) (h : Smps w v ss) :
    Calls Try.prog 43 #[.agg #[.int .i64 S, v], .int .i64 dl] w fun e w' => e = .returned (.tuple #[.int .i64 (lrV ss S dl), .int .i64 (lrF ss S dl)]) ∧ Below w.heap.size w w' := by
  have h' := h
  obtain ⟨a, cap, rfl⟩ := h.parts
  obtain ⟨n, hn⟩ : ∃ n, ss.length = n := ⟨_, rfl⟩
  rw [hn] at h ⊢
  have HNN := Lib.hid hn
  obtain ⟨x, hx⟩ : ∃ x, chkP ss S = x := ⟨_, rfl⟩
  have HX := Lib.hid hx
  obtain ⟨k1, k2, k3, k4⟩ := two_boxes w (.cells #[.int .i64 S, .slice a n cap] 82) (.cells #[.int .i64 dl] 3)
  have HS := Lib.hid (h.below k4 (Nat.le_refl _))
  have HS0 := Lib.hid h
  have K1 := Lib.hid k1; have K2 := Lib.hid k2; have K3 := Lib.hid k3; have K4 := Lib.hid k4
  obtain ⟨cp0, cp1⟩ := cell_of_two k1
  have cd0 := cell_of_one k2
  by_cases h0 : x = 0
  · subst h0
    obtain ⟨g, s0, s1⟩ := good_scale hx
    have HG := Lib.hid g
    by_cases hr : waitIn dl
    · obtain ⟨hF, hV⟩ := lr_scale hx hr
      rw [hn] at hF hV
      have hin : inB dl 0 1000000000000 = true := inB_yes hr.1 hr.2
      have HIN := Lib.hid hin
      have HR := Lib.hid hr
      obtain ⟨D, hD⟩ : ∃ D, leastTo ss S dl n = D := ⟨_, rfl⟩
      rw [hD] at hF hV
      have HD := Lib.hid hD
      have HF := Lib.hid hF; have HV := Lib.hid hV
      clear hF hV hx h hn g hD hr hin h' k1 k2 k3 k4
      go_enter Try.func43, Try.ntmps43
      go_wp2_with fail
      refine (checkParcel_any _ _ ss _ HS.out).mono ?_; rintro e w1 ⟨rfl, b1⟩
      rw [HX.out]
      have m1 := one_below K1.out b1 (by rw [K3.out]; omega)
      have m2 := one_below K2.out b1 (by rw [K3.out]; omega)
      obtain ⟨mp0, mp1⟩ := cell_of_two m1
      have md0 := cell_of_one m2
      have bel1 := K4.out.trans (b1.mono K4.out.size)
      have s2 := b1.size
      rw [K3.out] at s2
      have z1 : w.heap.size < w1.heap.size := by omega
      have z2 : w.heap.size + 1 < w1.heap.size := by omega
      clear b1 cp0 cp1 cd0
      go_wp2_with fail
      refine (swithin_any _ _ _ _).mono ?_; rintro e w' ⟨rfl, rfl⟩
      rw [HIN.out]
      go_wp2_with fail
      have r0 := one_new w1 (.cells #[.int .i64 0] 3)
      have bel2 : Below w.heap.size w (w1.alloc (.cells #[.int .i64 0] 3)) := bel1.alloc bel1.size _
      have s3 : (w1.alloc (.cells #[.int .i64 0] 3)).heap.size = w1.heap.size + 1 := by simp
      have n1 : (w1.alloc (.cells #[.int .i64 0] 3)).cell? ⟨w.heap.size, 0, none⟩ = some (.int .i64 S) := by rw [World.cell?_alloc_past _ _ _ (by show w.heap.size < _; omega)]; exact mp0
      have n2 : (w1.alloc (.cells #[.int .i64 0] 3)).cell? ⟨w.heap.size + 1, 0, none⟩ = some (.int .i64 dl) := by rw [World.cell?_alloc_past _ _ _ (by show w.heap.size + 1 < _; omega)]; exact md0
      generalize w1.alloc (.cells #[.int .i64 0] 3) = W at *
      have hSW := HS0.out.below bel2 (Nat.le_refl _)
      by_cases hn0 : 0 < n
      · have hblk : ∃ b off, a = some ⟨b, off, none⟩ ∧ b < w.heap.size := by
          rcases HS0.out with ⟨a', c', hv, h1⟩ | ⟨b, off, c', hv, hne, hlt, hl, hm, hc⟩
          · exfalso; rw [HNN.out] at h1; omega
          · simp only [Value.slice.injEq] at hv
            exact ⟨b, off, hv.1, hlt⟩
        obtain ⟨b, off, rfl, hlt⟩ := hblk
        refine (each_walk S b off n cap ss 99 #[.pointer (some ⟨w.heap.size + 1, 0, none⟩), .pointer (some ⟨w1.heap.size, 0, none⟩), .pointer (some ⟨w.heap.size, 0, none⟩)] w1.heap.size 3 (fun k => .int .i64 (leastTo ss S dl k)) W (enters_of Try.func99 (by kernel_rfl) rfl) HNN.out hn0 HG.out (by omega) (by omega) (by omega) hSW r0 (fun k wr hk hb hv => by
          obtain ⟨q0, q1⟩ := sizeTo_bd5 HG.out (k + 1) (by rw [HNN.out]; omega)
          obtain ⟨t0, t1⟩ := tick_bd HG.out k (by rw [HNN.out]; exact hk)
          refine (leastc_any (tickAt ss k) (sizeTo ss k) (sizeTo ss (k + 1)) (leastTo ss S dl k) S dl w1.heap.size w.heap.size (w.heap.size + 1) 3 wr hv ?_ ?_ q0 q1 s0 s1 HR.out.1 HR.out.2 t0 t1).mono ?_
          · rw [hb.cell (p := ⟨w.heap.size, 0, none⟩) (by show w.heap.size < _; omega) (by show w.heap.size ≠ _; omega)]; exact n1
          · rw [hb.cell (p := ⟨w.heap.size + 1, 0, none⟩) (by show w.heap.size + 1 < _; omega) (by show w.heap.size + 1 ≠ _; omega)]; exact n2
          · rintro e w' ⟨rfl, h1, h2⟩
            exact ⟨rfl, h1, h2⟩)).mono ?_
        rintro e w4 ⟨rfl, b4, v4⟩
        simp only [HD.out] at v4
        have c4 := cell_of_one v4
        have bel : Below w.heap.size w w4 := bel2.trans (b4.below (by omega) (by omega))
        clear b4 v4 n1 n2 r0 hSW m1 m2 mp0 mp1 md0
        by_cases hc : D ≤ 1000000000
        · have r1 := HF.out; have r2 := HV.out
          rw [if_pos hc] at r1 r2
          have R1 := Lib.hid r1; have R2 := Lib.hid r2
          clear r1 r2
          go_wp2_with fail
          go_ret2
          exact ⟨sret2 R2.out.symm R1.out.symm, bel⟩
        · have r1 := HF.out; have r2 := HV.out
          rw [if_neg hc] at r1 r2
          have R1 := Lib.hid r1; have R2 := Lib.hid r2
          have hc2 : 1000000000 < D := by omega
          clear r1 r2 hc
          go_wp2_with fail
          go_ret2
          exact ⟨sret2 R2.out.symm R1.out.symm, bel⟩
      · have hz : n = 0 := by omega
        subst hz
        have hD0 : D = 0 := HD.out.symm
        subst hD0
        have r1 := HF.out; have r2 := HV.out
        rw [if_pos (by omega)] at r1 r2
        have R1 := Lib.hid r1; have R2 := Lib.hid r2
        clear r1 r2
        refine (each_empty _ _ _ _ _ _).mono ?_; rintro e w4 ⟨rfl, b4⟩
        have c4 := cell_of_one (one_below r0 b4 (by omega))
        have bel : Below w.heap.size w w4 := bel2.trans (b4.mono (by omega))
        clear b4 n1 n2 r0 hSW m1 m2 mp0 mp1 md0
        go_wp2_with fail
        go_ret2
        exact ⟨sret2 R2.out.symm R1.out.symm, bel⟩
    · have hF : lrF ss S dl = 1 := by rw [lrF, if_pos hx, if_neg hr]
      have hV : lrV ss S dl = 0 := by rw [lrV, hF, if_neg (by decide)]
      have hin : inB dl 0 1000000000000 = false := by
        rw [Bool.eq_false_iff]; intro hh; exact hr (inB_iff.1 hh)
      have HF := Lib.hid hF; have HV := Lib.hid hV; have HIN := Lib.hid hin
      clear hF hV hx h hn g hr hin h' k1 k2 k3 k4
      go_enter Try.func43, Try.ntmps43
      go_wp2_with fail
      refine (checkParcel_any _ _ ss _ HS.out).mono ?_; rintro e w1 ⟨rfl, b1⟩
      rw [HX.out]
      have m2 := one_below K2.out b1 (by rw [K3.out]; omega)
      have md0 := cell_of_one m2
      have bel1 := K4.out.trans (b1.mono K4.out.size)
      clear b1 cp0 cp1 cd0 m2
      go_wp2_with fail
      refine (swithin_any _ _ _ _).mono ?_; rintro e w' ⟨rfl, rfl⟩
      rw [HIN.out]
      go_wp2_with fail
      go_ret2
      exact ⟨sret2 HV.out.symm HF.out.symm, bel1⟩
  · have hF : lrF ss S dl = x := by rw [lrF, hx, if_neg h0]
    have hV : lrV ss S dl = 0 := by rw [lrV, hF, if_neg h0]
    have hb : (x == 0) = false := by simp [h0]
    have HF := Lib.hid hF; have HV := Lib.hid hV
    clear hF hV hx h hn h0 h' k1 k2 k3 k4
    go_enter Try.func43, Try.ntmps43
    go_wp2_with fail
    refine (checkParcel_any _ _ ss _ HS.out).mono ?_; rintro e w1 ⟨rfl, b1⟩
    rw [HX.out]
    clear cp0 cp1 cd0
    go_wp2_with fail
    go_ret2
    exact ⟨sret2 HV.out.symm HF.out.symm, K4.out.trans (b1.mono K4.out.size)⟩

end Go.Proofs.Ytgpiagdldcnijaa
