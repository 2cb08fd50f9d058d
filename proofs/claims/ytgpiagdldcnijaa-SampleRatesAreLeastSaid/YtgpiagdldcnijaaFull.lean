/- Fullness of package sample. -/
import Derived.Test.YtgpiagdldcnijaaLeast
import Derived.Laws.EntriesVeiled
namespace Go.Proofs.Ytgpiagdldcnijaa
set_option linter.unusedVariables false
set_option linter.unusedSimpArgs false
open Go.RowKit Go.Deep

set_option maxHeartbeats 1000000 in
theorem arrc_any (at_ all rate S : Int) (Be Ba Br Bp : Nat) (w : World) (he : w.cell? ⟨Be, 0, none⟩ = some (.int .i64 (upQ (all * S) rate))) (ha : w.cell? ⟨Ba, 0, none⟩ = some (.int .i64 all)) (hr : w.cell? ⟨Br, 0, none⟩ = some (.int .i64 rate)) (hp : w.cell? ⟨Bp, 0, none⟩ = some (.int .i64 S))
    (a0 : 0 ≤ all) (a1 : all ≤ 500000000) (s0 : 1 ≤ S) (s1 : S ≤ 1000000000) (r0 : 1 ≤ rate) (r1 : rate ≤ 1000000000) (t0 : 0 ≤ at_) :
    Calls Try.prog 128 #[.int .i64 at_, .pointer (some ⟨Be, 0, none⟩), .pointer (some ⟨Ba, 0, none⟩), .pointer (some ⟨Br, 0, none⟩), .pointer (some ⟨Bp, 0, none⟩)] w fun e w' => e = .returned (.int .i64 (arrQ all S rate at_)) ∧ w = w' := by
  obtain ⟨m0, m1⟩ := prod_bd a0 a1 s0 s1
  have hle : upQ (all * S) rate ≤ at_ ↔ all * S ≤ at_ * rate := upQ_le r0
  obtain ⟨E, hE⟩ : ∃ E, upQ (all * S) rate = E := ⟨_, rfl⟩
  have hq : arrQ all S rate at_ = if E ≤ at_ then all else rate * at_ / S := by rw [arrQ, hE]
  rw [hE] at he hle
  rw [hq]
  by_cases h : E ≤ at_
  · rw [if_pos h]
    clear hq hE hle m0 m1
    go_enter Try.func128, Try.ntmps128
    go_wp2_with fail
    go_ret
    exact ⟨rfl, rfl⟩
  · rw [if_neg h]
    have hlt : at_ < E := by omega
    rw [hle] at h
    have hn : ¬ E ≤ at_ := by omega
    have hdec : decide (E ≤ at_) = false := by simp; omega
    obtain ⟨P, hP⟩ : ∃ P, rate * at_ = P := ⟨_, rfl⟩
    have p0 : 0 ≤ P := by rw [← hP]; exact Int.mul_nonneg (by omega) t0
    have p1 : P < all * S := by rw [← hP, Int.mul_comm]; omega
    have hmul : IntKind.i64.wrap (rate * at_) = P := by rw [hP]; exact IntWalk.i64_in _ ⟨by omega, by omega⟩
    have hz : (S == 0) = false := by simp; omega
    rw [hP]
    obtain ⟨Q, hQ⟩ : ∃ Q, P / S = Q := ⟨_, rfl⟩
    have hq1 : P.tdiv S = Q := by rw [Int.tdiv_eq_ediv_of_nonneg p0]; exact hQ
    have q0 : 0 ≤ Q := by rw [← hQ]; exact Int.ediv_nonneg p0 (by omega)
    have q1 : Q ≤ P := by
      rw [← hQ]
      have := Int.ediv_le_self S p0
      omega
    have p2 : P ≤ 500000000000000000 := by omega
    have HQ := Lib.hid hQ
    clear h hle hq hE hP hQ m0 m1 p1
    go_enter Try.func128, Try.ntmps128
    go_wp2_with fail
    go_ret
    exact ⟨bret_int (by first | rfl | exact hq1 | exact HQ.out | (rw [HQ.out]) | (rw [HQ.out]; rfl)), rfl⟩

/-- The cells that the function of arrivals goes by. -/
def Arr (w : World) (Be Ba Br Bp : Nat) (all S rate : Int) : Prop :=
  w.cell? ⟨Be, 0, none⟩ = some (.int .i64 (upQ (all * S) rate)) ∧ w.cell? ⟨Ba, 0, none⟩ = some (.int .i64 all) ∧ w.cell? ⟨Br, 0, none⟩ = some (.int .i64 rate) ∧ w.cell? ⟨Bp, 0, none⟩ = some (.int .i64 S)
def arrFn (Be Ba Br Bp : Nat) : Value := .func (.func 128) #[] #[.pointer (some ⟨Be, 0, none⟩), .pointer (some ⟨Ba, 0, none⟩), .pointer (some ⟨Br, 0, none⟩), .pointer (some ⟨Bp, 0, none⟩)]

set_option maxRecDepth 100000 in
set_option maxHeartbeats 2000000 in
theorem arrivals_any (S rate : Int) (v : Value) (ss : List Smp) (w : World) (g : Good ss) (s0 : 1 ≤ S) (s1 : S ≤ 1000000000) (r0 : 1 ≤ rate) (r1 : rate ≤ 1000000000) (h : Smps w v ss) :
    Calls Try.prog 102 #[.agg #[.int .i64 S, v], .int .i64 rate] w fun e w' =>
      (∃ Be Ba Br Bp, e = .returned (arrFn Be Ba Br Bp) ∧ Arr w' Be Ba Br Bp (sizeTo ss ss.length) S rate ∧ w.heap.size ≤ Be ∧ w.heap.size ≤ Ba ∧ w.heap.size ≤ Br ∧ w.heap.size ≤ Bp) ∧ Below w.heap.size w w' := by
  obtain ⟨a, cap, rfl⟩ := h.parts
  obtain ⟨n, hn⟩ : ∃ n, ss.length = n := ⟨_, rfl⟩
  rw [hn] at h ⊢
  have HNN := Lib.hid hn
  obtain ⟨k1, k2, k3, k4⟩ := two_boxes w (.cells #[.int .i64 S, .slice a n cap] 82) (.cells #[.int .i64 rate] 3)
  have HS := Lib.hid (h.below k4 (Nat.le_refl _))
  have K1 := Lib.hid k1; have K2 := Lib.hid k2; have K3 := Lib.hid k3; have K4 := Lib.hid k4
  have HG := Lib.hid g
  obtain ⟨A, hA⟩ : ∃ A, sizeTo ss n = A := ⟨_, rfl⟩
  have ha := sizeTo_bd5 g n (by rw [hn]; exact Nat.le_refl _)
  rw [hA] at ha ⊢
  have HA := Lib.hid hA
  obtain ⟨a0, a1⟩ := ha
  obtain ⟨m0, m1⟩ := prod_bd a0 a1 s0 s1
  obtain ⟨P, hP⟩ : ∃ P, A * S = P := ⟨_, rfl⟩
  have hmul : IntKind.i64.wrap (A * S) = P := by rw [hP]; exact IntWalk.i64_in _ ⟨by omega, by omega⟩
  have HP := Lib.hid hP
  rw [hP] at m0 m1
  obtain ⟨cp0, cp1⟩ := cell_of_two k1
  clear h g hA hn k1 k2 k3 k4 hP
  go_enter Try.func102, Try.ntmps102
  go_wp2_with fail
  refine (bytesOf_any _ ss _ HG.out HS.out).mono ?_; rintro e w1 ⟨rfl, b1⟩
  rw [HNN.out, HA.out]
  have m1' := one_below K1.out b1 (by rw [K3.out]; omega)
  have m2' := one_below K2.out b1 (by rw [K3.out]; omega)
  obtain ⟨mp0, mp1⟩ := cell_of_two m1'
  have mr0 := cell_of_one m2'
  have bel1 := K4.out.trans (b1.mono K4.out.size)
  have s2 := b1.size
  rw [K3.out] at s2
  have z1 : w.heap.size < w1.heap.size := by omega
  have z2 : w.heap.size + 1 < w1.heap.size := by omega
  clear b1 cp0 cp1 m1' m2'
  go_wp2_with fail
  refine (roundedUp_any _ _ _ m0 (by omega) r0 (by omega)).mono ?_; rintro e w' ⟨rfl, rfl⟩
  go_wp2_with fail
  go_ret
  refine ⟨⟨w1.heap.size + 1, w1.heap.size, w.heap.size + 1, w.heap.size, rfl, ⟨?_, ?_, ?_, ?_⟩, by omega, by omega, by omega, Nat.le_refl _⟩, ?_⟩
  · rw [HP.out, World.cell?_alloc_at _ _ _ _ (by simp)]; rfl
  · rw [World.cell?_alloc_past _ _ _ (by simp), World.cell?_alloc_at _ _ _ _ (by simp)]; rfl
  · rw [World.cell?_alloc_past _ _ _ (by simp; omega), World.cell?_alloc_past _ _ _ z2]; exact mr0
  · rw [World.cell?_alloc_past _ _ _ (by simp; omega), World.cell?_alloc_past _ _ _ z1]; exact mp0
  · exact (bel1.alloc bel1.size _).alloc (by simp; omega) _

set_option maxRecDepth 100000 in
set_option maxHeartbeats 2000000 in
theorem fullc_any (t x b f D all S rate : Int) (Bf Bar Bd Be Ba Br Bp : Nat) (ty : TypeId) (w : World) (hf : w.heap[Bf]? = some (.cells #[.int .i64 f] ty (0, 0))) (hfn : w.cell? ⟨Bar, 0, none⟩ = some (arrFn Be Ba Br Bp)) (hd : w.cell? ⟨Bd, 0, none⟩ = some (.int .i64 D)) (hA : Arr w Be Ba Br Bp all S rate)
    (a0 : 0 ≤ all) (a1 : all ≤ 500000000) (s0 : 1 ≤ S) (s1 : S ≤ 1000000000) (r0 : 1 ≤ rate) (r1 : rate ≤ 1000000000) (x0 : 0 ≤ x) (x1 : x ≤ 500000000) (d0 : 0 ≤ D) (d1 : D ≤ 1000000000000) (t0 : 0 ≤ t) (t1 : t ≤ 2000000000000000) :
    Calls Try.prog 103 #[.int .i64 t, .int .i64 x, .int .i64 b, .pointer (some ⟨Bf, 0, none⟩), .pointer (some ⟨Bar, 0, none⟩), .pointer (some ⟨Bd, 0, none⟩)] w fun e w' =>
      e = .returned (.tuple #[]) ∧ BelowX w.heap.size Bf w w' ∧ w'.heap[Bf]? = some (.cells #[.int .i64 (max f (arrQ all S rate (D + t) - x))] ty (0, 0)) := by
  have hcell := cell_of_one hf
  have hfree := free_of_one hf
  obtain ⟨q0, q1⟩ := arrQ_bd (a := D + t) a0 s0 r0 (by omega)
  have hc := arrc_any (D + t) all rate S Be Ba Br Bp w.drew hA.1 hA.2.1 hA.2.2.1 hA.2.2.2 a0 a1 s0 s1 r0 r1 (by omega)
  obtain ⟨q, hq⟩ : ∃ q, arrQ all S rate (D + t) = q := ⟨_, rfl⟩
  rw [hq] at q0 q1 hc ⊢
  have HC := Lib.hid (st_of hc)
  have hsub : IntKind.i64.wrap (q - x) = q - x := IntWalk.i64_in _ ⟨by omega, by omega⟩
  have hadd : IntKind.i64.wrap (D + t) = D + t := IntWalk.i64_in _ ⟨by omega, by omega⟩
  have hbel : ∀ X, BelowX w.heap.size Bf w (w.setCell ⟨Bf, 0, none⟩ (.int .i64 X)).drew := fun X => ((BelowX.refl _ _ _).set 0 _).drew
  have hnew : ∀ X, (w.setCell ⟨Bf, 0, none⟩ (.int .i64 X)).drew.heap[Bf]? = some (.cells #[.int .i64 X] ty (0, 0)) := fun X => one_setCell hf
  have HB := Lib.hid hbel; have HN := Lib.hid hnew
  unfold arrFn at hfn
  clear hq hbel hnew hA hc
  go_enter Try.func103, Try.ntmps103
  go_wp2_with fail
  refine region_still_tail 8 (by kernel_rfl) (by kernel_rfl) ?_
  simp only [List.take_succ_cons, List.take_zero, List.drop_succ_cons, List.drop_zero]
  refine St.step (fun K hK => ?_); go_simp; refine hK.out _ ?_; clear hK K
  refine St.step (fun K hK => ?_); go_simp; refine hK.out _ ?_; clear hK K
  refine St.step (fun K hK => ?_); go_simp; refine hK.out _ ?_; clear hK K
  refine St.step (fun K hK => ?_); go_simp; refine hK.out _ ?_; clear hK K
  refine St.step (fun K hK => ?_); go_simp; refine hK.out _ ?_; clear hK K
  refine St.step (fun K hK => ?_); go_simp; refine ⟨_, HC.out, ?_⟩; refine hK.out _ ?_; clear hK K
  refine St.step (fun K hK => ?_); go_simp; refine hK.out _ ?_; clear hK K
  refine St.step (fun K hK => ?_); go_simp; refine hK.out _ ?_; clear hK K
  refine St.nil ?_
  go_wp2_with fail
  · go_end0
    rw [show max f (q - x) = q - x by omega]
    exact ⟨rfl, HB.out _, HN.out _⟩
  · go_end0
    rw [show max f (q - x) = f by omega]
    exact ⟨rfl, HB.out _, HN.out _⟩

theorem ful_good {ss : List Smp} {S r d : Int} (h : chkP ss S = 0) (hr : rateIn r) (hw : waitIn d) : fulF ss S r d = (if dlyTo ss S r ss.length ≤ d then 0 else 11) ∧ fulV ss S r d = (if dlyTo ss S r ss.length ≤ d then fulTo ss S r d ss.length else 0) := by
  have e : fulF ss S r d = (if dlyTo ss S r ss.length ≤ d then 0 else 11) := by rw [fulF, if_pos h, if_pos ⟨hr, hw⟩]
  refine ⟨e, ?_⟩
  rw [fulV, e]
  split <;> simp
theorem ful_bad {ss : List Smp} {S r d : Int} (h : chkP ss S = 0) (hr : ¬ (rateIn r ∧ waitIn d)) : fulF ss S r d = 1 ∧ fulV ss S r d = 0 := by
  have e : fulF ss S r d = 1 := by rw [fulF, if_pos h, if_neg hr]
  exact ⟨e, by rw [fulV, e, if_neg (by decide)]⟩
theorem inB_no {n a b : Int} (h : ¬ (a ≤ n ∧ n ≤ b)) : inB n a b = false := by
  rw [Bool.eq_false_iff]; intro hh; exact h (inB_iff.1 hh)

set_option maxRecDepth 100000 in
set_option maxHeartbeats 4000000 in
/-- Fullness where all is in its range. -/
theorem ful_walk (S rate dl : Int) (a : Option Addr) (n cap : Nat) (ss : List Smp) (w : World) (h : Smps w (.slice a n cap) ss) (hn : ss.length = n) (hx : chkP ss S = 0) (hr : rateIn rate) (hw : waitIn dl) :
    Calls Try.prog 45 #[.agg #[.int .i64 S, .slice a n cap], .int .i64 rate, .int .i64 dl] w fun e w' => e = .returned (.tuple #[.int .i64 (fulV ss S rate dl), .int .i64 (fulF ss S rate dl)]) ∧ Below w.heap.size w w' := by
  have HNN := Lib.hid hn
  have HX := Lib.hid hx
  obtain ⟨k1, k2, k3, k4⟩ := two_boxes w (.cells #[.int .i64 S, .slice a n cap] 82) (.cells #[.int .i64 dl] 3)
  have HS := Lib.hid (h.below k4 (Nat.le_refl _))
  have HS0 := Lib.hid h
  have K1 := Lib.hid k1; have K2 := Lib.hid k2; have K3 := Lib.hid k3; have K4 := Lib.hid k4
  obtain ⟨cp0, cp1⟩ := cell_of_two k1
  have cd0 := cell_of_one k2
  obtain ⟨g, s0, s1⟩ := good_scale hx
  have HG := Lib.hid g
  obtain ⟨hF, hV⟩ := ful_good hx hr hw
  rw [hn] at hF hV
  obtain ⟨D, hD⟩ : ∃ D, dlyTo ss S rate n = D := ⟨_, rfl⟩
  rw [hD] at hF hV
  have HD := Lib.hid hD; have HF := Lib.hid hF; have HV := Lib.hid hV
  have HR := Lib.hid hr; have HW := Lib.hid hw
  have HI1 := Lib.hid (inB_yes hr.1 hr.2)
  have HI2 := Lib.hid (inB_yes hw.1 hw.2)
  clear hF hV hx h hn g hD hr hw k1 k2 k3 k4
  go_enter Try.func45, Try.ntmps45
  go_wp2_with fail
  refine (checkParcel_any _ _ ss _ HS.out).mono ?_; rintro e w1 ⟨rfl, b1⟩
  rw [HX.out]
  have m1 := one_below K1.out b1 (by rw [K3.out]; omega)
  have m2 := one_below K2.out b1 (by rw [K3.out]; omega)
  obtain ⟨mp0, mp1⟩ := cell_of_two m1
  have md0 := cell_of_one m2
  have bel1 := K4.out.trans (b1.mono K4.out.size)
  have s2 := b1.size
  rw [K3.out] at s2
  have z1 : w.heap.size < w1.heap.size := by omega
  have z2 : w.heap.size + 1 < w1.heap.size := by omega
  clear b1 cp0 cp1 cd0
  go_wp2_with fail
  refine (swithin_any _ _ _ _).mono ?_; rintro e w' ⟨rfl, rfl⟩
  rw [HI1.out]
  go_wp2_with fail
  refine (swithin_any _ _ _ _).mono ?_; rintro e w' ⟨rfl, rfl⟩
  rw [HI2.out]
  go_wp2_with fail
  go_region_held3 (fun w' => w'.cell? ⟨w.heap.size, 0, none⟩ = some (.int .i64 S) ∧ w'.cell? ⟨w.heap.size, 1, none⟩ = some (.slice a n cap) ∧ w'.cell? ⟨w.heap.size + 1, 0, none⟩ = some (.int .i64 dl) ∧ Below w.heap.size w w' ∧ w.heap.size + 1 < w'.heap.size ∧ w'.heap[w.heap.size]? = some (.cells #[.int .i64 S, .slice a n cap] 82 (0, 0)) ∧ w'.heap[w.heap.size + 1]? = some (.cells #[.int .i64 dl] 3 (0, 0)))
    (first | (go_keep; done) | (exact ⟨mp0, mp1, md0, bel1, z2, m1, m2⟩) | (exact ⟨mp0, mp1, md0, bel1.drew, z2, m1, m2⟩) | (exact ⟨pp0, pp1, pd0, bel2, z4, p1, p2⟩))
    (first
      | (go_at_call 101; refine (leastDelay_any _ _ _ ss _ HG.out s0 s1 HR.out.1 HR.out.2 (HS0.out.below (by have hh := ‹_ ∧ _ ∧ _ ∧ _ ∧ _ ∧ _ ∧ _›; exact hh.2.2.2.1) (Nat.le_refl _))).mono ?_; rintro e w2 ⟨rfl, b2⟩; rw [HNN.out, HD.out]; have p1 := one_below (w := w1.drew) m1 b2 z1; have p2 := one_below (w := w1.drew) m2 b2 z2; obtain ⟨pp0, pp1⟩ := cell_of_two p1; have pd0 := cell_of_one p2; have bel2 : Below w.heap.size w w2 := bel1.drew.trans (b2.mono bel1.size); have s3 : w1.heap.size ≤ w2.heap.size := b2.size; have z3 : w.heap.size < w2.heap.size := (by omega); have z4 : w.heap.size + 1 < w2.heap.size := (by omega)))
  clear b2 mp0 mp1 md0 m1 m2
  by_cases hc : D ≤ dl
  · have r1 := HF.out; have r2 := HV.out
    rw [if_pos hc] at r1 r2
    have R1 := Lib.hid r1; have R2 := Lib.hid r2
    have hdec : decide (dl < D) = false := by simp; omega
    clear r1 r2
    go_wp2_with fail
    have f0 := one_new w2 (.cells #[.int .i64 0] 3)
    have q1 : (w2.alloc (.cells #[.int .i64 0] 3)).heap[w.heap.size]? = some (.cells #[.int .i64 S, .slice a n cap] 82 (0, 0)) := one_alloc p1
    have q2 : (w2.alloc (.cells #[.int .i64 0] 3)).heap[w.heap.size + 1]? = some (.cells #[.int .i64 dl] 3 (0, 0)) := one_alloc p2
    have sW : (w2.alloc (.cells #[.int .i64 0] 3)).heap.size = w2.heap.size + 1 := by simp
    have belW : Below w.heap.size w (w2.alloc (.cells #[.int .i64 0] 3)) := bel2.alloc bel2.size _
    generalize w2.alloc (.cells #[.int .i64 0] 3) = W at *
    have HF0 := Lib.hid f0; have HQ1 := Lib.hid q1; have HQ2 := Lib.hid q2
    clear f0 q1 q2 pp0 pp1 pd0 p1 p2
    refine (arrivals_any _ _ _ ss _ HG.out s0 s1 HR.out.1 HR.out.2 (HS0.out.below belW (Nat.le_refl _))).mono ?_
    rintro e w3 ⟨⟨Be, Ba, Br, Bp, rfl, hA, l1, l2, l3, l4⟩, b3⟩
    have g0 := one_below HF0.out b3 (by omega)
    have g1 := one_below HQ1.out b3 (by omega)
    have g2 := one_below HQ2.out b3 (by omega)
    obtain ⟨gp0, gp1⟩ := cell_of_two g1
    have s5 : W.heap.size ≤ w3.heap.size := b3.size
    have z5 : w.heap.size < w3.heap.size := by omega
    have bel3 := belW.trans (b3.mono belW.size)
    have ge := World.block_lt_of_cell? w3 _ hA.1
    have ga := World.block_lt_of_cell? w3 _ hA.2.1
    have gr := World.block_lt_of_cell? w3 _ hA.2.2.1
    have gp := World.block_lt_of_cell? w3 _ hA.2.2.2
    simp only at ge ga gr gp
    have HA := Lib.hid hA
    have HG0 := Lib.hid g0; have HG2 := Lib.hid g2
    clear hA b3 g0 g1 g2
    unfold arrFn
    go_wp2_with fail
    have t0 := one_alloc (o' := .cells #[.func (.func 128) #[] #[.pointer (some ⟨Be, 0, none⟩), .pointer (some ⟨Ba, 0, none⟩), .pointer (some ⟨Br, 0, none⟩), .pointer (some ⟨Bp, 0, none⟩)]] 131) HG0.out
    have t2 := cell_of_one (one_alloc (o' := .cells #[.func (.func 128) #[] #[.pointer (some ⟨Be, 0, none⟩), .pointer (some ⟨Ba, 0, none⟩), .pointer (some ⟨Br, 0, none⟩), .pointer (some ⟨Bp, 0, none⟩)]] 131) HG2.out)
    have tf := cell_of_one (one_new w3 (.cells #[.func (.func 128) #[] #[.pointer (some ⟨Be, 0, none⟩), .pointer (some ⟨Ba, 0, none⟩), .pointer (some ⟨Br, 0, none⟩), .pointer (some ⟨Bp, 0, none⟩)]] 131))
    have hA4 : Arr (w3.alloc (.cells #[.func (.func 128) #[] #[.pointer (some ⟨Be, 0, none⟩), .pointer (some ⟨Ba, 0, none⟩), .pointer (some ⟨Br, 0, none⟩), .pointer (some ⟨Bp, 0, none⟩)]] 131)) Be Ba Br Bp (sizeTo ss ss.length) S rate := by
      obtain ⟨y1, y2, y3, y4⟩ := HA.out
      refine ⟨?_, ?_, ?_, ?_⟩
      · rw [World.cell?_alloc_past _ _ _ ge]; exact y1
      · rw [World.cell?_alloc_past _ _ _ ga]; exact y2
      · rw [World.cell?_alloc_past _ _ _ gr]; exact y3
      · rw [World.cell?_alloc_past _ _ _ gp]; exact y4
    have s6 : (w3.alloc (.cells #[.func (.func 128) #[] #[.pointer (some ⟨Be, 0, none⟩), .pointer (some ⟨Ba, 0, none⟩), .pointer (some ⟨Br, 0, none⟩), .pointer (some ⟨Bp, 0, none⟩)]] 131)).heap.size = w3.heap.size + 1 := by simp
    have bel4 : Below w.heap.size w (w3.alloc (.cells #[.func (.func 128) #[] #[.pointer (some ⟨Be, 0, none⟩), .pointer (some ⟨Ba, 0, none⟩), .pointer (some ⟨Br, 0, none⟩), .pointer (some ⟨Bp, 0, none⟩)]] 131)) := bel3.alloc bel3.size _
    generalize w3.alloc (.cells #[.func (.func 128) #[] #[.pointer (some ⟨Be, 0, none⟩), .pointer (some ⟨Ba, 0, none⟩), .pointer (some ⟨Br, 0, none⟩), .pointer (some ⟨Bp, 0, none⟩)]] 131) = W4 at *
    have hSW := HS0.out.below bel4 (Nat.le_refl _)
    by_cases hn0 : 0 < n
    · have hblk : ∃ b off, a = some ⟨b, off, none⟩ ∧ b < w.heap.size := by
        rcases HS0.out with ⟨a', c', hv, h1⟩ | ⟨b, off, c', hv, hne, hlt, hl, hm, hc⟩
        · exfalso; rw [HNN.out] at h1; omega
        · simp only [Value.slice.injEq] at hv
          exact ⟨b, off, hv.1, hlt⟩
      obtain ⟨b, off, rfl, hlt⟩ := hblk
      have hall := sizeTo_bd5 HG.out ss.length (Nat.le_refl _)
      refine (each_walk S b off n cap ss 103 #[.pointer (some ⟨w2.heap.size, 0, none⟩), .pointer (some ⟨w3.heap.size, 0, none⟩), .pointer (some ⟨w.heap.size + 1, 0, none⟩)] w2.heap.size 3 (fun k => .int .i64 (fulTo ss S rate dl k)) W4 (enters_of Try.func103 (by kernel_rfl) rfl) HNN.out hn0 HG.out (by omega) (by omega) (by omega) hSW t0 (fun k wr hk hb hv => by
        obtain ⟨q0, q1⟩ := sizeTo_bd5 HG.out k (by rw [HNN.out]; omega)
        obtain ⟨u0, u1⟩ := tick_bd HG.out k (by rw [HNN.out]; exact hk)
        refine (fullc_any (tickAt ss k) (sizeTo ss k) (sizeTo ss (k + 1)) (fulTo ss S rate dl k) dl (sizeTo ss ss.length) S rate w2.heap.size w3.heap.size (w.heap.size + 1) Be Ba Br Bp 3 wr hv ?_ ?_ ?_ hall.1 hall.2 s0 s1 HR.out.1 HR.out.2 q0 q1 HW.out.1 HW.out.2 u0 u1).mono ?_
        · rw [hb.cell (p := ⟨w3.heap.size, 0, none⟩) (by show w3.heap.size < _; omega) (by show w3.heap.size ≠ _; omega)]; exact tf
        · rw [hb.cell (p := ⟨w.heap.size + 1, 0, none⟩) (by show w.heap.size + 1 < _; omega) (by show w.heap.size + 1 ≠ _; omega)]; exact t2
        · obtain ⟨y1, y2, y3, y4⟩ := hA4
          refine ⟨?_, ?_, ?_, ?_⟩
          · rw [hb.cell (p := ⟨Be, 0, none⟩) (by show Be < _; omega) (by show Be ≠ _; omega)]; exact y1
          · rw [hb.cell (p := ⟨Ba, 0, none⟩) (by show Ba < _; omega) (by show Ba ≠ _; omega)]; exact y2
          · rw [hb.cell (p := ⟨Br, 0, none⟩) (by show Br < _; omega) (by show Br ≠ _; omega)]; exact y3
          · rw [hb.cell (p := ⟨Bp, 0, none⟩) (by show Bp < _; omega) (by show Bp ≠ _; omega)]; exact y4
        · rintro e w' ⟨rfl, h1, h2⟩
          exact ⟨rfl, h1, h2⟩)).mono ?_
      rintro e w5 ⟨rfl, b5, v5⟩
      have c5 := cell_of_one v5
      have bel : Below w.heap.size w w5 := bel4.trans (b5.below (by omega) (by omega))
      clear b5 v5 t0 t2 tf hA4 hSW
      go_wp2_with fail
      go_ret2
      exact ⟨sret2 R2.out.symm R1.out.symm, bel⟩
    · have hz : n = 0 := by omega
      subst hz
      refine (each_empty _ _ _ _ _ _).mono ?_; rintro e w5 ⟨rfl, b5⟩
      have c5 := cell_of_one (one_below t0 b5 (by omega))
      have bel : Below w.heap.size w w5 := bel4.trans (b5.mono (by omega))
      have R3 : Hid (fulV ss S rate dl = 0) := Lib.hid (by rw [R2.out]; rfl)
      clear b5 t0 t2 tf hA4 hSW
      go_wp2_with fail
      go_ret2
      exact ⟨sret2 R3.out.symm R1.out.symm, bel⟩
  · have r1 := HF.out; have r2 := HV.out
    rw [if_neg hc] at r1 r2
    have R1 := Lib.hid r1; have R2 := Lib.hid r2
    have hlt : dl < D := by omega
    clear r1 r2 hc
    go_wp2_with fail
    go_ret2
    exact ⟨sret2 R2.out.symm R1.out.symm, bel2⟩

set_option maxRecDepth 100000 in
set_option maxHeartbeats 2000000 in
/-- Fullness where a number is out of its range. -/
theorem ful_range (S rate dl : Int) (a : Option Addr) (n cap : Nat) (ss : List Smp) (w : World) (h : Smps w (.slice a n cap) ss) (hx : chkP ss S = 0) (hr : ¬ (rateIn rate ∧ waitIn dl)) :
    Calls Try.prog 45 #[.agg #[.int .i64 S, .slice a n cap], .int .i64 rate, .int .i64 dl] w fun e w' => e = .returned (.tuple #[.int .i64 0, .int .i64 1]) ∧ Below w.heap.size w w' := by
  have HX := Lib.hid hx
  obtain ⟨k1, k2, k3, k4⟩ := two_boxes w (.cells #[.int .i64 S, .slice a n cap] 82) (.cells #[.int .i64 dl] 3)
  have HS := Lib.hid (h.below k4 (Nat.le_refl _))
  have K2 := Lib.hid k2; have K3 := Lib.hid k3; have K4 := Lib.hid k4
  obtain ⟨cp0, cp1⟩ := cell_of_two k1
  have cd0 := cell_of_one k2
  by_cases h1 : rateIn rate
  · have h2 : ¬ waitIn dl := fun hw => hr ⟨h1, hw⟩
    have HI1 := Lib.hid (inB_yes h1.1 h1.2)
    have HI2 := Lib.hid (inB_no h2)
    clear hx h hr h1 h2 k1 k2 k3 k4
    go_enter Try.func45, Try.ntmps45
    go_wp2_with fail
    refine (checkParcel_any _ _ ss _ HS.out).mono ?_; rintro e w1 ⟨rfl, b1⟩
    rw [HX.out]
    have m2 := one_below K2.out b1 (by rw [K3.out]; omega)
    have md0 := cell_of_one m2
    have bel1 := K4.out.trans (b1.mono K4.out.size)
    clear b1 cp0 cp1 cd0 m2
    go_wp2_with fail
    refine (swithin_any _ _ _ _).mono ?_; rintro e w' ⟨rfl, rfl⟩
    rw [HI1.out]
    go_wp2_with fail
    refine (swithin_any _ _ _ _).mono ?_; rintro e w' ⟨rfl, rfl⟩
    rw [HI2.out]
    go_wp2_with fail
    go_ret2
    exact ⟨rfl, bel1⟩
  · have HI1 := Lib.hid (inB_no h1)
    clear hx h hr h1 k1 k2 k3 k4
    go_enter Try.func45, Try.ntmps45
    go_wp2_with fail
    refine (checkParcel_any _ _ ss _ HS.out).mono ?_; rintro e w1 ⟨rfl, b1⟩
    rw [HX.out]
    have bel1 := K4.out.trans (b1.mono K4.out.size)
    clear b1 cp0 cp1 cd0
    go_wp2_with fail
    refine (swithin_any _ _ _ _).mono ?_; rintro e w' ⟨rfl, rfl⟩
    rw [HI1.out]
    go_wp2_with fail
    go_ret2
    exact ⟨rfl, bel1⟩

set_option maxHeartbeats 1000000 in
theorem ful_parcel (S rate dl : Int) (a : Option Addr) (n cap : Nat) (ss : List Smp) (w : World) (h : Smps w (.slice a n cap) ss) (hx : chkP ss S ≠ 0) :
    Calls Try.prog 45 #[.agg #[.int .i64 S, .slice a n cap], .int .i64 rate, .int .i64 dl] w fun e w' => e = .returned (.tuple #[.int .i64 0, .int .i64 (chkP ss S)]) ∧ Below w.heap.size w w' := by
  obtain ⟨x, hx2⟩ : ∃ x, chkP ss S = x := ⟨_, rfl⟩
  rw [hx2] at hx ⊢
  have HX := Lib.hid hx2
  have hb : (x == 0) = false := by simp [hx]
  obtain ⟨k1, k2, k3, k4⟩ := two_boxes w (.cells #[.int .i64 S, .slice a n cap] 82) (.cells #[.int .i64 dl] 3)
  have HS := Lib.hid (h.below k4 (Nat.le_refl _))
  have K4 := Lib.hid k4
  obtain ⟨cp0, cp1⟩ := cell_of_two k1
  clear hx hx2 h k1 k2 k3 k4
  go_enter Try.func45, Try.ntmps45
  go_wp2_with fail
  refine (checkParcel_any _ _ ss _ HS.out).mono ?_; rintro e w1 ⟨rfl, b1⟩
  rw [HX.out]
  have bel1 := K4.out.trans (b1.mono K4.out.size)
  clear b1 cp0 cp1
  go_wp2_with fail
  go_ret2
  exact ⟨rfl, bel1⟩

/-- Fullness, whatever the parcel. -/
theorem fullness_any (S rate dl : Int) (v : Value) (ss : List Smp) (w : World) (h : Smps w v ss) :
    Calls Try.prog 45 #[.agg #[.int .i64 S, v], .int .i64 rate, .int .i64 dl] w fun e w' => e = .returned (.tuple #[.int .i64 (fulV ss S rate dl), .int .i64 (fulF ss S rate dl)]) ∧ Below w.heap.size w w' := by
  obtain ⟨a, cap, rfl⟩ := h.parts
  by_cases hx : chkP ss S = 0
  · by_cases hr : rateIn rate ∧ waitIn dl
    · exact ful_walk S rate dl a _ cap ss w h rfl hx hr.1 hr.2
    · rw [(ful_bad hx hr).1, (ful_bad hx hr).2]
      exact ful_range S rate dl a _ cap ss w h hx hr
  · have e : fulF ss S rate dl = chkP ss S := by rw [fulF, if_neg hx]
    have e2 : fulV ss S rate dl = 0 := by rw [fulV, e, if_neg hx]
    rw [e, e2]
    exact ful_parcel S rate dl a _ cap ss w h hx

end Go.Proofs.Ytgpiagdldcnijaa
