/- The reference's Straight, whatever the samples; SampleTightsMatchSpec: whatever the input, the law returns true. -/
import Derived.Test.YtgpiagdldcnijabRStr
import Derived.Test.YtgpiagdldcnijabRTight
import Derived.Test.YtgpiagdldcnijabEqS
import Derived.Test.YtgpiagdldcnijabStraight
import Derived.Test.YtgpiagdldcnijabAwake3
namespace Go.Proofs.Ytgpiagdldcnijab
set_option linter.unusedVariables false
set_option linter.unusedSimpArgs false
open Go.RowKit Go.Deep

set_option maxHeartbeats 1000000 in
theorem rstr_bad (v : Value) (ss : List Smp) (step slack : Int) (w : World) (h : Smps w v ss) (hf : chkF ss ≠ 0) :
    Calls Try.prog 42 #[v, .int .i64 step, .int .i64 slack] w fun e w' => (∃ u, e = .returned (.tuple #[u, .int .i64 (chkF ss)]) ∧ Smps w' u []) ∧ Below w.heap.size w w' := by
  obtain ⟨x, hx⟩ : ∃ x, chkF ss = x := ⟨_, rfl⟩
  rw [hx] at hf ⊢
  have HX := Lib.hid hx
  have hb : (x == 0) = false := by simp [hf]
  clear hx hf
  go_enter Try.func42, Try.ntmps42
  go_wp2_with fail
  refine (rchk_any _ ss _ h).mono ?_; rintro e w1 ⟨rfl, b1⟩
  rw [HX.out]
  go_wp2_with fail
  go_ret2
  exact ⟨⟨_, rfl, .nil _⟩, b1⟩

set_option maxRecDepth 100000 in
set_option maxHeartbeats 2000000 in
theorem rstr_empty (a : Option Addr) (cap : Nat) (step slack : Int) (w : World) :
    Calls Try.prog 42 #[.slice a 0 cap, .int .i64 step, .int .i64 slack] w fun e w' => (∃ u, e = .returned (.tuple #[u, .int .i64 (strF [] (regF (timesL []) step slack) (regL (timesL []) step slack))]) ∧ Smps w' u (strR [] (regF (timesL []) step slack) (regL (timesL []) step slack))) ∧ Below w.heap.size w w' := by
  have hc : chkF [] = 0 := (chkF_zero []).2 Good.nil
  have HS : Smps w (.slice a 0 cap) [] := .inl ⟨_, _, rfl, rfl⟩
  obtain ⟨F, hF⟩ : ∃ F, regF (timesL []) step slack = F := ⟨_, rfl⟩
  obtain ⟨R, hR⟩ : ∃ R, regL (timesL []) step slack = R := ⟨_, rfl⟩
  rw [hF, hR]
  have HF := Lib.hid hF; have HR := Lib.hid hR
  have HZ : Hid (strF [] F R = F ∧ strR [] F R = []) := Lib.hid (by
    have e1 : strL [] R = [] := rfl
    have e : strF [] F R = F := by
      rw [strF, if_pos hc, e1]
      split
      · rename_i h; rw [if_neg (by decide), hc, h]
      · rfl
    refine ⟨e, ?_⟩
    rw [strR, e1]; split <;> rfl)
  clear hF hR
  go_enter Try.func42, Try.ntmps42
  go_wp2_with fail
  refine (rchk_any _ [] _ HS).mono ?_; rintro e w1 ⟨rfl, b1⟩
  rw [hc]
  clear HS
  go_wp2_with fail
  refine wp_loop_rounds 1 ?_
  rw [rounds_succ]
  go_wp2_with fail
  refine (rreg_any _ (timesL []) _ _ _ (.inl ⟨_, _, rfl, rfl⟩)).mono ?_; rintro e w3 ⟨⟨u3, rfl, n3⟩, b3⟩
  rw [HF.out]; rw [HR.out] at n3
  obtain ⟨a3, c3, rfl, -⟩ := n3.parts
  have bel3 := b1.trans (b3.mono b1.size)
  clear n3 b1 b3
  by_cases h0 : F = 0
  · subst h0
    go_wp2_with fail
    refine wp_loop_rounds 1 ?_
    rw [rounds_succ]
    go_wp2_with fail
    refine (right_any _ [] _ (.inl ⟨_, _, rfl, rfl⟩)).mono ?_; rintro e w8 ⟨⟨u8, rfl, n8⟩, b8⟩
    rw [hc] at n8 ⊢
    rw [if_pos rfl] at n8
    have N8 := Lib.hid n8
    clear n8
    go_wp2_with fail
    go_ret2
    refine ⟨⟨_, ret2_vi rfl HZ.out.1.symm, ?_⟩, bel3.trans (b8.mono bel3.size)⟩
    rw [HZ.out.2]
    exact N8.out
  · have hb : (F == 0) = false := by simp [h0]
    clear h0
    go_wp2_with fail
    go_ret2
    refine ⟨⟨_, ret2_vi rfl HZ.out.1.symm, ?_⟩, bel3⟩
    rw [HZ.out.2]
    exact .nil _

/-- The reference's Straight, whatever the samples. -/
theorem rstr_any (v : Value) (ss : List Smp) (step slack : Int) (w : World) (h : Smps w v ss) :
    Calls Try.prog 42 #[v, .int .i64 step, .int .i64 slack] w fun e w' => (∃ u, e = .returned (.tuple #[u, .int .i64 (strF ss (regF (timesL ss) step slack) (regL (timesL ss) step slack))]) ∧ Smps w' u (strR ss (regF (timesL ss) step slack) (regL (timesL ss) step slack))) ∧ Below w.heap.size w w' := by
  by_cases hf : chkF ss = 0
  · have h' := h
    rcases h with ⟨a, cap, rfl, h0⟩ | ⟨b, off, cap, rfl, hne, hlt, hl, hm, hc⟩
    · have hs : ss = [] := List.length_eq_zero_iff.1 h0
      subst hs
      exact rstr_empty a cap step slack w
    · exact rtimes_walk b off _ cap ss step slack w rfl hne hlt ((chkF_zero ss).1 hf) h'
  · have e : strF ss (regF (timesL ss) step slack) (regL (timesL ss) step slack) = chkF ss := by rw [strF, if_neg hf]
    have e2 : strR ss (regF (timesL ss) step slack) (regL (timesL ss) step slack) = [] := by rw [strR, e, if_neg hf]
    rw [e, e2]
    exact rstr_bad v ss step slack w h hf

set_option maxRecDepth 100000 in
set_option maxHeartbeats 4000000 in
theorem tmatch_law (v : Value) (ss : List Smp) (step slack : Int) (w : World) (h : Smps w v ss) :
    Calls Try.prog 9 #[v, .int .i64 step, .int .i64 slack] w fun e w' => e = .returned (.bool true) ∧ Below w.heap.size w w' := by
  obtain ⟨F, hF⟩ : ∃ F, tightF ss = F := ⟨_, rfl⟩
  obtain ⟨N, hN⟩ : ∃ N, tightN ss = N := ⟨_, rfl⟩
  obtain ⟨G, hG⟩ : ∃ G, strF ss (regF (timesL ss) step slack) (regL (timesL ss) step slack) = G := ⟨_, rfl⟩
  have HF := Lib.hid hF; have HN := Lib.hid hN; have HG := Lib.hid hG
  have HS := Lib.hid h
  clear hF hN hG h
  go_enter Try.func9, Try.ntmps9
  go_wp2_with fail
  refine (tight_any _ ss _ HS.out).mono ?_; rintro e w1 ⟨⟨u1, rfl, n1⟩, b1⟩
  rw [HF.out, HN.out]
  have N1 := Lib.hid n1
  clear n1
  go_wp2_with fail
  refine (rtight_any _ ss _ (HS.out.below b1 (Nat.le_refl _))).mono ?_; rintro e w2 ⟨⟨u2, rfl, n2⟩, b2⟩
  rw [HF.out, HN.out]
  have N2 := Lib.hid n2
  have bel2 := b1.trans (b2.mono b1.size)
  clear n2
  go_wp2_with fail
  refine (str_any _ ss _ _ _ (HS.out.below bel2 (Nat.le_refl _))).mono ?_; rintro e w3 ⟨⟨u3, rfl, n3⟩, b3⟩
  rw [HG.out]
  have N3 := Lib.hid n3
  have bel3 := bel2.trans (b3.mono bel2.size)
  clear n3
  go_wp2_with fail
  refine (rstr_any _ ss _ _ _ (HS.out.below bel3 (Nat.le_refl _))).mono ?_; rintro e w4 ⟨⟨u4, rfl, n4⟩, b4⟩
  rw [HG.out]
  have N4 := Lib.hid n4
  have bel4 := bel3.trans (b4.mono bel3.size)
  have M1 := Lib.hid (N1.out.below (b2.trans ((b3.trans (b4.mono b3.size)).mono b2.size)) (Nat.le_refl _))
  have M2 := Lib.hid (N2.out.below (b3.trans (b4.mono b3.size)) (Nat.le_refl _))
  have M3 := Lib.hid (N3.out.below b4 (Nat.le_refl _))
  clear n4
  go_wp2_with fail
  refine (equalS_any _ _ _ _ _ M1.out M2.out).mono ?_; rintro e w' ⟨rfl, q1, rfl⟩
  rw [decide_eq_true rfl]
  go_wp2_with fail
  refine (equalS_any _ _ _ _ _ (M3.out.below (below_drewN (Below.refl _ _) _) (Nat.le_refl _)) (N4.out.below (below_drewN (Below.refl _ _) _) (Nat.le_refl _))).mono ?_; rintro e w' ⟨rfl, q2, rfl⟩
  rw [decide_eq_true rfl]
  go_wp2_with fail
  refine (awake3_any _).mono ?_; rintro e w5 ⟨rfl, b5⟩
  go_wp2_with fail
  go_ret
  exact ⟨rfl, (below_drewN bel4 _).trans (b5.mono bel4.size)⟩

end Go.Proofs.Ytgpiagdldcnijab
