/- SampleTightsPresent: whatever the input, the law returns true. -/
import Derived.Test.YtgpiagdldcnijaaTight
import Derived.Test.YtgpiagdldcnijaaStraight
import Derived.Test.YtgpiagdldcnijaaAwake3
namespace Go.Proofs.Ytgpiagdldcnijaa
set_option linter.unusedVariables false
set_option linter.unusedSimpArgs false
open Go.RowKit Go.Deep

theorem tight_keeps (ss : List Smp) (h : chkF ss = 0) (hf : tightF ss = 0) : chkF (tightR ss) = 0 ∧ presR (tightR ss) = presL ss := by
  have e : chkF (tightL ss) = 0 := by rw [← tightF_good h, hf]
  rw [tightR, if_pos hf]
  exact ⟨e, by rw [presR, if_pos e, tight_pres]⟩
theorem str_keeps (ss : List Smp) (f : Int) (ts : List Int) (h : chkF ss = 0) (hf : strF ss f ts = 0) : chkF (strR ss f ts) = 0 ∧ presR (strR ss f ts) = presL ss := by
  have e : chkF (strL ss ts) = 0 := by
    rw [strF, if_pos h] at hf
    split at hf
    · split at hf
      · exact absurd hf (by decide)
      · exact hf
    · rename_i h1; exact absurd hf h1
  rw [strR, if_pos hf]
  exact ⟨e, by rw [presR, if_pos e, strL_pres]⟩
theorem beq_refl_ints (l : List Int) : (l == l) = true := by simp
set_option maxRecDepth 100000 in
set_option maxHeartbeats 4000000 in
theorem tights_law (v : Value) (ss : List Smp) (step slack : Int) (w : World) (h : Smps w v ss) :
    Calls Try.prog 12 #[v, .int .i64 step, .int .i64 slack] w fun e w' => e = .returned (.bool true) ∧ Below w.heap.size w w' := by
  obtain ⟨x, hx⟩ : ∃ x, chkF ss = x := ⟨_, rfl⟩
  have HX := Lib.hid hx
  obtain ⟨a, cap, rfl⟩ := h.parts
  have hmax := h.max.2
  by_cases h0 : x = 0
  · subst h0
    have hr : presR ss = presL ss := by rw [presR, hx, if_pos rfl]
    have HR := Lib.hid hr
    obtain ⟨n, hn⟩ : ∃ n, ss.length = n := ⟨_, rfl⟩
    have HN := Lib.hid hn
    have HS := Lib.hid h
    rw [hn] at HS hmax ⊢
    clear hx hr hn h
    go_enter Try.func12, Try.ntmps12
    go_wp2_with fail
    refine (presents_any _ ss _ HS.out).mono ?_; rintro e w1 ⟨⟨u1, rfl, n1⟩, b1⟩
    rw [HX.out]; rw [HR.out] at n1
    have N1 := Lib.hid n1
    clear n1
    go_wp2_with fail
    refine (tight_any _ ss _ (HS.out.below b1 (Nat.le_refl _))).mono ?_; rintro e w2 ⟨⟨u2, rfl, n2⟩, b2⟩
    obtain ⟨F, hF⟩ : ∃ F, tightF ss = F := ⟨_, rfl⟩
    obtain ⟨L2, hL2⟩ : ∃ L2, tightR ss = L2 := ⟨_, rfl⟩
    rw [hL2] at n2; rw [hF]
    have PT : Hid (F = 0 → chkF L2 = 0 ∧ presR L2 = presL ss) := Lib.hid (fun h => by rw [← hL2]; exact tight_keeps ss HX.out (hF.trans h))
    have N2 := Lib.hid n2
    have bel2 : Below w.heap.size w w2 := b1.trans (b2.mono b1.size)
    clear hF hL2 n2
    by_cases hf : F = 0
    · subst hf
      have PT1 := Lib.hid (PT.out rfl).1
      have PT2 := Lib.hid (PT.out rfl).2
      go_wp2_with fail
      refine (presents_any _ L2 _ N2.out).mono ?_; rintro e w3 ⟨⟨u3, rfl, n3⟩, b3⟩
      rw [PT1.out]; rw [PT2.out] at n3
      have bel3 : Below w.heap.size w w3 := bel2.trans (b3.mono bel2.size)
      have bel13 : Below w1.heap.size w1 w3 := b2.trans (b3.mono b2.size)
      have N3 := Lib.hid n3
      clear n3
      go_wp2_with fail
      refine (equal_any _ _ _ _ _ (N1.out.below bel13 (Nat.le_refl _)) N3.out).mono ?_; rintro e w' ⟨rfl, q1, rfl⟩
      rw [beq_refl_ints]
      have belq : Below w.heap.size w (w3.drewN q1) := below_drewN bel3 _
      have bel1q : Below w1.heap.size w1 (w3.drewN q1) := below_drewN bel13 _
      go_wp2_with fail
      generalize w3.drewN q1 = wq at *
      refine (str_any _ ss _ _ _ (HS.out.below belq (Nat.le_refl _))).mono ?_; rintro e w5 ⟨⟨u5, rfl, n5⟩, b5⟩
      obtain ⟨G, hG⟩ : ∃ G, strF ss (regF (timesL ss) step slack) (regL (timesL ss) step slack) = G := ⟨_, rfl⟩
      obtain ⟨L5, hL5⟩ : ∃ L5, strR ss (regF (timesL ss) step slack) (regL (timesL ss) step slack) = L5 := ⟨_, rfl⟩
      rw [hL5] at n5; rw [hG]
      have PS : Hid (G = 0 → chkF L5 = 0 ∧ presR L5 = presL ss) := Lib.hid (fun h => by rw [← hL5]; exact str_keeps ss _ _ HX.out (hG.trans h))
      have N5 := Lib.hid n5
      have bel5 : Below w.heap.size w w5 := belq.trans (b5.mono belq.size)
      have bel15 : Below w1.heap.size w1 w5 := bel1q.trans (b5.mono bel1q.size)
      clear hG hL5 n5
      by_cases hg : G = 0
      · subst hg
        have PS1 := Lib.hid (PS.out rfl).1
        have PS2 := Lib.hid (PS.out rfl).2
        go_wp2_with fail
        refine (presents_any _ L5 _ N5.out).mono ?_; rintro e w6 ⟨⟨u6, rfl, n6⟩, b6⟩
        rw [PS1.out]; rw [PS2.out] at n6
        have bel6 : Below w.heap.size w w6 := bel5.trans (b6.mono bel5.size)
        have bel16 : Below w1.heap.size w1 w6 := bel15.trans (b6.mono bel15.size)
        have N6 := Lib.hid n6
        clear n6
        go_wp2_with fail
        refine (equal_any _ _ _ _ _ (N1.out.below bel16 (Nat.le_refl _)) N6.out).mono ?_; rintro e w' ⟨rfl, q1, rfl⟩
        rw [beq_refl_ints]
        obtain ⟨a1, c1, rfl, hl1⟩ := N1.out.parts
        have hl2 : (presL ss).length = n := by rw [presL_len, HN.out]
        rw [hl2] at hl1 N1 ⊢
        go_wp2_with fail
        refine (awake3_any _).mono ?_; rintro e w7 ⟨rfl, b7⟩
        go_wp2_with fail
        go_ret
        exact ⟨rfl, (below_drewN bel6 _).trans (b7.mono bel6.size)⟩
      · have hbg : (G == 0) = false := by simp [hg]
        obtain ⟨a1, c1, rfl, hl1⟩ := N1.out.parts
        have hl2 : (presL ss).length = n := by rw [presL_len, HN.out]
        rw [hl2] at hl1 N1 ⊢
        clear hg
        go_wp2_with fail
        refine (awake3_any _).mono ?_; rintro e w7 ⟨rfl, b7⟩
        go_wp2_with fail
        go_ret
        exact ⟨rfl, bel5.trans (b7.mono bel5.size)⟩
    · have hbf : (F == 0) = false := by simp [hf]
      have belq := bel2
      have bel1q := b2
      clear hf
      go_wp2_with fail
      refine (str_any _ ss _ _ _ (HS.out.below belq (Nat.le_refl _))).mono ?_; rintro e w5 ⟨⟨u5, rfl, n5⟩, b5⟩
      obtain ⟨G, hG⟩ : ∃ G, strF ss (regF (timesL ss) step slack) (regL (timesL ss) step slack) = G := ⟨_, rfl⟩
      obtain ⟨L5, hL5⟩ : ∃ L5, strR ss (regF (timesL ss) step slack) (regL (timesL ss) step slack) = L5 := ⟨_, rfl⟩
      rw [hL5] at n5; rw [hG]
      have PS : Hid (G = 0 → chkF L5 = 0 ∧ presR L5 = presL ss) := Lib.hid (fun h => by rw [← hL5]; exact str_keeps ss _ _ HX.out (hG.trans h))
      have N5 := Lib.hid n5
      have bel5 : Below w.heap.size w w5 := belq.trans (b5.mono belq.size)
      have bel15 : Below w1.heap.size w1 w5 := bel1q.trans (b5.mono bel1q.size)
      clear hG hL5 n5
      by_cases hg : G = 0
      · subst hg
        have PS1 := Lib.hid (PS.out rfl).1
        have PS2 := Lib.hid (PS.out rfl).2
        go_wp2_with fail
        refine (presents_any _ L5 _ N5.out).mono ?_; rintro e w6 ⟨⟨u6, rfl, n6⟩, b6⟩
        rw [PS1.out]; rw [PS2.out] at n6
        have bel6 : Below w.heap.size w w6 := bel5.trans (b6.mono bel5.size)
        have bel16 : Below w1.heap.size w1 w6 := bel15.trans (b6.mono bel15.size)
        have N6 := Lib.hid n6
        clear n6
        go_wp2_with fail
        refine (equal_any _ _ _ _ _ (N1.out.below bel16 (Nat.le_refl _)) N6.out).mono ?_; rintro e w' ⟨rfl, q1, rfl⟩
        rw [beq_refl_ints]
        obtain ⟨a1, c1, rfl, hl1⟩ := N1.out.parts
        have hl2 : (presL ss).length = n := by rw [presL_len, HN.out]
        rw [hl2] at hl1 N1 ⊢
        go_wp2_with fail
        refine (awake3_any _).mono ?_; rintro e w7 ⟨rfl, b7⟩
        go_wp2_with fail
        go_ret
        exact ⟨rfl, (below_drewN bel6 _).trans (b7.mono bel6.size)⟩
      · have hbg : (G == 0) = false := by simp [hg]
        obtain ⟨a1, c1, rfl, hl1⟩ := N1.out.parts
        have hl2 : (presL ss).length = n := by rw [presL_len, HN.out]
        rw [hl2] at hl1 N1 ⊢
        clear hg
        go_wp2_with fail
        refine (awake3_any _).mono ?_; rintro e w7 ⟨rfl, b7⟩
        go_wp2_with fail
        go_ret
        exact ⟨rfl, bel5.trans (b7.mono bel5.size)⟩
  · have hr : presR ss = [] := by rw [presR, hx, if_neg h0]
    have HR := Lib.hid hr
    have HS := Lib.hid h
    have hb : (x == 0) = false := by simp [h0]
    clear hx hr h
    go_enter Try.func12, Try.ntmps12
    go_wp2_with fail
    refine (presents_any _ ss _ HS.out).mono ?_; rintro e w1 ⟨⟨u1, rfl, n1⟩, b1⟩
    rw [HX.out]; rw [HR.out] at n1
    obtain ⟨a1, c1, rfl, -⟩ := n1.parts
    clear n1
    go_wp2_with fail
    refine (awake3_any _).mono ?_; rintro e w2 ⟨rfl, b2⟩
    go_wp2_with fail
    go_ret
    exact ⟨rfl, b1.trans (b2.mono b1.size)⟩

end Go.Proofs.Ytgpiagdldcnijaa
