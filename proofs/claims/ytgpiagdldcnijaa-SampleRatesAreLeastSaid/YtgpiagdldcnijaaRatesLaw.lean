/- SampleRatesAreLeast: whatever the input, the law returns true. -/
import Derived.Test.YtgpiagdldcnijaaFull
import Derived.Test.YtgpiagdldcnijaaAwake3
namespace Go.Proofs.Ytgpiagdldcnijaa
set_option linter.unusedVariables false
set_option linter.unusedSimpArgs false
open Go.RowKit Go.Deep

theorem lrV_bad {ss : List Smp} {S d : Int} (h : lrF ss S d ≠ 0) : lrV ss S d = 0 := by rw [lrV, if_neg h]

set_option maxRecDepth 100000 in
set_option maxHeartbeats 4000000 in
theorem rates_small (S dl : Int) (a : Option Addr) (n cap : Nat) (ss : List Smp) (w : World) (h : Smps w (.slice a n cap) ss) (hr : lrF ss S dl ≠ 0 ∨ lrV ss S dl = 0) :
    Calls Try.prog 13 #[.agg #[.int .i64 S, .slice a n cap], .int .i64 dl] w fun e w' => e = .returned (.bool true) ∧ Below w.heap.size w w' := by
  have hr0 : lrV ss S dl = 0 := by
    rcases hr with hr | hr
    · exact lrV_bad hr
    · exact hr
  have hb0 : Below w.heap.size w (w.alloc (.cells #[.int .i64 S, .slice a n cap] 82)) := (Below.refl _ _).alloc (Nat.le_refl _) _
  have HS := Lib.hid (h.below hb0 (Nat.le_refl _))
  obtain ⟨F, hF⟩ : ∃ F, lrF ss S dl = F := ⟨_, rfl⟩
  have HF := Lib.hid hF; have HR0 := Lib.hid hr0
  clear hF hr0 hr h
  by_cases hf : F = 0
  · subst hf
    go_enter Try.func13, Try.ntmps13
    go_wp2_with fail
    refine (leastRate_any _ _ _ ss _ HS.out).mono ?_; rintro e w1 ⟨rfl, b1⟩
    rw [HF.out, HR0.out]
    go_wp2_with fail
    refine (awake3_any _).mono ?_; rintro e w2 ⟨rfl, b2⟩
    go_wp2_with fail
    go_ret
    exact ⟨rfl, hb0.trans ((b1.trans (b2.mono b1.size)).mono hb0.size)⟩
  · have hb : (F == 0) = false := by simp [hf]
    have hb2 : (F != 0) = true := by simp [hf]
    clear hf
    go_enter Try.func13, Try.ntmps13
    go_wp2_with fail
    refine (leastRate_any _ _ _ ss _ HS.out).mono ?_; rintro e w1 ⟨rfl, b1⟩
    rw [HF.out, HR0.out]
    go_wp2_with fail
    refine (awake3_any _).mono ?_; rintro e w2 ⟨rfl, b2⟩
    go_wp2_with fail
    go_ret
    exact ⟨rfl, hb0.trans ((b1.trans (b2.mono b1.size)).mono hb0.size)⟩

set_option maxRecDepth 100000 in
set_option maxHeartbeats 4000000 in
theorem rates_walk (S dl : Int) (a : Option Addr) (n cap : Nat) (ss : List Smp) (w : World) (h : Smps w (.slice a n cap) ss) (hn : ss.length = n) (hF : lrF ss S dl = 0) (hV : lrV ss S dl ≠ 0) :
    Calls Try.prog 13 #[.agg #[.int .i64 S, .slice a n cap], .int .i64 dl] w fun e w' => e = .returned (.bool true) ∧ Below w.heap.size w w' := by
  obtain ⟨g, ⟨s0, s1⟩, hw, hrr, ⟨dF, dV⟩, fF, ⟨f0, f1⟩, hless⟩ := rates_least ss S dl hF hV
  rw [hn] at f1
  obtain ⟨r, hr⟩ : ∃ r, lrV ss S dl = r := ⟨_, rfl⟩
  rw [hr] at hV hrr dF dV fF f0 f1 hless
  obtain ⟨d, hd⟩ : ∃ d, dlyV ss S r = d := ⟨_, rfl⟩
  rw [hd] at dV
  obtain ⟨q, hq⟩ : ∃ q, fulV ss S r dl = q := ⟨_, rfl⟩
  rw [hq] at f0 f1
  obtain ⟨A, hA⟩ : ∃ A, sizeTo ss n = A := ⟨_, rfl⟩
  rw [hA] at f1
  have hb0 : Below w.heap.size w (w.alloc (.cells #[.int .i64 S, .slice a n cap] 82)) := (Below.refl _ _).alloc (Nat.le_refl _) _
  have k1 := one_new w (.cells #[.int .i64 S, .slice a n cap] 82)
  have HS := Lib.hid (h.below hb0 (Nat.le_refl _))
  have HS0 := Lib.hid h
  have HN := Lib.hid hn; have HG := Lib.hid g; have HF := Lib.hid hF; have HR := Lib.hid hr; have HD := Lib.hid hd; have HQ := Lib.hid hq; have HA := Lib.hid hA
  have HDF := Lib.hid dF; have HFF := Lib.hid fF; have HLESS := Lib.hid hless
  obtain ⟨r0, r1⟩ := hrr
  have hb : (r == 0) = false := by simp [hV]
  have K1 := Lib.hid k1
  have hn5 := g.len
  rw [hn] at hn5
  clear hn g hF hr hd hq hA dF fF hless hV h k1
  go_enter Try.func13, Try.ntmps13
  go_wp2_with fail
  refine (leastRate_any _ _ _ ss _ HS.out).mono ?_; rintro e w1 ⟨rfl, b1⟩
  rw [HF.out, HR.out]
  have k1 := one_below K1.out b1 (by simp)
  have z1 := lt_of_block k1
  obtain ⟨c0, c1⟩ := cell_of_two k1
  have bel1 := hb0.trans (b1.mono hb0.size)
  have KK1 := Lib.hid k1
  clear b1 k1
  go_wp2_with fail
  refine (delay_any _ _ _ ss _ (HS0.out.below bel1 (Nat.le_refl _))).mono ?_; rintro e w2 ⟨rfl, b2⟩
  rw [HDF.out, HD.out]
  have k2 := one_below KK1.out b2 z1
  have z2 := lt_of_block k2
  obtain ⟨d0, d1⟩ := cell_of_two k2
  have bel2 := bel1.trans (b2.mono bel1.size)
  have KK2 := Lib.hid k2
  clear b2 k2 c0 c1
  go_wp2_with fail
  refine (fullness_any _ _ _ _ ss _ (HS0.out.below bel2 (Nat.le_refl _))).mono ?_; rintro e w3 ⟨rfl, b3⟩
  rw [HFF.out, HQ.out]
  have k3 := one_below KK2.out b3 z2
  have z3 := lt_of_block k3
  obtain ⟨e0, e1⟩ := cell_of_two k3
  have bel3 := bel2.trans (b3.mono bel2.size)
  have KK3 := Lib.hid k3
  have HS3 := Lib.hid (HS0.out.below bel3 (Nat.le_refl _))
  clear b3 k3 d0 d1
  go_wp2_with fail
  go_loopw [9, 10] (fun u v wr => ∃ k : Nat, k ≤ n ∧ u = .int .i64 (sizeTo ss k) ∧ v = .int .i64 k ∧ wr = w3) (fun _ v _ => n - (intOf v).toNat)
  case atStart => exact ⟨0, Nat.zero_le _, rfl, rfl, rfl⟩
  case round =>
    obtain ⟨k, hk, rfl, rfl, rfl⟩ := hrel
    by_cases hlt2 : k < n
    · have hblk : ∃ b off, a = some ⟨b, off, none⟩ := by
        rcases HS3.out with ⟨a', c', hv, h1⟩ | ⟨b, off, c', hv, hne, hlt, hl, hm, hc⟩
        · exfalso; rw [HN.out] at h1; omega
        · simp only [Value.slice.injEq] at hv
          exact ⟨b, off, hv.1⟩
      obtain ⟨b, off, rfl⟩ := hblk
      obtain ⟨-, -, -, c3, -⟩ := HS3.out.cells k (by rw [HN.out]; exact hlt2)
      obtain ⟨z, hz⟩ : ∃ z, (ss.getD k smp0).z = z := ⟨_, rfl⟩
      have ok := (HG.out.ok k (by rw [HN.out]; exact hlt2)).2.2.2
      have hs1 : sizeTo ss (k + 1) = sizeTo ss k + (ss.getD k smp0).z := rfl
      have hs0 := sizeTo_bd5 HG.out k (by rw [HN.out]; omega)
      rw [hz] at c3 ok hs1
      obtain ⟨sz, hsz0⟩ : ∃ sz, sizeTo ss k = sz := ⟨_, rfl⟩
      rw [hsz0] at hs0 hs1 ⊢
      have HS1 := Lib.hid hs1
      clear hs1 hsz0 hz
      go_wp2_with fail
      go_roundw
      case rel => exact ⟨k + 1, by omega, by rw [HS1.out], by go_num, trivial⟩
      case measure => simp [intOf]; omega
    · have hkn : k = n := by omega
      subst hkn
      rw [HA.out]
      by_cases h1 : r = 1
      · subst h1
        go_wp2_with fail
        refine (awake3_any _).mono ?_; rintro e w4 ⟨rfl, b4⟩
        go_wp2_with fail
        go_ret
        exact ⟨rfl, bel3.trans (b4.mono bel3.size)⟩
      · have h1b : (r == 1) = false := by simp [h1]
        have hl := HLESS.out h1
        have hsub : IntKind.i64.wrap (r - 1) = r - 1 := IntWalk.i64_in _ ⟨by omega, by omega⟩
        obtain ⟨G, hG⟩ : ∃ G, dlyF ss S (r - 1) = G := ⟨_, rfl⟩
        obtain ⟨E, hE⟩ : ∃ E, dlyV ss S (r - 1) = E := ⟨_, rfl⟩
        rw [hG, hE] at hl
        have HGG := Lib.hid hG; have HE := Lib.hid hE
        clear h1 hG hE
        rcases hl with hl | ⟨hl, hle⟩
        · subst hl
          go_wp2_with fail
          refine (delay_any _ _ _ ss _ HS3.out).mono ?_; rintro e w4 ⟨rfl, b4⟩
          rw [HGG.out, HE.out]
          go_wp2_with fail
          refine (awake3_any _).mono ?_; rintro e w5 ⟨rfl, b5⟩
          go_wp2_with fail
          go_ret
          exact ⟨rfl, bel3.trans ((b4.trans (b5.mono b4.size)).mono bel3.size)⟩
        · subst hl
          go_wp2_with fail
          refine (delay_any _ _ _ ss _ HS3.out).mono ?_; rintro e w4 ⟨rfl, b4⟩
          rw [HGG.out, HE.out]
          go_wp2_with fail
          refine (awake3_any _).mono ?_; rintro e w5 ⟨rfl, b5⟩
          go_wp2_with fail
          go_ret
          exact ⟨rfl, bel3.trans ((b4.trans (b5.mono b4.size)).mono bel3.size)⟩

theorem rates_law (S dl : Int) (v : Value) (ss : List Smp) (w : World) (h : Smps w v ss) :
    Calls Try.prog 13 #[.agg #[.int .i64 S, v], .int .i64 dl] w fun e w' => e = .returned (.bool true) ∧ Below w.heap.size w w' := by
  obtain ⟨a, cap, rfl⟩ := h.parts
  by_cases hF : lrF ss S dl = 0
  · by_cases hV : lrV ss S dl = 0
    · exact rates_small S dl a _ cap ss w h (.inr hV)
    · exact rates_walk S dl a _ cap ss w h rfl hF hV
  · exact rates_small S dl a _ cap ss w h (.inl hF)

end Go.Proofs.Ytgpiagdldcnijaa
