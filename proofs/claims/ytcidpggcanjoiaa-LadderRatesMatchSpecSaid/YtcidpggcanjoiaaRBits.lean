/- The reference's divisor, bits and Mean. -/
import Derived.Test.YtcidpggcanjoiaaMean5
namespace Go.Proofs.Ytcidpggcanjoiaa
set_option linter.unusedVariables false
set_option linter.unusedSimpArgs false
open Go.RowKit Go.Deep

set_option maxRecDepth 100000 in
set_option maxHeartbeats 2000000 in
theorem divisor_any (n d : Int) (w : World) (h0 : 0 ≤ n) (h1 : n ≤ 4611686018427387904) (d0 : 0 ≤ d) (d1 : d ≤ 4611686018427387904) :
    Calls Try.prog 110 #[.int .i64 n, .int .i64 d] w fun e w' => e = .returned (.int .i64 (gcdI n d)) ∧ Below w.heap.size w w' := by
  obtain ⟨G, hG⟩ : ∃ G, gcdI n d = G := ⟨_, rfl⟩
  rw [hG]
  have HG := Lib.hid hG
  clear hG
  go_enter Try.func110, Try.ntmps110
  go_wp2_with fail
  go_loopw [0, 1] (fun v5 v6 wr => ∃ c r : Int, 0 ≤ c ∧ c ≤ 4611686018427387904 ∧ 0 ≤ r ∧ r ≤ 4611686018427387904 ∧ v5 = .int .i64 c ∧ v6 = .int .i64 r ∧ Hid (gcdI c r = G) ∧ Below w.heap.size w wr) (fun _ v _ => (intOf v).toNat)
  case atStart => exact ⟨n, d, h0, h1, d0, d1, rfl, rfl, HG, Below.refl _ _⟩
  case round =>
    clear h0 h1 d0 d1 HG n d
    obtain ⟨c, r, c0, c1, r0, r1, rfl, rfl, HC, hbel⟩ := hrel
    by_cases hr : r = 0
    · subst hr
      have hcG : c = G := by rw [← HC.out, gcdI_zero c (by omega)]
      subst hcG
      go_wp2_with fail
      go_ret
      exact ⟨rfl, hbel⟩
    · have hr2 : 0 < r := by omega
      obtain ⟨m0, m1, m2⟩ := gcd_rest hr2 c0
      have HS : Hid (gcdI r (c % r) = G) := Lib.hid (by rw [gcdI_step]; exact HC.out)
      have rz : (r == 0) = false := by simp; omega
      have rz2 : (r != 0) = true := by simp; omega
      clear m2 hr
      go_upto_region 2 with fail
      go_quiet (fail)
      go_wp2_with fail
      go_roundw
      case rel => exact ⟨r, c % r, by omega, r1, m0, by omega, rfl, rfl, HS, below_drewN hbel nq⟩
      case measure => simp [intOf]; omega
theorem quo_c {a b : Int} (h0 : 0 ≤ a) (h1 : a ≤ 9223372036854775807) (hb : 0 < b) : IntKind.i64.wrap (a / b) = a / b ∧ IntKind.i64.wrap (a.tdiv b) = a / b := by
  have q := div_nn hb h0
  rw [tdiv_pos _ _ h0]
  exact ⟨IntWalk.i64_in _ ⟨by omega, by omega⟩, IntWalk.i64_in _ ⟨by omega, by omega⟩⟩
set_option maxRecDepth 100000 in
set_option maxHeartbeats 4000000 in
theorem rbits_any (b t s : Int) (w : World) (b0 : 0 ≤ b) (b1 : b ≤ 500000000000) (t0 : 0 < t) (t1 : t ≤ 500000000000) (s0 : 0 < s) (s1 : s ≤ 1000000000) :
    Calls Try.prog 63 #[.int .i64 b, .int .i64 t, .int .i64 s] w fun e w' => e = .returned (.tuple #[.agg #[.int .i64 (rtX b t s), .int .i64 (rtY b t s)], .int .i64 (rtF b t s)]) ∧ Below w.heap.size w w' := by
  have hf := rt_facts b0 t0 s0
  have n0 := hf.n0
  have n1 := hf.n1
  have y0 := hf.t0
  have y1 := hf.t1
  have g0 := hf.g
  have h0 := hf.h
  have u0 := hf.s0
  have u1 := hf.s1
  have v0 := hf.d0
  have v1 := hf.d1
  obtain ⟨x, hx⟩ : ∃ x, 8 * b / gcdI (8 * b) t = x := ⟨_, rfl⟩
  obtain ⟨y, hy⟩ : ∃ y, t / gcdI (8 * b) t = y := ⟨_, rfl⟩
  have hg1 := gcdI_le (a := 8 * b) t0
  obtain ⟨RX, hRX⟩ : ∃ RX, rtX b t s = RX := ⟨_, rfl⟩
  obtain ⟨RY, hRY⟩ : ∃ RY, rtY b t s = RY := ⟨_, rfl⟩
  obtain ⟨RF, hRF⟩ : ∃ RF, rtF b t s = RF := ⟨_, rfl⟩
  have hHH : (rtN b t s ≤ 9223372036854775807 → RX = rtN b t s ∧ RY = rtD b t s ∧ RF = 0) ∧ (¬ rtN b t s ≤ 9223372036854775807 → RX = 0 ∧ RY = 0 ∧ RF = 1) := by
    rw [← hRX, ← hRY, ← hRF]
    constructor
    · intro h'
      have e : rtF b t s = 0 := if_pos h'
      exact ⟨by rw [rtX, if_pos e], by rw [rtY, if_pos e], e⟩
    · intro h'
      have e : rtF b t s = 1 := if_neg h'
      refine ⟨?_, ?_, e⟩
      · rw [rtX, e]; rfl
      · rw [rtY, e]; rfl
  rw [hRX, hRY, hRF]
  unfold rtD at v0 v1 hHH
  unfold rtN at hHH
  have hD1 := divisor_any (8 * b) t
  obtain ⟨g, hg⟩ : ∃ g, gcdI (8 * b) t = g := ⟨_, rfl⟩
  rw [hg] at hx hy n0 n1 y0 y1 g0 h0 u0 u1 v0 v1 hHH hD1 hg1
  have wx := quo_c (a := 8 * b) (b := g) (by omega) (by omega) g0
  have wy := quo_c (a := t) (b := g) (by omega) (by omega) g0
  rw [hx] at n0 n1 hHH wx
  rw [hy] at y0 y1 h0 u0 u1 v0 v1 hHH wy
  have hD2 := divisor_any s y
  have hh1 := gcdI_le (a := s) y0
  obtain ⟨h, hh⟩ : ∃ h, gcdI s y = h := ⟨_, rfl⟩
  rw [hh] at h0 u0 u1 v0 v1 hHH hD2 hh1
  have wu := quo_c (a := s) (b := h) (by omega) (by omega) h0
  have wv := quo_c (a := y) (b := h) (by omega) (by omega) h0
  obtain ⟨u, hu⟩ : ∃ u, s / h = u := ⟨_, rfl⟩
  obtain ⟨v, hv⟩ : ∃ v, y / h = v := ⟨_, rfl⟩
  rw [hu] at u0 u1 hHH wu
  rw [hv] at v0 v1 hHH wv
  have wm := quo_c (a := 9223372036854775807) (b := u) (by omega) (by omega) u0
  have hm0 := div_nn (a := 9223372036854775807) u0 (by omega)
  have hle : (x ≤ 9223372036854775807 / u ↔ x * u ≤ 9223372036854775807) := Int.le_ediv_iff_mul_le u0
  obtain ⟨M, hM⟩ : ∃ M, 9223372036854775807 / u = M := ⟨_, rfl⟩
  rw [hM] at wm hm0 hle
  obtain ⟨P, hP⟩ : ∃ P, x * u = P := ⟨_, rfl⟩
  rw [hP] at hHH hle
  have P0 : 0 ≤ P := by rw [← hP]; exact Int.mul_nonneg n0 (by omega)
  have HP := Lib.hid hP
  have HH := Lib.hid hHH
  have HL := Lib.hid hle
  have H1 := Lib.hid hD1
  have H2 := Lib.hid hD2
  obtain ⟨wx1, wx2⟩ := wx
  obtain ⟨wy1, wy2⟩ := wy
  obtain ⟨wu1, wu2⟩ := wu
  obtain ⟨wv1, wv2⟩ := wv
  obtain ⟨wm1, wm2⟩ := wm
  have w8 : IntKind.i64.wrap (8 * b) = 8 * b := IntWalk.i64_in _ ⟨by omega, by omega⟩
  have gz : (g == 0) = false := by simp; omega
  have hz : (h == 0) = false := by simp; omega
  have uz : (u == 0) = false := by simp; omega
  clear hf hx hy hu hv hg hh hRX hRY hRF hP hHH hle hM hD1 hD2
  go_enter Try.func63, Try.ntmps63
  go_wp2_with fail
  refine (H1.out _ (by omega) (by omega) (by omega) (by omega)).mono ?_; rintro e w1 ⟨rfl, b1⟩
  rw [show (w.alloc (.cells #[.int .i64 0, .int .i64 0] 24)).heap.size = w.heap.size + 1 by simp] at b1
  go_upto_region 3 with fail
  go_quiet (fail)
  have b1 := below_drewN b1 nq
  generalize w1.drewN nq = W1 at *
  go_wp2_with fail
  refine (H2.out _ (by omega) (by omega) (by omega) (by omega)).mono ?_; rintro e w2 ⟨rfl, b2⟩
  have b3 := b1.trans (b2.mono (by have := b1.size; simp at this; omega))
  clear b1 b2
  go_upto_region 5 with fail
  go_quiet (fail)
  have b3 := below_drewN b3 nq
  generalize w2.drewN nq = W2 at *
  obtain ⟨k0, k1, f0, f1, hb⟩ := ratio_cells b3
  by_cases hc : M < x
  · obtain ⟨rfl, rfl, rfl⟩ := HH.out.2 (by have := HL.out; omega)
    go_wp2_with fail
    refine bodyPost_ret (by simp [results, Try.results63, go_sem, k0, k1]; try rfl) rfl ?_
    exact ⟨rfl, (hb.setCell (p := ⟨w.heap.size, 0, none⟩) (Nat.le_refl _) _).setCell (p := ⟨w.heap.size, 1, none⟩) (Nat.le_refl _) _⟩
  · have hp := HL.out.1 (by omega)
    obtain ⟨rfl, rfl, rfl⟩ := HH.out.1 hp
    have hd : decide (M < x) = false := by simp; omega
    have hwP : IntKind.i64.wrap (x * u) = RX := by rw [HP.out]; exact IntWalk.i64_in _ ⟨by omega, by omega⟩
    clear hc
    go_wp2_with fail
    refine bodyPost_ret (by simp [results, Try.results63, go_sem, k0, k1]; try rfl) rfl ?_
    exact ⟨rfl, (hb.setCell (p := ⟨w.heap.size, 0, none⟩) (Nat.le_refl _) _).setCell (p := ⟨w.heap.size, 1, none⟩) (Nat.le_refl _) _⟩

end Go.Proofs.Ytcidpggcanjoiaa
