/- The lowest terms of a ratio (program), the greatest divisor (reference). -/
import Derived.Test.YtinckidkophobaaSums
import Derived.RegionTactic
import Derived.ChangeAlike
import Derived.Deep.DeepCutAuto
import Derived.Deep.CutBlock
namespace Go.Proofs.Ytinckidkophobaa
set_option linter.unusedVariables false
set_option linter.unusedSimpArgs false
open Go.RowKit Go.Deep

theorem gcd_rest {c r : Int} (hr : 0 < r) (hc : 0 ≤ c) : 0 ≤ c % r ∧ c % r < r ∧ c.tmod r = c % r := ⟨Int.emod_nonneg c (by omega), Int.emod_lt_of_pos c hr, Int.tmod_eq_emod_of_nonneg hc⟩
theorem tdiv_pos (a g : Int) (h : 0 ≤ a) : a.tdiv g = a / g := Int.tdiv_eq_ediv_of_nonneg h
theorem ratio_cells {w W : World} {T : TypeId} (h : Below (w.heap.size + 1) (w.alloc (.cells #[.int .i64 0, .int .i64 0] T)) W) :
    W.cell? ⟨w.heap.size, 0, none⟩ = some (.int .i64 0) ∧ W.cell? ⟨w.heap.size, 1, none⟩ = some (.int .i64 0) ∧ W.frozen? ⟨w.heap.size, 0, none⟩ = false ∧ W.frozen? ⟨w.heap.size, 1, none⟩ = false ∧ Below w.heap.size w W := by
  have hw : Below w.heap.size w (w.alloc (.cells #[.int .i64 0, .int .i64 0] T)) := (Below.refl _ w).alloc (Nat.le_refl _) _
  refine ⟨?_, ?_, ?_, ?_, hw.trans (h.mono (by omega))⟩
  · rw [h.cell (p := ⟨w.heap.size, 0, none⟩) (by show w.heap.size < w.heap.size + 1; omega), World.cell?_alloc_at _ _ _ _ (by simp)]; rfl
  · rw [h.cell (p := ⟨w.heap.size, 1, none⟩) (by show w.heap.size < w.heap.size + 1; omega), World.cell?_alloc_at _ _ _ _ (by simp)]; rfl
  · rw [h.frozen (p := ⟨w.heap.size, 0, none⟩) (by show w.heap.size < w.heap.size + 1; omega)]; go_simp
  · rw [h.frozen (p := ⟨w.heap.size, 1, none⟩) (by show w.heap.size < w.heap.size + 1; omega)]; go_simp
set_option maxRecDepth 100000 in
set_option maxHeartbeats 2000000 in
theorem low_any (n d : Int) (w : World) (h0 : 0 ≤ n) (h1 : n ≤ 4611686018427387904) (d0 : 0 < d) (d1 : d ≤ 4611686018427387904) :
    Calls Try.prog 80 #[.int .i64 n, .int .i64 d] w fun e w' => e = .returned (.agg #[.int .i64 (n / gcdI n d), .int .i64 (d / gcdI n d)]) ∧ Below w.heap.size w w' := by
  have hg0 := gcdI_pos (a := n) d0
  have hg1 := gcdI_le (a := n) d0
  have q1 := div_nn hg0 h0
  have q2 := div_nn hg0 (Int.le_of_lt d0)
  obtain ⟨G, hG⟩ : ∃ G, gcdI n d = G := ⟨_, rfl⟩
  rw [hG] at hg0 hg1 q1 q2 ⊢
  have HG : Hid (gcdI d n = G) := Lib.hid (by rw [gcdI_comm]; exact hG)
  clear hG
  obtain ⟨A, hA⟩ : ∃ A, n / G = A := ⟨_, rfl⟩
  obtain ⟨B, hB⟩ : ∃ B, d / G = B := ⟨_, rfl⟩
  rw [hA] at q1 ⊢
  rw [hB] at q2 ⊢
  have wA : IntKind.i64.wrap (n / G) = A := by rw [hA]; exact IntWalk.i64_in _ ⟨by omega, by omega⟩
  have wB : IntKind.i64.wrap (d / G) = B := by rw [hB]; exact IntWalk.i64_in _ ⟨by omega, by omega⟩
  have wA' : IntKind.i64.wrap (n.tdiv G) = A := by rw [tdiv_pos _ _ h0]; exact wA
  have wB' : IntKind.i64.wrap (d.tdiv G) = B := by rw [tdiv_pos _ _ (by omega)]; exact wB
  have gz : (G == 0) = false := by simp; omega
  clear hA hB
  go_enter Try.func80, Try.ntmps80
  go_wp2_with fail
  go_loopw [5, 6] (fun v5 v6 wr => ∃ c r : Int, 0 < c ∧ c ≤ 4611686018427387904 ∧ 0 ≤ r ∧ r ≤ 4611686018427387904 ∧ v5 = .int .i64 c ∧ v6 = .int .i64 r ∧ Hid (gcdI c r = G) ∧ Below (w.heap.size + 1) (w.alloc (.cells #[.int .i64 0, .int .i64 0] 24)) wr) (fun _ v _ => (intOf v).toNat)
  case atStart => exact ⟨d, n, d0, d1, h0, h1, rfl, rfl, HG, Below.refl _ _⟩
  case round =>
    obtain ⟨c, r, c0, c1, r0, r1, rfl, rfl, HC, hbel⟩ := hrel
    by_cases hr : 0 < r
    · obtain ⟨m0, m1, m2⟩ := gcd_rest hr (Int.le_of_lt c0)
      have HS : Hid (gcdI r (c % r) = G) := Lib.hid (by rw [gcdI_step]; exact HC.out)
      have rz : (r == 0) = false := by simp; omega
      clear m2
      go_upto_region 4 with fail
      go_quiet (fail)
      go_wp2_with fail
      go_roundw
      case rel => exact ⟨r, c % r, hr, r1, m0, by omega, rfl, rfl, HS, below_drewN hbel nq⟩
      case measure => simp [intOf]; omega
    · have hr0 : r = 0 := by omega
      subst hr0
      have hcG : c = G := by rw [← HC.out, gcdI_zero c (by omega)]
      subst hcG
      have hd : decide ((0 : Int) < 0) = false := by decide
      obtain ⟨k0, k1, f0, f1, hb⟩ := ratio_cells hbel
      clear hr
      go_upto_region 5 with fail
      go_region
      all_goals
        go_wp2_with fail
        refine bodyPost_ret (by simp [results, Try.results80, go_sem, k0, k1]; try rfl) rfl ?_
        exact ⟨rfl, ((hb.setCell (p := ⟨w.heap.size, 0, none⟩) (Nat.le_refl _) _).setCell (p := ⟨w.heap.size, 1, none⟩) (Nat.le_refl _) _).drew⟩

end Go.Proofs.Ytinckidkophobaa
