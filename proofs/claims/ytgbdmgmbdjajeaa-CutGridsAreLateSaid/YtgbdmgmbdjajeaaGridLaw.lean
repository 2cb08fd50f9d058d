/- CutGridsAreLate: whatever the input, the law returns true. -/
import Derived.Test.YtgbdmgmbdjajeaaGrid
namespace Go.Proofs.Ytgbdmgmbdjajeaa
set_option linter.unusedVariables false
set_option linter.unusedSimpArgs false
open Go.RowKit Go.Deep

set_option maxRecDepth 100000 in
set_option maxHeartbeats 4000000 in
theorem gridlaw_walk (b off n cap : Nat) (zs : List Int) (sc ta mo : Int) (w : World) (hz : zs.length = n) (hlt : b < w.heap.size) (hl : n ≤ cap) (hm : cap ≤ maxLen) (hc : ∀ j, j < n → w.cell? ⟨b, off + j, none⟩ = some (.int .i64 (zs.getD j 0))) (hp : placesF zs sc ta mo = 0) :
    Calls Try.prog 3 #[.slice (some ⟨b, off, none⟩) n cap, .agg #[.int .i64 sc, .int .i64 ta, .int .i64 mo]] w fun e w' => e = .returned (.bool true) ∧ Below w.heap.size w w' := by
  obtain ⟨-, ⟨t0, t1⟩, -, hR⟩ := (placesF_zero zs sc ta mo).1 hp
  have hn1 : n ≤ 1000 := by rw [← hz]; exact hR.len
  have hn0 : 0 < n := by rw [← hz]; exact hR.pos
  have HR := Lib.hid hR
  have HP := Lib.hid hp; have HZ := Lib.hid hz; have HC := Lib.hid hc
  have hN : NumsC w (.slice (some ⟨b, off, none⟩) n cap) zs := .inr ⟨b, off, cap, by rw [hz], fun h => by subst h; simp at hz; omega, hlt, by rw [hz]; omega, hm, by rw [hz]; exact hc⟩
  have HN := Lib.hid hN
  obtain ⟨G, hG⟩ : ∃ G, gridTo zs ta (n - 1) = G := ⟨_, rfl⟩
  have hGR : gridR zs sc ta mo = G := by rw [gridR, if_pos hp, hz, hG]
  have HOK := Lib.hid (gridTo_ok hR ta (n - 1) (by omega))
  have HG0 := Lib.hid (gridTo_zero zs ta (n - 1))
  have HGL := Lib.hid (gridTo_len zs ta (n - 1))
  rw [hG] at HOK HG0 HGL
  have HGR := Lib.hid hGR
  unfold maxLen at hm
  clear hp hz hR hc hN hG hGR
  go_enter Try.func3, Try.ntmps3
  go_wp2_with fail
  refine (grid_any _ zs _ _ _ _ (HN.out.below ((Below.refl _ _).alloc (Nat.le_refl _) _) (Nat.le_refl _))).mono ?_; rintro e w1 ⟨⟨u, rfl, n1⟩, b1⟩
  rw [HP.out]; rw [HGR.out] at n1
  have b0 : Below w.heap.size w w1 := ((Below.refl _ _).alloc (Nat.le_refl _) _).trans (b1.mono (by simp))
  have e1 : w1.cell? ⟨w.heap.size, 1, none⟩ = some (.int .i64 ta) := by rw [b1.cell (p := ⟨w.heap.size, 1, none⟩) (by simp), World.cell?_alloc_at _ _ _ _ (by simp)]; rfl
  obtain ⟨p, hp0⟩ : ∃ p, zs.getD 0 0 = p := ⟨_, rfl⟩
  have c0 : w1.cell? ⟨b, off, none⟩ = some (.int .i64 p) := by rw [b0.cell (p := ⟨b, off, none⟩) hlt, ← hp0]; exact HC.out 0 hn0
  have HC1 : Hid (∀ j, j < n → w1.cell? ⟨b, off + j, none⟩ = some (.int .i64 (zs.getD j 0))) := Lib.hid (fun j hj => by rw [b0.cell (p := ⟨b, off + j, none⟩) hlt]; exact HC.out j hj)
  have HP0 := Lib.hid hp0
  clear b1 hp0
  rcases n1 with ⟨a, c, rfl, h⟩ | ⟨g, o, c, rfl, hne, glt, gl, gm, gc⟩
  · have := HGL.out.1; rw [h] at this; simp at this
  obtain ⟨m, hm1⟩ : ∃ m, G.length = m := ⟨_, rfl⟩
  have hm2 := HGL.out
  rw [hm1] at gl gc hm2 ⊢
  unfold maxLen at gm
  have HM := Lib.hid hm1
  have HGC := Lib.hid gc
  clear hm1 gc hne
  go_wp2_with fail
  go_loopw [7] (fun i wr => ∃ k : Nat, k ≤ m ∧ i = .int .i64 k ∧ Below w1.heap.size w1 wr) (fun i _ => m - (intOf i).toNat)
  case atStart => exact ⟨0, by omega, rfl, Below.refl _ _⟩
  case round =>
    obtain ⟨k, hk, rfl, hbel⟩ := hrel
    have hg1 : w.heap.size < w1.heap.size := by have := World.block_lt_of_cell? w1 _ e1; exact this
    have f1 : wr.cell? ⟨w.heap.size, 1, none⟩ = some (.int .i64 ta) := by rw [hbel.cell (p := ⟨w.heap.size, 1, none⟩) hg1]; exact e1
    have f0 : wr.cell? ⟨b, off, none⟩ = some (.int .i64 p) := by rw [hbel.cell (p := ⟨b, off, none⟩) (Nat.lt_of_lt_of_le hlt b0.size)]; exact c0
    by_cases hlt2 : k < m
    · obtain ⟨x, hx⟩ : ∃ x, G.getD k 0 = x := ⟨_, rfl⟩
      obtain ⟨⟨j, hj, hjx⟩, hge, hri⟩ := HOK.out k (by rw [HM.out]; exact hlt2)
      rw [hx] at hjx hge hri
      have d0 : wr.cell? ⟨g, o + k, none⟩ = some (.int .i64 x) := by rw [hbel.cell (p := ⟨g, o + k, none⟩) glt, ← hx]; exact HGC.out k hlt2
      have HCT : Hid (∀ W', Below w1.heap.size w1 W' → Calls Try.prog 13 #[.slice (some ⟨b, off, none⟩) n cap, .int .i64 x] W' fun e w' => e = .returned (.bool true) ∧ w' = W') := Lib.hid (fun W' hb => by
        have hct := Try.slices_Contains_int b off n cap zs x W' (by rw [HZ.out]; omega) (by omega) (fun j hj => by rw [hb.cell (p := ⟨b, off + j, none⟩) (Nat.lt_of_lt_of_le hlt b0.size)]; exact HC1.out j (by rw [← HZ.out]; exact hj))
        have e : (zs.take n).contains x = true := by
          rw [List.take_of_length_le (by rw [HZ.out]; omega), List.contains_iff_mem, ← hjx]
          exact getD_mem' zs j (by rw [HZ.out]; omega)
        rw [e] at hct
        exact hct)
      have hxb := HR.out.time j (by rw [HZ.out]; omega)
      rw [hjx] at hxb
      obtain ⟨x1, x2⟩ := hxb
      obtain ⟨p1, p2⟩ : -1000000000000000 ≤ p ∧ p ≤ 1000000000000000 := by rw [← HP0.out]; exact HR.out.time 0 (by rw [HZ.out]; exact hn0)
      rw [HP0.out] at hge
      obtain ⟨M, hM⟩ : ∃ M, (k : Int) * ta = M := ⟨_, rfl⟩
      have hMb : 0 ≤ M ∧ M ≤ 50000000000 := by
        rw [← hM]
        exact ⟨Int.mul_nonneg (by omega) (by omega), Int.le_trans (Int.mul_le_mul (show (k : Int) ≤ 1000 by omega) t1 (by omega) (by decide)) (by decide)⟩
      have hwM : IntKind.i64.wrap ((k : Int) * ta) = M := by rw [hM]; exact IntWalk.i64_in _ ⟨by omega, by omega⟩
      have hwP : IntKind.i64.wrap (x - p) = x - p := IntWalk.i64_in _ ⟨by omega, by omega⟩
      rw [hM] at hge
      have hd : decide (x - p < M) = false := by simp; omega
      clear hM hjx hge
      by_cases hk0 : k < 1
      · have hgd : decide (0 < k) = false := by simp; omega
        clear hri hx hk0
        go_upto_region 7 with fail
        go_quiet ((go_at_call 13; exact Calls.quiet_of_same (HCT.out _ (below_drewN hbel _))))
        go_wp2_with fail
        go_roundw
        case rel => exact ⟨k + 1, by omega, by go_num, below_drewN hbel _⟩
        case measure => simp [intOf]; omega
      · have hgd : decide (0 < k) = true := by simp; omega
        have hgd2 : (0 : Int) < (k : Int) := by omega
        obtain ⟨y, hy⟩ : ∃ y, G.getD (k - 1) 0 = y := ⟨_, rfl⟩
        have d1 : wr.cell? ⟨g, o + (k - 1), none⟩ = some (.int .i64 y) := by rw [hbel.cell (p := ⟨g, o + (k - 1), none⟩) glt, ← hy]; exact HGC.out (k - 1) (by omega)
        have hlt3 := hri (by omega)
        rw [hy] at hlt3
        have hd2 : decide (x ≤ y) = false := by simp; omega
        have i0 : (0 : Int) ≤ (k : Int) - 1 := by omega
        have i1 : (k : Int) - 1 < (m : Int) := by omega
        have i2 : ((k : Int) - 1).toNat = k - 1 := by omega
        have i3 : (1 : Int) ≤ (k : Int) := by omega
        have i4 : IntKind.i64.wrap ((k : Int) - 1) = (k : Int) - 1 := IntWalk.i64_in _ ⟨by omega, by omega⟩
        clear hri hx hk0 hy
        go_upto_region 7 with fail
        go_quiet ((go_at_call 13; exact Calls.quiet_of_same (HCT.out _ (below_drewN hbel _))))
        go_wp2_with fail
        go_roundw
        case rel => exact ⟨k + 1, by omega, by go_num, below_drewN hbel _⟩
        case measure => simp [intOf]; omega
    · have hkm : k = m := by omega
      have hd : decide (k < m) = false := by simp; omega
      have d0 : wr.cell? ⟨g, o, none⟩ = some (.int .i64 p) := by
        rw [hbel.cell (p := ⟨g, o, none⟩) glt]
        have := HGC.out 0 (by omega)
        rw [HG0.out, HP0.out] at this
        exact this
      have m0 : (0 : Int) < (m : Int) := by omega
      have m1 : 0 < m := by omega
      clear hkm
      obtain ⟨hm3, hm4⟩ := hm2
      have hbw := b0.trans (hbel.mono b0.size)
      have hs0 : b < wr.heap.size := Nat.lt_of_lt_of_le hlt hbw.size
      have hs1 : g < wr.heap.size := Nat.lt_of_lt_of_le glt hbel.size
      go_upto_region 9 with fail
      go_region_held3 (fun w' => w'.cell? ⟨g, o, none⟩ = some (.int .i64 p) ∧ w'.cell? ⟨b, off, none⟩ = some (.int .i64 p) ∧ Below w.heap.size w w')
        (first | (go_keep; done) | (exact ⟨d0, f0, hbw⟩) | (exact ⟨d0, f0, hbw.drew⟩) | (exact ⟨k0, k1, k2⟩))
        (first | (go_at_call 12; refine (awake4_any _).mono ?_; rintro e w3 ⟨rfl, b3⟩; have k0 := (b3.cell (p := ⟨g, o, none⟩) hs1).trans d0; have k1 := (b3.cell (p := ⟨b, off, none⟩) hs0).trans f0; have k2 := hbw.drew.trans (b3.mono hbw.size)))
      all_goals
        go_wp2_with fail
        go_ret
        exact ⟨rfl, by first | exact k2 | exact hbw | exact hbw.drew⟩
theorem gridlaw (v : Value) (zs : List Int) (sc ta mo : Int) (w : World) (h : NumsC w v zs) :
    Calls Try.prog 3 #[v, .agg #[.int .i64 sc, .int .i64 ta, .int .i64 mo]] w fun e w' => e = .returned (.bool true) ∧ Below w.heap.size w w' := by
  obtain ⟨f, hf⟩ : ∃ f, placesF zs sc ta mo = f := ⟨_, rfl⟩
  by_cases h0 : f = 0
  · subst h0
    have hR := ((placesF_zero zs sc ta mo).1 hf).2.2.2
    rcases h with ⟨a, cap, rfl, rfl⟩ | ⟨b, off, cap, rfl, hne, hlt, hl, hm, hc⟩
    · exact absurd hR.pos (by simp)
    · exact gridlaw_walk b off _ cap zs sc ta mo w rfl hlt hl hm hc hf
  · have hG : gridR zs sc ta mo = [] := by rw [gridR, hf, if_neg h0]
    have HN := Lib.hid h
    have HF := Lib.hid hf; have HG := Lib.hid hG
    have hb : (f == 0) = false := by simp [h0]
    obtain ⟨a, cap, rfl, hmx⟩ := h.parts
    clear hf h h0 hG
    go_enter Try.func3, Try.ntmps3
    go_wp2_with fail
    refine (grid_any _ zs _ _ _ _ (HN.out.below ((Below.refl _ _).alloc (Nat.le_refl _) _) (Nat.le_refl _))).mono ?_; rintro e w1 ⟨⟨u, rfl, n1⟩, b1⟩
    rw [HF.out]; rw [HG.out] at n1
    have b0 : Below w.heap.size w w1 := ((Below.refl _ _).alloc (Nat.le_refl _) _).trans (b1.mono (by simp))
    obtain ⟨a1, c1, rfl, -⟩ := n1.parts
    clear n1 b1
    go_wp2_with fail
    refine (awake4_any _).mono ?_; rintro e w3 ⟨rfl, b3⟩
    go_wp2_with fail
    go_ret
    exact ⟨rfl, b0.trans (b3.mono b0.size)⟩

end Go.Proofs.Ytgbdmgmbdjajeaa
