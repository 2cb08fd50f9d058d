/- CutMillisAddUp: whatever the input, the law returns true: the walk. -/
import Derived.Test.YtgbdmgmbdjajeaaMillisLaw
namespace Go.Proofs.Ytgbdmgmbdjajeaa
set_option linter.unusedVariables false
set_option linter.unusedSimpArgs false
open Go.RowKit Go.Deep

set_option maxRecDepth 100000 in
set_option maxHeartbeats 8000000 in
theorem millislaw_walk (b off n cap : Nat) (ls : List Seg) (sc : Int) (w : World) (hz : ls.length = n) (hn0 : 0 < n) (hlt : b < w.heap.size) (h0 : milF ls sc = 0) (hS0 : Segs w (.slice (some ⟨b, off, none⟩) n cap) ls) :
    Calls Try.prog 8 #[.slice (some ⟨b, off, none⟩) n cap, .int .i64 sc] w fun e w' => e = .returned (.bool true) ∧ Below w.heap.size w w' := by
  obtain ⟨⟨c0, c1⟩, hT⟩ := (milF_zero ls sc).1 h0
  have hn : n ≤ 1000 := by rw [← hz]; exact hT.len
  have HT := Lib.hid hT
  have HS := Lib.hid hS0
  have HC := Lib.hid (fun j (hj : j < n) => hS0.cells j (by omega))
  have HF := Lib.hid h0
  have HR : Hid (milR ls sc = milTo ls sc n) := Lib.hid (by rw [milR, if_pos h0, hz])
  have HZ := Lib.hid hz
  obtain ⟨-, hnc, hcm⟩ := hS0.block (by omega)
  unfold maxLen at hcm
  clear hz hS0 h0 hT
  go_enter Try.func8, Try.ntmps8
  go_wp2_with fail
  refine (millis_any _ ls sc _ HS.out).mono ?_; rintro e w1 ⟨⟨u, rfl, n1⟩, b1⟩
  rw [HF.out]; rw [HR.out] at n1
  rcases n1 with ⟨a, c, rfl, h⟩ | ⟨g, o, c, rfl, hne, glt, gl, gm, gc⟩
  · have := milTo_len ls sc n; rw [h] at this; simp at this; omega
  rw [milTo_len] at gl gc ⊢
  have HGC := Lib.hid gc
  unfold maxLen at gm
  clear gc hne
  go_wp2_with fail
  go_loopw [7, 8] (fun v7 v wr => ∃ (k : Nat) (S : Int), k ≤ n ∧ v = .int .i64 k ∧ v7 = .int .i64 S ∧ Below w1.heap.size w1 wr ∧ Hid (milS ls sc k = S)) (fun _ v _ => n - (intOf v).toNat)
  case atStart => exact ⟨0, 0, by omega, rfl, rfl, Below.refl _ _, Lib.hid rfl⟩
  case round =>
    obtain ⟨k, S, hk, rfl, rfl, hbel, HSS⟩ := hrel
    have hbw := b1.trans (hbel.mono b1.size)
    by_cases hlt2 : k < n
    · obtain ⟨s, hs⟩ : ∃ s, ls.getD k seg0 = s := ⟨_, rfl⟩
      obtain ⟨d0, d1, d2, d3, d4, d5, d6⟩ := HC.out k hlt2
      rw [hs] at d0 d1 d2 d3 d4 d5 d6
      obtain ⟨z, hz0⟩ : ∃ z, ls.getD 0 seg0 = z := ⟨_, rfl⟩
      obtain ⟨-, -, -, y3, -, -, y6⟩ := HC.out 0 hn0
      rw [hz0] at y3 y6
      rw [show off + 0 * 7 + 3 = off + 3 by omega] at y3
      rw [show off + 0 * 7 + 6 = off + 6 by omega] at y6
      have hok := HT.out.ok k (by rw [HZ.out]; exact hlt2)
      have hokz := HT.out.ok 0 (by rw [HZ.out]; exact hn0)
      rw [hs] at hok; rw [hz0] at hokz
      have hez := hokz.bnd
      obtain ⟨T, hT⟩ : ∃ T, endAt ls k = T := ⟨_, rfl⟩
      obtain ⟨tb1, tb2⟩ := endAt_bd HT.out k (by rw [HZ.out]; exact hlt2)
      have hnd := no_drift HT.out ⟨c0, c1⟩ k (by rw [HZ.out]; exact hlt2)
      have hsb := milS_bd HT.out ⟨c0, c1⟩ k (by rw [HZ.out]; exact hk)
      have hsb2 := milS_bd HT.out ⟨c0, c1⟩ (k + 1) (by rw [HZ.out]; exact hlt2)
      obtain ⟨A, hA⟩ : ∃ A, msQ (endAt ls k) sc - msQ (bndV (ls.getD k seg0)) sc = A := ⟨_, rfl⟩
      have hSA : milS ls sc (k + 1) = S + A := by rw [milS, HSS.out, hA]
      have da : wr.cell? ⟨g, o + k, none⟩ = some (.int .i64 A) := by rw [hbel.cell (p := ⟨g, o + k, none⟩) glt, ← hA, ← milTo_at ls sc n k hlt2]; exact HGC.out k hlt2
      rw [hSA] at hsb2 hnd
      rw [HSS.out] at hsb
      rw [hT, hz0, hez] at hnd
      rw [hz0, hez, hT] at tb1
      rw [hT] at tb2
      have HSA := Lib.hid hSA
      obtain ⟨sa1, sa2⟩ := hsb2
      obtain ⟨S', hS'⟩ : ∃ S', S + A = S' := ⟨_, rfl⟩
      rw [hS'] at hnd sa1 sa2 HSA
      have hwS : IntKind.i64.wrap (S + A) = S' := by rw [hS']; exact IntWalk.i64_in _ ⟨by omega, by omega⟩
      have HTT := Lib.hid hT
      have HSG := Lib.hid hs
      have HEB := Lib.hid hok.endS
      obtain ⟨g1, g2⟩ := hok.bg
      obtain ⟨g3, g4⟩ := hok.ld
      obtain ⟨g5, g6⟩ := hok.ln
      obtain ⟨g7, g8⟩ := hok.en
      obtain ⟨z1, z2⟩ := hokz.bg
      obtain ⟨z3, z4⟩ := hokz.ld
      have HCL := Lib.hid (seg_cells s wr)
      rw [← hbw.cell (p := ⟨b, off + k * 7, none⟩) hlt] at d0
      rw [← hbw.cell (p := ⟨b, off + k * 7 + 1, none⟩) hlt] at d1
      rw [← hbw.cell (p := ⟨b, off + k * 7 + 2, none⟩) hlt] at d2
      rw [← hbw.cell (p := ⟨b, off + k * 7 + 3, none⟩) hlt] at d3
      rw [← hbw.cell (p := ⟨b, off + k * 7 + 4, none⟩) hlt] at d4
      rw [← hbw.cell (p := ⟨b, off + k * 7 + 5, none⟩) hlt] at d5
      rw [← hbw.cell (p := ⟨b, off + k * 7 + 6, none⟩) hlt] at d6
      rw [← hbw.cell (p := ⟨b, off + 3, none⟩) hlt] at y3
      rw [← hbw.cell (p := ⟨b, off + 6, none⟩) hlt] at y6
      obtain ⟨x0, hx0⟩ : ∃ x0, z.bg = x0 := ⟨_, rfl⟩
      obtain ⟨x1, hx1⟩ : ∃ x1, z.ld = x1 := ⟨_, rfl⟩
      rw [hx0] at y3 z1 z2 hnd tb1
      rw [hx1] at y6 z3 z4 hnd tb1
      clear hs hz0 hok hokz hez hT hA hSA hS' hx0 hx1 hsb
      have hltr : b < wr.heap.size := Nat.lt_of_lt_of_le hlt hbw.size
      obtain ⟨no, fr, te, bg, ln, by_, ld⟩ := s
      simp only at d0 d1 d2 d3 d4 d5 d6 HCL g1 g2 g3 g4 g5 g6 g7 g8 HEB
      obtain ⟨e0, e1, e2, e3, e4, e5, e6⟩ := HCL.out
      clear HCL
      go_upto_region 10 with fail
      have hWb : Below w1.heap.size w1 (wr.alloc (.cells #[.int .i64 no, .int .i64 fr, .int .i64 te, .int .i64 bg, .int .i64 ln, .int .i64 by_, .int .i64 ld] 45)) := hbel.alloc hbel.size _
      have y3' : (wr.alloc (.cells #[.int .i64 no, .int .i64 fr, .int .i64 te, .int .i64 bg, .int .i64 ln, .int .i64 by_, .int .i64 ld] 45)).cell? ⟨b, off + 3, none⟩ = some (.int .i64 x0) := by rw [World.cell?_alloc_past _ _ _ hltr]; exact y3
      have y6' : (wr.alloc (.cells #[.int .i64 no, .int .i64 fr, .int .i64 te, .int .i64 bg, .int .i64 ln, .int .i64 by_, .int .i64 ld] 45)).cell? ⟨b, off + 6, none⟩ = some (.int .i64 x1) := by rw [World.cell?_alloc_past _ _ _ hltr]; exact y6
      generalize wr.alloc (.cells #[.int .i64 no, .int .i64 fr, .int .i64 te, .int .i64 bg, .int .i64 ln, .int .i64 by_, .int .i64 ld] 45) = W at *
      generalize wr.heap.size = R at *
      have i0 : (0 : Int) ≤ (k : Int) + 1 := by omega
      have i2 : ((k : Int) + 1).toNat = k + 1 := by omega
      have i4 : IntKind.i64.wrap ((k : Int) + 1) = (k : Int) + 1 := IntWalk.i64_in _ ⟨by omega, by omega⟩
      clear d0 d1 d2 d3 d4 d5 d6 y3 y6 da
      by_cases hlast : k + 1 < n
      · obtain ⟨s', hs'⟩ : ∃ s', ls.getD (k + 1) seg0 = s' := ⟨_, rfl⟩
        obtain ⟨-, -, -, q3, -, -, q6⟩ := HC.out (k + 1) hlast
        rw [hs'] at q3 q6
        have hWw := b1.trans (hWb.mono b1.size)
        rw [← hWw.cell (p := ⟨b, off + (k + 1) * 7 + 3, none⟩) hlt] at q3
        rw [← hWw.cell (p := ⟨b, off + (k + 1) * 7 + 6, none⟩) hlt] at q6
        have hok' := HT.out.ok (k + 1) (by rw [HZ.out]; exact hlast)
        rw [hs'] at hok'
        have hTe : T = s'.bg + s'.ld := by rw [← HTT.out, endAt, HZ.out, if_pos hlast, hs', hok'.bnd]
        obtain ⟨v1, v2⟩ := hok'.bg
        obtain ⟨v3, v4⟩ := hok'.ld
        obtain ⟨p0, hp0⟩ : ∃ p0, s'.bg = p0 := ⟨_, rfl⟩
        obtain ⟨p1, hp1⟩ : ∃ p1, s'.ld = p1 := ⟨_, rfl⟩
        rw [hp0] at q3 v1 v2 hTe
        rw [hp1] at q6 v3 v4 hTe
        have i1 : (k : Int) + 1 < (n : Int) := by omega
        have hwT : IntKind.i64.wrap (p0 + p1) = p0 + p1 := IntWalk.i64_in _ ⟨by omega, by omega⟩
        clear hs' hok' hp0 hp1
        have hTe2 : T ≤ p0 + p1 := by omega
        have hTe3 : p0 + p1 ≤ T := by omega
        clear hTe
        go_upto_region 12 with fail
        go_quiet (fail)
        have hWb := below_drewN hWb nq
        have y3' : (W.drewN nq).cell? ⟨b, off + 3, none⟩ = some (.int .i64 x0) := y3'
        have y6' : (W.drewN nq).cell? ⟨b, off + 6, none⟩ = some (.int .i64 x1) := y6'
        clear q3 q6 hwT hWw e0 e1 e2 e3 e4 e5 e6
        generalize W.drewN nq = W at *

        have t1 : IntKind.i64.wrap ((p0 + p1) - x0) = (p0 + p1) - x0 := IntWalk.i64_in _ ⟨by omega, by omega⟩
        have t2 : IntKind.i64.wrap ((p0 + p1) - x0 - x1) = (p0 + p1) - x0 - x1 := IntWalk.i64_in _ ⟨by omega, by omega⟩
        go_upto_region 13 with fail
        go_quiet (fail)
        clear t1 t2
        obtain ⟨tk, htk⟩ : ∃ tk, (p0 + p1) - x0 - x1 = tk := ⟨_, rfl⟩
        have tk1 : 0 ≤ tk := by omega
        have tk2 : tk ≤ 3000000000000000 := by omega
        have hnd2 : -sc ≤ S' * sc - tk * 1000 ∧ S' * sc - tk * 1000 ≤ sc := by rw [← htk, show (p0 + p1) - x0 - x1 = T - (x0 + x1) by omega]; exact hnd
        rw [htk]
        clear htk
        have hbq : Below w1.heap.size w1 (W.drewN nq) := below_drewN hWb nq
        generalize W.drewN nq = wq at *
        by_cases hb1 : 1000000 < sc
        · go_wp2_with fail
          go_roundw
          case rel => exact ⟨k + 1, S', by omega, by go_num, rfl, hbq, HSA⟩
          case measure => simp [intOf]; omega
        · have hd1 : decide (1000000 < sc) = false := by simp; omega
          by_cases hb2 : 1000000000000 < tk
          · go_wp2_with fail
            go_roundw
            case rel => exact ⟨k + 1, S', by omega, by go_num, rfl, hbq, HSA⟩
            case measure => simp [intOf]; omega
          · have hd2 : decide (1000000000000 < tk) = false := by simp; omega
            obtain ⟨M, hM⟩ : ∃ M, S' * sc = M := ⟨_, rfl⟩
            rw [hM] at hnd2
            obtain ⟨m1, m2⟩ := hnd2
            have hwM : IntKind.i64.wrap (S' * sc) = M := by rw [hM]; exact IntWalk.i64_in _ ⟨by omega, by omega⟩
            have hd3 : decide (sc < M - tk * 1000) = false := by simp; omega
            have hd4 : decide (M - tk * 1000 < -sc) = false := by simp; omega
            have hwD : IntKind.i64.wrap (M - tk * 1000) = M - tk * 1000 := IntWalk.i64_in _ ⟨by omega, by omega⟩
            clear hM
            go_wp2_with fail
            go_roundw
            case rel => exact ⟨k + 1, S', by omega, by go_num, rfl, hbq, HSA⟩
            case measure => simp [intOf]; omega
      · have hTe : T = bg + ld + ln := by rw [← HTT.out, endAt, HZ.out, if_neg hlast, HSG.out]; exact HEB.out
        have hl1 : decide (k + 1 < n) = false := by simp; omega
        have hl2 : decide ((k : Int) + 1 < (n : Int)) = false := by simp; omega
        have hTe2 : T ≤ bg + ld + ln := by omega
        have hTe3 : bg + ld + ln ≤ T := by omega
        clear hTe
        have t1 : IntKind.i64.wrap ((bg + ld + ln) - x0) = (bg + ld + ln) - x0 := IntWalk.i64_in _ ⟨by omega, by omega⟩
        have t2 : IntKind.i64.wrap ((bg + ld + ln) - x0 - x1) = (bg + ld + ln) - x0 - x1 := IntWalk.i64_in _ ⟨by omega, by omega⟩
        go_upto_region 13 with fail
        go_quiet (fail)
        clear t1 t2
        obtain ⟨tk, htk⟩ : ∃ tk, (bg + ld + ln) - x0 - x1 = tk := ⟨_, rfl⟩
        have tk1 : 0 ≤ tk := by omega
        have tk2 : tk ≤ 3000000000000000 := by omega
        have hnd2 : -sc ≤ S' * sc - tk * 1000 ∧ S' * sc - tk * 1000 ≤ sc := by rw [← htk, show (bg + ld + ln) - x0 - x1 = T - (x0 + x1) by omega]; exact hnd
        rw [htk]
        clear htk
        have hbq : Below w1.heap.size w1 (W.drewN nq) := below_drewN hWb nq
        generalize W.drewN nq = wq at *
        by_cases hb1 : 1000000 < sc
        · go_wp2_with fail
          go_roundw
          case rel => exact ⟨k + 1, S', by omega, by go_num, rfl, hbq, HSA⟩
          case measure => simp [intOf]; omega
        · have hd1 : decide (1000000 < sc) = false := by simp; omega
          by_cases hb2 : 1000000000000 < tk
          · go_wp2_with fail
            go_roundw
            case rel => exact ⟨k + 1, S', by omega, by go_num, rfl, hbq, HSA⟩
            case measure => simp [intOf]; omega
          · have hd2 : decide (1000000000000 < tk) = false := by simp; omega
            obtain ⟨M, hM⟩ : ∃ M, S' * sc = M := ⟨_, rfl⟩
            rw [hM] at hnd2
            obtain ⟨m1, m2⟩ := hnd2
            have hwM : IntKind.i64.wrap (S' * sc) = M := by rw [hM]; exact IntWalk.i64_in _ ⟨by omega, by omega⟩
            have hd3 : decide (sc < M - tk * 1000) = false := by simp; omega
            have hd4 : decide (M - tk * 1000 < -sc) = false := by simp; omega
            have hwD : IntKind.i64.wrap (M - tk * 1000) = M - tk * 1000 := IntWalk.i64_in _ ⟨by omega, by omega⟩
            clear hM
            go_wp2_with fail
            go_roundw
            case rel => exact ⟨k + 1, S', by omega, by go_num, rfl, hbq, HSA⟩
            case measure => simp [intOf]; omega
    · have hkn : k = n := by omega
      subst hkn
      have hlt' : decide (k < k) = false := by simp
      clear hlt2
      go_wp2_with fail
      refine (awake4_any _).mono ?_; rintro e w7 ⟨rfl, b7⟩
      go_wp2_with fail
      go_ret
      exact ⟨rfl, hbw.trans (b7.mono hbw.size)⟩
theorem millislaw (v : Value) (ls : List Seg) (sc : Int) (w : World) (h : Segs w v ls) :
    Calls Try.prog 8 #[v, .int .i64 sc] w fun e w' => e = .returned (.bool true) ∧ Below w.heap.size w w' := by
  obtain ⟨g, hg⟩ : ∃ g, milF ls sc = g := ⟨_, rfl⟩
  have HG := Lib.hid hg
  obtain ⟨a, cap, rfl⟩ := h.parts
  have hmx := h.max.2
  by_cases h0 : g = 0
  · subst h0
    by_cases hl0 : ls.length = 0
    · have he : ls = [] := List.length_eq_zero_iff.1 hl0
      subst he
      have HR : Hid (milR [] sc = []) := Lib.hid (by rw [milR, hg, if_pos rfl]; rfl)
      have HS := Lib.hid h
      clear hg hl0 h
      go_enter Try.func8, Try.ntmps8
      go_wp2_with fail
      refine (millis_any _ [] sc _ HS.out).mono ?_; rintro e w1 ⟨⟨u, rfl, n1⟩, b1⟩
      rw [HG.out]; rw [HR.out] at n1
      obtain ⟨a1, c1, rfl, -⟩ := n1.parts
      clear n1
      go_wp2_with fail
      refine wp_loop_rounds 1 ?_
      rw [rounds_succ]
      go_wp2_with fail
      refine (awake4_any _).mono ?_; rintro e w7 ⟨rfl, b7⟩
      go_wp2_with fail
      go_ret
      exact ⟨rfl, b1.trans (b7.mono b1.size)⟩
    · rcases h with ⟨a', c', hv, h1⟩ | ⟨b, off, cap', hv, hne, hlt, hl, hm, hc⟩
      · exact absurd h1 hl0
      · simp only [Value.slice.injEq] at hv
        obtain ⟨rfl, -, rfl⟩ := hv
        exact millislaw_walk b off _ cap ls sc w rfl hne hlt hg (.inr ⟨b, off, cap, rfl, hne, hlt, hl, hm, hc⟩)
  · have HR : Hid (milR ls sc = []) := Lib.hid (by rw [milR, hg, if_neg h0])
    have HS := Lib.hid h
    have hb : (g == 0) = false := by simp [h0]
    clear hg h h0
    go_enter Try.func8, Try.ntmps8
    go_wp2_with fail
    refine (millis_any _ ls sc _ HS.out).mono ?_; rintro e w1 ⟨⟨u, rfl, n1⟩, b1⟩
    rw [HG.out]; rw [HR.out] at n1
    obtain ⟨a1, c1, rfl, -⟩ := n1.parts
    clear n1
    go_wp2_with fail
    refine (awake4_any _).mono ?_; rintro e w7 ⟨rfl, b7⟩
    go_wp2_with fail
    go_ret
    exact ⟨rfl, b1.trans (b7.mono b1.size)⟩

end Go.Proofs.Ytgbdmgmbdjajeaa
