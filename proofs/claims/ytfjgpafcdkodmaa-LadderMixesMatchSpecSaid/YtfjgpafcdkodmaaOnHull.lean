/- The reference's lowest, OnHull. -/
import Derived.Test.YtfjgpafcdkodmaaMixPlain
import Derived.Test.YtfjgpafcdkodmaaPeak0
import Derived.Test.YtfjgpafcdkodmaaLow
namespace Go.Proofs.Ytfjgpafcdkodmaa
set_option linter.unusedVariables false
set_option linter.unusedSimpArgs false
open Go.RowKit Go.Shelf Go.Deep

theorem Four.other {W : World} {X Y i : Nat} {r : Rung} {v : Value} (h : Four W X r) (hn : X ≠ Y) : Four (W.setCell ⟨Y, i, none⟩ v) X r := by
  refine ⟨by simpa using h.lt, ?_, ?_, ?_, ?_⟩
  · rw [World.cell?_setCell_far _ _ _ _ (by show Y ≠ X; omega)]; exact h.c0
  · rw [World.cell?_setCell_far _ _ _ _ (by show Y ≠ X; omega)]; exact h.c1
  · rw [World.cell?_setCell_far _ _ _ _ (by show Y ≠ X; omega)]; exact h.c2
  · rw [World.cell?_setCell_far _ _ _ _ (by show Y ≠ X; omega)]; exact h.c3
set_option maxRecDepth 100000 in
set_option maxHeartbeats 2000000 in
theorem rlow_any (n d : Int) (w : World) (h0 : 0 ≤ n) (h1 : n ≤ 4611686018427387904) (d0 : 0 < d) (d1 : d ≤ 4611686018427387904) :
    Calls Try.prog 74 #[.int .i64 n, .int .i64 d] w fun e w' => e = .returned (.agg #[.int .i64 (n / gcdI n d), .int .i64 (d / gcdI n d)]) ∧ Below w.heap.size w w' := by
  have hg0 := gcdI_pos (a := n) d0
  have hg1 := gcdI_le (a := n) d0
  have q1 := div_nn hg0 h0
  have q2 := div_nn hg0 (Int.le_of_lt d0)
  obtain ⟨G, hG⟩ : ∃ G, gcdI n d = G := ⟨_, rfl⟩
  rw [hG] at hg0 hg1 q1 q2 ⊢
  have HG := Lib.hid hG
  clear hG
  obtain ⟨A, hA⟩ : ∃ A, n / G = A := ⟨_, rfl⟩
  obtain ⟨B, hB⟩ : ∃ B, d / G = B := ⟨_, rfl⟩
  rw [hA] at q1 ⊢
  rw [hB] at q2 ⊢
  have wA : IntKind.i64.wrap (n / G) = A := by rw [hA]; exact IntWalk.i64_in _ ⟨by omega, by omega⟩
  have wB : IntKind.i64.wrap (d / G) = B := by rw [hB]; exact IntWalk.i64_in _ ⟨by omega, by omega⟩
  have wA' : IntKind.i64.wrap (n.tdiv G) = A := by rw [tdiv_pos _ _ h0]; exact wA
  have wB' : IntKind.i64.wrap (d.tdiv G) = B := by rw [tdiv_pos _ _ (by omega)]; exact wB
  have gz : (G == 0) = false := by simp; omega
  clear hA hB
  go_enter Try.func74, Try.ntmps74
  go_wp2_with fail
  go_loopw [5, 6] (fun v5 v6 wr => ∃ c r : Int, 0 ≤ c ∧ c ≤ 4611686018427387904 ∧ 0 ≤ r ∧ r ≤ 4611686018427387904 ∧ v5 = .int .i64 c ∧ v6 = .int .i64 r ∧ Hid (gcdI c r = G) ∧ Below (w.heap.size + 1) (w.alloc (.cells #[.int .i64 0, .int .i64 0] 49)) wr) (fun _ v _ => (intOf v).toNat)
  case atStart => exact ⟨n, d, h0, h1, by omega, d1, rfl, rfl, HG, Below.refl _ _⟩
  case round =>
    obtain ⟨c, r, c0, c1, r0, r1, rfl, rfl, HC, hbel⟩ := hrel
    by_cases hr : r = 0
    · subst hr
      have hcG : c = G := by rw [← HC.out, gcdI_zero c c0]
      subst hcG
      obtain ⟨k0, k1, f0, f1, hb⟩ := ratio_cells hbel
      go_upto_region 4 with fail
      go_region
      all_goals
        go_wp2_with fail
        refine bodyPost_ret (by simp [results, Try.results74, go_sem, k0, k1]; try rfl) rfl ?_
        exact ⟨rfl, ((hb.setCell (p := ⟨w.heap.size, 0, none⟩) (Nat.le_refl _) _).setCell (p := ⟨w.heap.size, 1, none⟩) (Nat.le_refl _) _).drew⟩
    · have hr2 : 0 < r := by omega
      obtain ⟨m0, m1, m2⟩ := gcd_rest hr2 c0
      have HS : Hid (gcdI r (c % r) = G) := Lib.hid (by rw [gcdI_step]; exact HC.out)
      have rz : (r == 0) = false := by simp; omega
      have rz2 : (r != 0) = true := by simp; omega
      clear m2 hr
      go_upto_region 3 with fail
      go_quiet (fail)
      go_wp2_with fail
      go_roundw
      case rel => exact ⟨r, c % r, by omega, r1, m0, by omega, rfl, rfl, HS, below_drewN hbel nq⟩
      case measure => simp [intOf]; omega
set_option maxRecDepth 100000 in
set_option maxHeartbeats 16000000 in
theorem onhull_walk (b off n cap g o m cp c : Nat) (rs : List Rung) (q X Y : Int) (B : Bool) (w : World) (hat : HullAt rs n m) (hct : HullCut rs m q c) (hon : OnOk rs m q c X Y B) (hm0 : 0 < m) (hm : m ≤ 100) (q0 : 0 ≤ q) (q1 : q ≤ 1000000000) (hb : b < w.heap.size) (hg : g < w.heap.size)
    (HOK : ∀ j, j < n → OkR (rs.getD j rung0)) (hge : ∀ i, i < m → w.cell? ⟨g, o + i, none⟩ = some (.int .i64 (hI rs i : Int))) (hS : Rungs w (.slice (some ⟨b, off, none⟩) n cap) rs) (hz : rs.length = n) :
    Calls Try.prog 33 #[.slice (some ⟨b, off, none⟩) n cap, .slice (some ⟨g, o, none⟩) m cp, .int .i64 q] w fun e w' => e = .returned (.tuple #[.agg #[.int .i64 X, .int .i64 Y], .bool B]) ∧ Below w.heap.size w w' := by
  have HAT := Lib.hid hat; have HCUT := Lib.hid hct; have HON := Lib.hid hon; have HGE := Lib.hid hge; have HO := Lib.hid HOK
  have HCE := Lib.hid (fun j (hj : j < n) => hS.cells j (by omega))
  have hcm := hct.le
  have T6 := (Two.new w 0 0 49).alloc (.cells #[.int .i64 0, .int .i64 0] 49)
  have T8 := Two.new (w.alloc (.cells #[.int .i64 0, .int .i64 0] 49)) 0 0 49
  have hs1 : (w.alloc (.cells #[.int .i64 0, .int .i64 0] 49)).heap.size = w.heap.size + 1 := by simp
  rw [hs1] at T8
  have hbel : Below w.heap.size w ((w.alloc (.cells #[.int .i64 0, .int .i64 0] 49)).alloc (.cells #[.int .i64 0, .int .i64 0] 49)) := ((Below.refl _ w).alloc (Nat.le_refl _) _).alloc (by simp) _
  clear hat hct hon hge HOK hS hz hs1
  go_enter Try.func33, Try.ntmps33
  go_wp2_with fail
  generalize (w.alloc (.cells #[.int .i64 0, .int .i64 0] 49)).alloc (.cells #[.int .i64 0, .int .i64 0] 49) = W0 at *
  go_loopw [9, 17] (fun v9 v17 wr => ∃ (k : Nat) (x y : Int) (ok : Bool), k ≤ c ∧ v17 = .int .i64 k ∧ v9 = .bool ok ∧ Two wr (w.heap.size + 1) x y ∧ Two wr w.heap.size 0 0 ∧ Hid (k = c → x = X ∧ y = Y ∧ ok = B) ∧ Below w.heap.size w wr) (fun _ v17 _ => m - (intOf v17).toNat)
  case atStart => exact ⟨0, 0, 0, false, by omega, rfl, rfl, T8, T6, Lib.hid (fun e => by obtain ⟨h1, h2, h3⟩ := HON.out.none e.symm; exact ⟨h1.symm, h2.symm, h3.symm⟩), hbel⟩
  case round =>
    clear T8 T6 hbel
    obtain ⟨k, x, y, ok, hk, rfl, rfl, T8, T6, HK, hbel⟩ := hrel
    have hkI : IntKind.i64.wrap ((k : Int) + 1) = (k : Int) + 1 := IntWalk.i64_in _ ⟨by omega, by omega⟩
    by_cases hkm : k < m
    rotate_left
    · have hkc : k = c := by omega
      obtain ⟨rfl, rfl, rfl⟩ := HK.out hkc
      have hlt' : decide (k < m) = false := by simp; omega
      have a0 := T8.c0; have a1 := T8.c1; have al := T8.lt
      have c0 := T6.c0; have c1 := T6.c1; have f0 := T6.f0; have f1 := T6.f1; have cl := T6.lt
      clear hkm hkc
      go_wp2_with fail
      refine bodyPost_ret (by simp [results, Try.results33, go_sem, c0, c1]; try rfl) rfl ?_
      exact ⟨rfl, (hbel.setCell (p := ⟨w.heap.size, 0, none⟩) (Nat.le_refl _) _).setCell (p := ⟨w.heap.size, 1, none⟩) (Nat.le_refl _) _⟩
    · obtain ⟨d, hd⟩ : ∃ d, hI rs k = d := ⟨_, rfl⟩
      have hdn := HAT.out.lt k hkm
      have eg := HGE.out k hkm
      rw [hd] at hdn eg
      obtain ⟨lo, hlo⟩ : ∃ lo, rs.getD d rung0 = lo := ⟨_, rfl⟩
      obtain ⟨y0, y1, y2, y3⟩ := HCE.out d hdn
      obtain ⟨-, ⟨la0, la1⟩, -, ⟨lq0, lq1⟩⟩ := HO.out d hdn
      rw [hlo] at y0 y1 y2 y3 la0 la1 lq0 lq1
      rw [← hbel.cell (p := ⟨g, o + k, none⟩) hg] at eg
      rw [← hbel.cell (p := ⟨b, off + d * 4, none⟩) hb] at y0
      rw [← hbel.cell (p := ⟨b, off + d * 4 + 1, none⟩) hb] at y1
      rw [← hbel.cell (p := ⟨b, off + d * 4 + 2, none⟩) hb] at y2
      rw [← hbel.cell (p := ⟨b, off + d * 4 + 3, none⟩) hb] at y3
      have HLO : Hid (rs.getD (hI rs k) rung0 = lo) := Lib.hid (by rw [hd, hlo])
      have i0 : (0 : Int) ≤ (d : Int) := by omega
      have i1 : (d : Int) < (n : Int) := by omega
      have FX := Four.new wr lo 37
      have T8 := T8.alloc (.cells #[.string lo.nm, .int .i64 lo.ra, .int .i64 lo.he, .int .i64 lo.qu] 37)
      have T6 := T6.alloc (.cells #[.string lo.nm, .int .i64 lo.ra, .int .i64 lo.he, .int .i64 lo.qu] 37)
      have hbel := hbel.alloc (o := .cells #[.string lo.nm, .int .i64 lo.ra, .int .i64 lo.he, .int .i64 lo.qu] 37) hbel.size
      have hXs : w.heap.size + 1 < wr.heap.size := by have h5 := ‹Two wr (w.heap.size + 1) x y›; exact h5.lt
      clear hd hlo
      go_upto_region 6 with fail
      generalize wr.alloc (.cells #[.string lo.nm, .int .i64 lo.ra, .int .i64 lo.he, .int .i64 lo.qu] 37) = W at *
      generalize wr.heap.size = XB at *
      have d1 := FX.c1; have d3 := FX.c3; have dl := FX.lt
      clear y0 y1 y2 y3 eg
      by_cases hkc : k < c
      rotate_left
      · have hkc2 : k = c := by omega
        have hh := HCUT.out.high k (by omega) hkm
        rw [HLO.out] at hh
        obtain ⟨rfl, rfl, rfl⟩ := HK.out hkc2
        have a0 := T8.c0; have a1 := T8.c1; have al := T8.lt
        have c0 := T6.c0; have c1 := T6.c1; have f0 := T6.f0; have f1 := T6.f1; have cl := T6.lt
        clear hkc hkc2
        go_wp2_with fail
        refine bodyPost_ret (by simp [results, Try.results33, go_sem, c0, c1]; try rfl) rfl ?_
        exact ⟨rfl, (hbel.setCell (p := ⟨w.heap.size, 0, none⟩) (Nat.le_refl _) _).setCell (p := ⟨w.heap.size, 1, none⟩) (Nat.le_refl _) _⟩
      · have hh := HCUT.out.low k hkc
        rw [HLO.out] at hh
        have hh2 : decide (q < lo.ra) = false := by simp; omega
        have a0 := T8.c0; have a1 := T8.c1; have al := T8.lt; have a2 := T8.f0; have a3 := T8.f1
        clear hh HK
        go_upto_region 8 with fail
        have T8 := T8.set (x' := lo.qu) (y' := 1)
        have T6 := (T6.other (Y := w.heap.size + 1) (i := 0) (v := .int .i64 lo.qu) (by omega)).other (Y := w.heap.size + 1) (i := 1) (v := .int .i64 1) (by omega)
        have FX := (FX.other (Y := w.heap.size + 1) (i := 0) (v := .int .i64 lo.qu) (by omega)).other (Y := w.heap.size + 1) (i := 1) (v := .int .i64 1) (by omega)
        have hbel := (hbel.setCell (p := ⟨w.heap.size + 1, 0, none⟩) (Nat.le_add_right _ _) (.int .i64 lo.qu)).setCell (p := ⟨w.heap.size + 1, 1, none⟩) (Nat.le_add_right _ _) (.int .i64 1)
        clear d1 d3 dl a0 a1 al a2 a3 hh2
        generalize (W.setCell ⟨w.heap.size + 1, 0, none⟩ (.int .i64 lo.qu)).setCell ⟨w.heap.size + 1, 1, none⟩ (.int .i64 1) = W2 at *
        by_cases hk1 : k + 1 < m
        rotate_left
        · have hk2 : k + 1 = m := by omega
          have t1 : decide ((k : Int) + 1 < (m : Int)) = false := by simp; omega
          have HN : Hid (k + 1 = c → lo.qu = X ∧ (1 : Int) = Y ∧ true = B) := Lib.hid (fun e => by
            obtain ⟨h1, h2, h3⟩ := HON.out.last (by omega) (by omega)
            rw [show c - 1 = k by omega, HLO.out] at h1
            exact ⟨h1.symm, h2.symm, h3.symm⟩)
          clear hk1 hk2
          go_wp2_with fail
          go_roundw
          case rel => exact ⟨k + 1, lo.qu, 1, true, by omega, by go_num, rfl, T8, T6, HN, hbel⟩
          case measure => simp [intOf]; omega
        · obtain ⟨f, hf⟩ : ∃ f, hI rs (k + 1) = f := ⟨_, rfl⟩
          have hfn := HAT.out.lt (k + 1) hk1
          have ef := HGE.out (k + 1) hk1
          obtain ⟨u1, u2⟩ := HAT.out.up (k + 1) (by omega) hk1
          rw [Nat.add_sub_cancel, HLO.out] at u1 u2
          have hlow := HCUT.out.low (k + 1)
          have hhigh := HCUT.out.high (k + 1)
          rw [hf] at hfn ef u1 u2 hlow hhigh
          obtain ⟨hi, hhi⟩ : ∃ hi, rs.getD f rung0 = hi := ⟨_, rfl⟩
          obtain ⟨-, ⟨ha0, ha1⟩, -, ⟨hq0, hq1⟩⟩ := HO.out f hfn
          obtain ⟨z0, z1, z2, z3⟩ := HCE.out f hfn
          rw [hhi] at z0 z1 z2 z3 u1 u2 hlow hhigh ha0 ha1 hq0 hq1
          rw [← hbel.cell (p := ⟨g, o + (k + 1), none⟩) hg] at ef
          rw [← hbel.cell (p := ⟨b, off + f * 4, none⟩) hb] at z0
          rw [← hbel.cell (p := ⟨b, off + f * 4 + 1, none⟩) hb] at z1
          rw [← hbel.cell (p := ⟨b, off + f * 4 + 2, none⟩) hb] at z2
          rw [← hbel.cell (p := ⟨b, off + f * 4 + 3, none⟩) hb] at z3
          have HHI : Hid (rs.getD (hI rs (k + 1)) rung0 = hi) := Lib.hid (by rw [hf, hhi])
          have t1 : decide ((k : Int) + 1 < (m : Int)) = true := by simp; omega
          have t2 : (k : Int) + 1 < (m : Int) := by omega
          have t3 : (0 : Int) ≤ (k : Int) + 1 := by omega
          have t4 : ((k : Int) + 1).toNat = k + 1 := by omega
          have i2 : (0 : Int) ≤ (f : Int) := by omega
          have i3 : (f : Int) < (n : Int) := by omega
          clear hf hhi
          by_cases hc1 : k + 1 < c
          · have h5 := hlow hc1
            have h6 : decide (q < hi.ra) = false := by simp; omega
            have HN : Hid (k + 1 = c → lo.qu = X ∧ (1 : Int) = Y ∧ true = B) := Lib.hid (fun e => by omega)
            clear hlow hhigh h5
            go_wp2_with fail
            go_roundw
            case rel => exact ⟨k + 1, lo.qu, 1, true, by omega, by go_num, rfl, T8, T6, HN, hbel⟩
            case measure => simp [intOf]; omega
          · have hc2 : k + 1 = c := by omega
            have h5 := hhigh (by omega) hk1
            have hlq := HCUT.out.low k hkc
            rw [HLO.out] at hlq
            obtain ⟨eX, eY, eB⟩ := HON.out.mid (by omega) (by omega)
            rw [← hc2, Nat.add_sub_cancel, HLO.out, HHI.out] at eX eY
            unfold mixN at eX eY
            obtain ⟨P1, hP1⟩ : ∃ P1, lo.qu * (hi.ra - q) = P1 := ⟨_, rfl⟩
            obtain ⟨P2, hP2⟩ : ∃ P2, hi.qu * (q - lo.ra) = P2 := ⟨_, rfl⟩
            rw [hP1, hP2] at eX eY
            have bp1 := mul_range (x := lo.qu) (y := hi.ra - q) (a := 1000000) (b := 1000000000) lq0 lq1 (by omega) (by omega)
            have bp2 := mul_range (x := hi.qu) (y := q - lo.ra) (a := 1000000) (b := 1000000000) hq0 hq1 (by omega) (by omega)
            rw [hP1] at bp1
            rw [hP2] at bp2
            obtain ⟨p0, p1⟩ := bp1
            obtain ⟨p2, p3⟩ := bp2
            have w1 : IntKind.i64.wrap (lo.qu * (hi.ra - q)) = P1 := by rw [hP1]; exact IntWalk.i64_in _ ⟨by omega, by omega⟩
            have w2 : IntKind.i64.wrap (hi.qu * (q - lo.ra)) = P2 := by rw [hP2]; exact IntWalk.i64_in _ ⟨by omega, by omega⟩
            have EX := Lib.hid eX; have EY := Lib.hid eY; have EB := Lib.hid eB
            have FY := Four.new W2 hi 37
            have FX2 := FX.alloc (.cells #[.string hi.nm, .int .i64 hi.ra, .int .i64 hi.he, .int .i64 hi.qu] 37)
            have T82 := T8.alloc (.cells #[.string hi.nm, .int .i64 hi.ra, .int .i64 hi.he, .int .i64 hi.qu] 37)
            have T62 := T6.alloc (.cells #[.string hi.nm, .int .i64 hi.ra, .int .i64 hi.he, .int .i64 hi.qu] 37)
            have hbel2 := hbel.alloc (o := .cells #[.string hi.nm, .int .i64 hi.ra, .int .i64 hi.he, .int .i64 hi.qu] 37) hbel.size
            have hc3 : k + 1 ≤ c := by omega
            have hc4 : c ≤ k + 1 := by omega
            clear hP1 hP2 eX eY eB hlow hhigh hc1 T8 T6 FX hc2
            go_upto_region 10 with fail
            generalize W2.alloc (.cells #[.string hi.nm, .int .i64 hi.ra, .int .i64 hi.he, .int .i64 hi.qu] 37) = W3 at *
            generalize W2.heap.size = YB at *
            have d1 := FX2.c1; have d3 := FX2.c3; have dl := FX2.lt
            have g1 := FY.c1; have g3 := FY.c3; have gl := FY.lt
            clear z0 z1 z2 z3 ef
            go_wp2_with fail
            refine (rlow_any (P1 + P2) (hi.ra - lo.ra) _ (by omega) (by omega) (by omega) (by omega)).mono ?_; rintro e w9 ⟨rfl, b9⟩
            rw [← EX.out, ← EY.out]
            have T83 := T82.below b9 T82.lt
            have T63 := T62.below b9 T62.lt
            have hbel3 := hbel2.trans (b9.mono hbel2.size)
            clear T82 T62 hbel2 d1 d3 dl g1 g3 gl b9
            have a0 := T83.c0; have a1 := T83.c1; have al := T83.lt; have a2 := T83.f0; have a3 := T83.f1
            go_wp2_with fail
            go_roundw
            case rel => exact ⟨k + 1, X, Y, true, by omega, by go_num, rfl, T83.set, (T63.other (Y := w.heap.size + 1) (i := 0) (v := .int .i64 X) (by omega)).other (Y := w.heap.size + 1) (i := 1) (v := .int .i64 Y) (by omega), Lib.hid (fun _ => ⟨rfl, rfl, EB.out.symm⟩), (hbel3.setCell (p := ⟨w.heap.size + 1, 0, none⟩) (Nat.le_add_right _ _) (.int .i64 X)).setCell (p := ⟨w.heap.size + 1, 1, none⟩) (Nat.le_add_right _ _) (.int .i64 Y)⟩
            case measure => simp [intOf]; omega
set_option maxHeartbeats 1000000 in
theorem onhull_none (u : Value) (a : Option Addr) (cap : Nat) (q : Int) (w : World) :
    Calls Try.prog 33 #[u, .slice a 0 cap, .int .i64 q] w fun e w' => e = .returned (.tuple #[.agg #[.int .i64 0, .int .i64 0], .bool false]) ∧ Below w.heap.size w w' := by
  have T6 := (Two.new w 0 0 49).alloc (.cells #[.int .i64 0, .int .i64 0] 49)
  have T8 := Two.new (w.alloc (.cells #[.int .i64 0, .int .i64 0] 49)) 0 0 49
  have hs1 : (w.alloc (.cells #[.int .i64 0, .int .i64 0] 49)).heap.size = w.heap.size + 1 := by simp
  rw [hs1] at T8
  have hbel : Below w.heap.size w ((w.alloc (.cells #[.int .i64 0, .int .i64 0] 49)).alloc (.cells #[.int .i64 0, .int .i64 0] 49)) := ((Below.refl _ w).alloc (Nat.le_refl _) _).alloc (by simp) _
  clear hs1
  go_enter Try.func33, Try.ntmps33
  go_wp2_with fail
  generalize (w.alloc (.cells #[.int .i64 0, .int .i64 0] 49)).alloc (.cells #[.int .i64 0, .int .i64 0] 49) = W0 at *
  have a0 := T8.c0; have a1 := T8.c1; have al := T8.lt
  have c0 := T6.c0; have c1 := T6.c1; have f0 := T6.f0; have f1 := T6.f1; have cl := T6.lt
  refine wp_loop_rounds 1 ?_
  rw [rounds_succ]
  go_wp2_with fail
  refine bodyPost_ret (by simp [results, Try.results33, go_sem, c0, c1]; try rfl) rfl ?_
  exact ⟨rfl, (hbel.setCell (p := ⟨w.heap.size, 0, none⟩) (Nat.le_refl _) _).setCell (p := ⟨w.heap.size, 1, none⟩) (Nat.le_refl _) _⟩

end Go.Proofs.Ytfjgpafcdkodmaa
