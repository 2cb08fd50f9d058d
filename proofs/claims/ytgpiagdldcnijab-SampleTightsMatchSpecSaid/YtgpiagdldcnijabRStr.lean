/- Straight of the reference of package sample. -/
import Derived.Test.YtgpiagdldcnijabRMoved
import Derived.Test.YtgpiagdldcnijabRRegAny
import Derived.Test.YtgpiagdldcnijabPres
import Derived.BigRegion
import Derived.Deep.RegionHeld3
import Derived.Deep.RegionWith
import Derived.Deep.DeepCutAuto
import Derived.Deep.CutBlock
namespace Go.Proofs.Ytgpiagdldcnijab
set_option linter.unusedVariables false
set_option linter.unusedSimpArgs false
open Go.RowKit Go.Deep

theorem present_any (t s h z : Int) (kk : Bool) (w : World) (o0 : -2000000000000000 ≤ t) (o1 : t ≤ 2000000000000000) (o2 : -2000000000000000 ≤ h) (o3 : h ≤ 2000000000000000) :
    Calls Try.prog 99 #[.agg #[.int .i64 t, .int .i64 s, .int .i64 h, .int .i64 z, .bool kk]] w fun e w' => e = .returned (.int .i64 (t + h)) ∧ Below w.heap.size w w' := by
  go_enter Try.func99, Try.ntmps99
  go_wp2_with fail
  try go_quiet (fail)
  go_wp2_with fail
  go_ret
  exact ⟨rfl, by first | exact (Below.refl _ _).alloc (Nat.le_refl _) _ | exact below_drewN ((Below.refl _ _).alloc (Nat.le_refl _) _) _⟩

set_option maxHeartbeats 1000000 in
theorem right_any (v : Value) (ss : List Smp) (w : World) (h : Smps w v ss) :
    Calls Try.prog 91 #[v] w fun e w' => (∃ u, e = .returned (.tuple #[u, .int .i64 (chkF ss)]) ∧ Smps w' u (if chkF ss = 0 then ss else [])) ∧ Below w.heap.size w w' := by
  obtain ⟨x, hx⟩ : ∃ x, chkF ss = x := ⟨_, rfl⟩
  by_cases h0 : x = 0
  · subst h0
    have HX := Lib.hid hx
    rw [hx, if_pos rfl]
    clear hx
    go_enter Try.func91, Try.ntmps91
    go_wp2_with fail
    refine (rchk_any _ ss _ h).mono ?_; rintro e w1 ⟨rfl, b1⟩
    rw [HX.out]
    go_wp2_with fail
    go_ret2
    exact ⟨⟨_, rfl, h.below b1 (Nat.le_refl _)⟩, b1⟩
  · have HX := Lib.hid hx
    rw [hx, if_neg h0]
    have hb : (x == 0) = false := by simp [h0]
    clear hx
    go_enter Try.func91, Try.ntmps91
    go_wp2_with fail
    refine (rchk_any _ ss _ h).mono ?_; rintro e w1 ⟨rfl, b1⟩
    rw [HX.out]
    go_wp2_with fail
    go_ret2
    exact ⟨⟨_, rfl, .nil _⟩, b1⟩

set_option maxRecDepth 100000 in
set_option maxHeartbeats 8000000 in
theorem rtimes_walk (b off n cap : Nat) (ss : List Smp) (step slack : Int) (w : World) (hz : ss.length = n) (hn0 : 0 < n) (hlt : b < w.heap.size) (g : Good ss) (hS : Smps w (.slice (some ⟨b, off, none⟩) n cap) ss) :
    Calls Try.prog 42 #[.slice (some ⟨b, off, none⟩) n cap, .int .i64 step, .int .i64 slack] w fun e w' => (∃ u, e = .returned (.tuple #[u, .int .i64 (strF ss (regF (timesL ss) step slack) (regL (timesL ss) step slack))]) ∧ Smps w' u (strR ss (regF (timesL ss) step slack) (regL (timesL ss) step slack))) ∧ Below w.heap.size w w' := by
  obtain ⟨i0, hi, hi0, hi1, hi2⟩ := info_parts Try.infoInt
  obtain ⟨s0, hsi, hsi0, hsi1, hsi2⟩ := info_parts Try.infoSample
  have hchk := (chkF_zero ss).2 g
  have HK := Lib.hid hchk
  have hn := g.len
  rw [hz] at hn
  have HZ := Lib.hid hz
  have HG := Lib.hid g
  have HS0 := Lib.hid hS
  obtain ⟨F, hF⟩ : ∃ F, regF (timesL ss) step slack = F := ⟨_, rfl⟩
  obtain ⟨R, hR⟩ : ∃ R, regL (timesL ss) step slack = R := ⟨_, rfl⟩
  rw [hF, hR]
  have HF := Lib.hid hF; have HR := Lib.hid hR
  clear hz g hS hchk hF hR
  go_enter Try.func42, Try.ntmps42
  go_wp2_with fail
  refine (rchk_any _ ss _ HS0.out).mono ?_; rintro e w1 ⟨rfl, b1⟩
  rw [HK.out]
  have hS1 := HS0.out.below b1 (Nat.le_refl _)
  have HC1 : Hid (∀ j, j < n → w1.cell? ⟨b, off + j * 5, none⟩ = some (.int .i64 (ss.getD j smp0).t) ∧ w1.cell? ⟨b, off + j * 5 + 1, none⟩ = some (.int .i64 (ss.getD j smp0).s) ∧ w1.cell? ⟨b, off + j * 5 + 2, none⟩ = some (.int .i64 (ss.getD j smp0).h) ∧ w1.cell? ⟨b, off + j * 5 + 3, none⟩ = some (.int .i64 (ss.getD j smp0).z) ∧ w1.cell? ⟨b, off + j * 5 + 4, none⟩ = some (.bool (ss.getD j smp0).k)) := Lib.hid (fun j hj => hS1.cells j (by rw [HZ.out]; exact hj))
  have hlt1 : b < w1.heap.size := by have := b1.size; omega
  have bel1 := b1
  clear hS1 b1
  go_wp2_with fail
  go_loopw [9, 10] (fun u v wr => ∃ k : Nat, k ≤ n ∧ v = .int .i64 k ∧ wr.ownsRow w1.heap.size 3 1 u k (((timesL ss).map (Value.int .i64)).take k) ∧ Below w1.heap.size w1 wr) (fun _ v _ => n - (intOf v).toNat)
  case atStart => exact ⟨0, Nat.zero_le _, rfl, World.ownsRow_nil _ _ _ _, Below.refl _ _⟩
  case round =>
    obtain ⟨k, hk, rfl, hown, hbel⟩ := hrel
    by_cases hlt2 : k < n
    · obtain ⟨x, hx⟩ : ∃ x, (ss.getD k smp0).t = x := ⟨_, rfl⟩
      have c0 := (HC1.out k hlt2).1
      have hg := timesL_get ss k (by rw [HZ.out]; exact hlt2)
      rw [hx] at c0 hg
      have d0 : wr.cell? ⟨b, off + k * 5, none⟩ = some (.int .i64 x) := by rw [hbel.cell (p := ⟨b, off + k * 5, none⟩) hlt1]; exact c0
      have hsz := hbel.size
      have HGT := Lib.hid hg
      clear hx hg c0
      go_wp2_with (at_builtin; refine wpList_append_own _ rfl _ _ 34 rfl w1.heap.size 3 i0 (.int .i64 0) 1 8 Try.underlying34 hi hi0 hi1 hi2 rfl (by decide) _ _ _ rfl (hown.alloc _) ⟨wr.heap.size, 0, none⟩ 1 1 [.int .i64 x] rfl rfl ?k1 ?k2 ?k3 ?k4 ?k5 ?_)
      case k1 =>
        have := World.news_of_block (cs := #[.int .i64 x]) (t := 3) (fr := (0, 0)) (heap_alloc_new wr (.cells #[.int .i64 x] 3))
        simpa using this
      case k2 => simp [Value.oneCell']
      case k3 => unfold maxLen; omega
      case k4 => omega
      case k5 => simp; omega
      intro v' w4 hown4 hgrow4 _
      have hb4 : Below w1.heap.size w1 w4 := ((hbel.alloc hsz _).grown hgrow4 (by simp; omega) (fun q hq => (hown.lt q hq).1))
      have hsn : ((timesL ss).map (Value.int .i64)).take k ++ [.int .i64 x] = ((timesL ss).map (Value.int .i64)).take (k + 1) := by
        rw [← List.map_take, ← List.map_take, ← take_snoc _ _ (by rw [timesL_len, HZ.out]; exact hlt2), HGT.out]
        simp only [List.map_append, List.map_cons, List.map_nil]
      rw [hsn] at hown4
      clear hgrow4 hown hsn
      go_wp2_with fail
      go_roundw
      case rel => exact ⟨k + 1, by omega, by go_num, hown4, hb4⟩
      case measure => simp [intOf]; omega
    · have hkn : k = n := by omega
      subst hkn
      have e : ((timesL ss).map (Value.int .i64)).take k = (timesL ss).map (Value.int .i64) := List.take_of_length_le (by rw [List.length_map, timesL_len, HZ.out]; exact Nat.le_refl _)
      have el : (timesL ss).length = k := by rw [timesL_len, HZ.out]
      rw [e, ← el] at hown
      have HN := Lib.hid (Nums.ofOwn hown)
      have belr : Below w.heap.size w wr := bel1.trans (hbel.mono bel1.size)
      clear hown e el
      go_wp2_with fail
      refine (rreg_any _ (timesL ss) _ _ _ HN.out).mono ?_; rintro e w3 ⟨⟨u3, rfl, n3⟩, b3⟩
      rw [HF.out]; rw [HR.out] at n3
      have bel3 : Below w.heap.size w w3 := belr.trans (b3.mono belr.size)
      have bel13 : Below w1.heap.size w1 w3 := hbel.trans (b3.mono hbel.size)
      by_cases h0 : F = 0
      · subst h0
        obtain ⟨hst, hrise, hRe, htm⟩ := reg_form HF.out
        have hRl : R.length = k := by rw [← HR.out, hRe, regTo_len, timesL_len, HZ.out]
        have htm' : ∀ i, i < k → isTimeN (R.getD i 0) := fun i hi => by
          rw [← HR.out, hRe]
          refine htm _ ?_
          rw [getD_eq_get _ _ (by rw [regTo_len, timesL_len, HZ.out]; exact hi)]
          exact List.getElem_mem _
        have HTM := Lib.hid htm'
        have HRL := Lib.hid hRl
        rcases n3 with ⟨a3, c3, rfl, hnil⟩ | ⟨gb, o3, c3, rfl, hne3, hlt3, hm3, hc3⟩
        · exfalso; rw [hnil] at hRl; simp at hRl; omega
        · rw [hRl] at hc3 ⊢
          have HC3 := Lib.hid hc3
          clear hst hrise hRe htm hRl htm' hne3 hc3 hm3 HN belr hbel b3
          clear wr
          go_wp2_with fail
          go_loopw [13, 14] (fun u v wr => ∃ j : Nat, j ≤ k ∧ v = .int .i64 j ∧ wr.ownsRow w3.heap.size 50 5 u j (scells ((strL ss R).take j)) ∧ Below w3.heap.size w3 wr ∧ Hid (∀ i, i < j → 0 ≤ ((strL ss R).getD i smp0).s)) (fun _ v _ => k - (intOf v).toNat)
          case atStart => exact ⟨0, Nat.zero_le _, rfl, World.ownsRow_nil _ _ _ _, Below.refl _ _, Lib.hid (fun i hi => by omega)⟩
          case round =>
            obtain ⟨j, hj, rfl, hown, hbx, HP⟩ := hrel
            by_cases hlj : j < k
            · obtain ⟨y, hy⟩ : ∃ y, ss.getD j smp0 = y := ⟨_, rfl⟩
              obtain ⟨x, hx⟩ : ∃ x, R.getD j 0 = x := ⟨_, rfl⟩
              obtain ⟨c0, c1, c2, c3', c4⟩ := HC1.out j hlj
              have ok := HG.out.ok j (by rw [HZ.out]; exact hlj)
              have ht := HTM.out j hlj
              have r0 := HC3.out j hlj
              rw [hy] at c0 c1 c2 c3' c4 ok
              rw [hx] at ht r0
              have bel1x : Below w1.heap.size w1 wr := bel13.trans (hbx.mono bel13.size)
              have d0 : wr.cell? ⟨b, off + j * 5, none⟩ = some (.int .i64 y.t) := by rw [bel1x.cell (p := ⟨b, off + j * 5, none⟩) hlt1]; exact c0
              have d1 : wr.cell? ⟨b, off + j * 5 + 1, none⟩ = some (.int .i64 y.s) := by rw [bel1x.cell (p := ⟨b, off + j * 5 + 1, none⟩) hlt1]; exact c1
              have d2 : wr.cell? ⟨b, off + j * 5 + 2, none⟩ = some (.int .i64 y.h) := by rw [bel1x.cell (p := ⟨b, off + j * 5 + 2, none⟩) hlt1]; exact c2
              have d3 : wr.cell? ⟨b, off + j * 5 + 3, none⟩ = some (.int .i64 y.z) := by rw [bel1x.cell (p := ⟨b, off + j * 5 + 3, none⟩) hlt1]; exact c3'
              have d4 : wr.cell? ⟨b, off + j * 5 + 4, none⟩ = some (.bool y.k) := by rw [bel1x.cell (p := ⟨b, off + j * 5 + 4, none⟩) hlt1]; exact c4
              have dr : wr.cell? ⟨gb, o3 + j, none⟩ = some (.int .i64 x) := by rw [hbx.cell (p := ⟨gb, o3 + j, none⟩) hlt3]; exact r0
              have hxsz := hbx.size
              have hgx : gb < wr.heap.size := by omega
              have hbxx : b < wr.heap.size := by have := bel1x.size; omega
              have HY := Lib.hid hy; have HX := Lib.hid hx
              clear hy hx c0 c1 c2 c3' c4 r0
              obtain ⟨t, s, h, z, kk⟩ := y
              simp only at d0 d1 d2 d3 d4
              obtain ⟨⟨t0, t1⟩, -, ⟨q0, q1⟩, -⟩ := ok
              obtain ⟨x0, x1⟩ := ht
              simp only at t0 t1 q0 q1
              have e0 : (wr.alloc (.cells #[.int .i64 t, .int .i64 s, .int .i64 h, .int .i64 z, .bool kk] 50)).cell? ⟨wr.heap.size, 0, none⟩ = some (.int .i64 t) := by rw [World.cell?_alloc_at _ _ _ _ (by simp)]; rfl
              have e1 : (wr.alloc (.cells #[.int .i64 t, .int .i64 s, .int .i64 h, .int .i64 z, .bool kk] 50)).cell? ⟨wr.heap.size, 1, none⟩ = some (.int .i64 s) := by rw [World.cell?_alloc_at _ _ _ _ (by simp)]; rfl
              have e2 : (wr.alloc (.cells #[.int .i64 t, .int .i64 s, .int .i64 h, .int .i64 z, .bool kk] 50)).cell? ⟨wr.heap.size, 2, none⟩ = some (.int .i64 h) := by rw [World.cell?_alloc_at _ _ _ _ (by simp)]; rfl
              have e3 : (wr.alloc (.cells #[.int .i64 t, .int .i64 s, .int .i64 h, .int .i64 z, .bool kk] 50)).cell? ⟨wr.heap.size, 3, none⟩ = some (.int .i64 z) := by rw [World.cell?_alloc_at _ _ _ _ (by simp)]; rfl
              have e4 : (wr.alloc (.cells #[.int .i64 t, .int .i64 s, .int .i64 h, .int .i64 z, .bool kk] 50)).cell? ⟨wr.heap.size, 4, none⟩ = some (.bool kk) := by rw [World.cell?_alloc_at _ _ _ _ (by simp)]; rfl
              have y0 : (wr.alloc (.cells #[.int .i64 t, .int .i64 s, .int .i64 h, .int .i64 z, .bool kk] 50)).frozen? ⟨wr.heap.size, 0, none⟩ = false := by go_simp
              have y2 : (wr.alloc (.cells #[.int .i64 t, .int .i64 s, .int .i64 h, .int .i64 z, .bool kk] 50)).frozen? ⟨wr.heap.size, 2, none⟩ = false := by go_simp
              have y1 : (wr.alloc (.cells #[.int .i64 t, .int .i64 s, .int .i64 h, .int .i64 z, .bool kk] 50)).frozen? ⟨wr.heap.size, 1, none⟩ = false := by go_simp
              have er : (wr.alloc (.cells #[.int .i64 t, .int .i64 s, .int .i64 h, .int .i64 z, .bool kk] 50)).cell? ⟨gb, o3 + j, none⟩ = some (.int .i64 x) := by rw [World.cell?_alloc_past _ _ _ hgx]; exact dr
              have hWs : wr.heap.size < (wr.alloc (.cells #[.int .i64 t, .int .i64 s, .int .i64 h, .int .i64 z, .bool kk] 50)).heap.size := by simp
              have hWg : gb < (wr.alloc (.cells #[.int .i64 t, .int .i64 s, .int .i64 h, .int .i64 z, .bool kk] 50)).heap.size := by simp; omega
              have hWb : Below w3.heap.size w3 (wr.alloc (.cells #[.int .i64 t, .int .i64 s, .int .i64 h, .int .i64 z, .bool kk] 50)) := hbx.alloc hbx.size _
              have hWo : Hid ((wr.alloc (.cells #[.int .i64 t, .int .i64 s, .int .i64 h, .int .i64 z, .bool kk] 50)).ownsRow w3.heap.size 50 5 u13 j (scells ((strL ss R).take j))) := Lib.hid (hown.alloc _)
              go_upto_region 17 with fail
              generalize wr.alloc (.cells #[.int .i64 t, .int .i64 s, .int .i64 h, .int .i64 z, .bool kk] 50) = W at *
              have hgne : ¬ gb = wr.heap.size := by omega
              have hgne2 : ¬ wr.heap.size = gb := by omega
              have hsubw : IntKind.i64.wrap (t + h - x) = t + h - x := IntWalk.i64_in _ ⟨by omega, by omega⟩
              go_cut [15] from 45 to 90 (fun s15 wc => s15 = .pointer (some ⟨wr.heap.size, 0, none⟩) ∧ wc.cell? ⟨wr.heap.size, 0, none⟩ = some (.int .i64 x) ∧ wc.cell? ⟨wr.heap.size, 1, none⟩ = some (.int .i64 s) ∧ wc.cell? ⟨wr.heap.size, 2, none⟩ = some (.int .i64 (t + h - x)) ∧ wc.cell? ⟨wr.heap.size, 3, none⟩ = some (.int .i64 z) ∧ wc.cell? ⟨wr.heap.size, 4, none⟩ = some (.bool kk) ∧ wc.frozen? ⟨wr.heap.size, 1, none⟩ = false ∧ wr.heap.size < wc.heap.size ∧ gb < wc.heap.size ∧ Below w3.heap.size w3 wc ∧ wc.ownsRow w3.heap.size 50 5 u13 j (scells ((strL ss R).take j)))
              case first =>
                go_region_with (go_at_call 99; refine (present_any _ _ _ _ _ _ (by omega) (by omega) (by omega) (by omega)).mono ?_; rintro e w5 ⟨rfl, b5⟩; have f0 := (b5.cell (p := ⟨wr.heap.size, 0, none⟩) hWs).trans e0; have f1 := (b5.cell (p := ⟨wr.heap.size, 1, none⟩) hWs).trans e1; have f2 := (b5.cell (p := ⟨wr.heap.size, 2, none⟩) hWs).trans e2; have f3 := (b5.cell (p := ⟨wr.heap.size, 3, none⟩) hWs).trans e3; have f4 := (b5.cell (p := ⟨wr.heap.size, 4, none⟩) hWs).trans e4; have g0 := (b5.frozen (p := ⟨wr.heap.size, 0, none⟩) hWs).trans y0; have g2 := (b5.frozen (p := ⟨wr.heap.size, 2, none⟩) hWs).trans y2; have fr := (b5.cell (p := ⟨gb, o3 + j, none⟩) hWg).trans er)
                all_goals
                  have b6 : Below W.heap.size W w5 := ((Below.refl W.heap.size W).drew).trans b5
                  have s5 := b6.size
                  have hwz : w3.heap.size ≤ wr.heap.size := hbx.size
                  have hnb : u13.ownBlock ≠ some wr.heap.size := fun hh => by have := (hown.lt _ hh).2; omega
                  go_wp2_with fail
                  go_meet
                  try rw [hsubw]
                  refine ⟨rfl, ?_, ?_, ?_, ?_, ?_, ?_, ?_, ?_, ?_, ?_⟩
                  · exact (World.cell?_setCell_other _ _ _ _ (by simp)).trans (World.cell?_setCell_same _ _ _ f0)
                  · exact (World.cell?_setCell_other _ _ _ _ (by simp)).trans ((World.cell?_setCell_other _ _ _ _ (by simp)).trans f1)
                  · exact World.cell?_setCell_same _ _ _ ((World.cell?_setCell_other _ _ _ _ (by simp)).trans f2)
                  · exact (World.cell?_setCell_other _ _ _ _ (by simp)).trans ((World.cell?_setCell_other _ _ _ _ (by simp)).trans f3)
                  · exact (World.cell?_setCell_other _ _ _ _ (by simp)).trans ((World.cell?_setCell_other _ _ _ _ (by simp)).trans f4)
                  · rw [World.frozen?_setCell, World.frozen?_setCell]; exact (b6.frozen (p := ⟨wr.heap.size, 1, none⟩) hWs).trans y1
                  · simp only [World.setCell, Array.size_modify]; omega
                  · simp only [World.setCell, Array.size_modify]; omega
                  · exact ((hWb.trans (b6.mono hWb.size)).setCell (p := ⟨wr.heap.size, 0, none⟩) hwz _).setCell (p := ⟨wr.heap.size, 2, none⟩) hwz _
                  · exact ownsRow_setCell_other (ownsRow_setCell_other (ownsRow_kept hWo.out b6 (Nat.le_refl _)) hnb _) hnb _
              case rest =>
                obtain ⟨rfl, p0, p1, p2, p3, p4, pf1, ps, pg, pb, po⟩ := hcut
                have hwsz : w3.heap.size ≤ wr.heap.size := hbx.size
                have HGET : Hid ((strL ss R).getD j smp0 = ⟨x, if j + 1 < k then R.getD (j + 1) 0 - x else s, t + h - x, z, kk⟩) := Lib.hid (by
                  have hl : j < (retL ss fun i => R.getD i 0).length := by rw [retL_len, HZ.out]; exact hlj
                  unfold strL
                  rw [stepL_get _ _ hl]
                  unfold stepS
                  rw [retL_len, HZ.out, retL_get _ _ _ (by rw [HZ.out]; exact hlj), HY.out]
                  split
                  · rename_i h1
                    rw [retL_get _ _ _ (by rw [HZ.out]; exact h1)]
                    simp only [retS, HX.out]
                  · simp only [retS, HX.out])
                clear e0 e1 e2 e3 e4 y0 y1 y2 er hWs hWg hWb hWo d0 d1 d2 d3 d4 dr
                by_cases hjk : j + 1 < k
                · obtain ⟨x2, hx2⟩ : ∃ x, R.getD (j + 1) 0 = x := ⟨_, rfl⟩
                  have r2 := HC3.out (j + 1) hjk
                  have ht2 := HTM.out (j + 1) hjk
                  rw [hx2] at r2 ht2
                  obtain ⟨v0, v1⟩ := ht2
                  obtain ⟨m, hm⟩ : ∃ m, j + 1 = m := ⟨_, rfl⟩
                  have q1 : wc.cell? ⟨gb, o3 + j, none⟩ = some (.int .i64 x) := by rw [pb.cell (p := ⟨gb, o3 + j, none⟩) hlt3]; rw [HC3.out j hlj, HX.out]
                  have q2 : wc.cell? ⟨gb, o3 + m, none⟩ = some (.int .i64 x2) := by rw [← hm, pb.cell (p := ⟨gb, o3 + (j + 1), none⟩) hlt3]; exact r2
                  have hwj : IntKind.i64.wrap ((j : Int) + 1) = (m : Int) := by rw [show (j : Int) + 1 = (m : Int) by omega]; exact IntWalk.i64_in _ ⟨by omega, by omega⟩
                  have hj1 : (j : Int) + 1 = (m : Int) := by omega
                  have hmk : m < k := by omega
                  have hmk2 : (m : Int) < (k : Int) := by omega
                  have hm0 : (0 : Int) ≤ (m : Int) := by omega
                  rw [if_pos hjk, hx2] at HGET
                  obtain ⟨dd, hdd⟩ : ∃ d, x2 - x = d := ⟨_, rfl⟩
                  rw [hdd] at HGET
                  have hwd : IntKind.i64.wrap (x2 - x) = dd := by rw [hdd]; exact IntWalk.i64_in _ ⟨by omega, by omega⟩
                  have HM := Lib.hid hm
                  clear hx2 r2 hm hdd
                  have hnb : u13.ownBlock ≠ some wr.heap.size := fun hh => by have := (hown.lt _ hh).2; omega
                  have WD : Hid ((wc.setCell ⟨wr.heap.size, 1, none⟩ (.int .i64 dd)).drew.cell? ⟨wr.heap.size, 0, none⟩ = some (.int .i64 x) ∧ (wc.setCell ⟨wr.heap.size, 1, none⟩ (.int .i64 dd)).drew.cell? ⟨wr.heap.size, 1, none⟩ = some (.int .i64 dd) ∧ (wc.setCell ⟨wr.heap.size, 1, none⟩ (.int .i64 dd)).drew.cell? ⟨wr.heap.size, 2, none⟩ = some (.int .i64 (t + h - x)) ∧ (wc.setCell ⟨wr.heap.size, 1, none⟩ (.int .i64 dd)).drew.cell? ⟨wr.heap.size, 3, none⟩ = some (.int .i64 z) ∧ (wc.setCell ⟨wr.heap.size, 1, none⟩ (.int .i64 dd)).drew.cell? ⟨wr.heap.size, 4, none⟩ = some (.bool kk) ∧ wr.heap.size < (wc.setCell ⟨wr.heap.size, 1, none⟩ (.int .i64 dd)).drew.heap.size ∧ Below w3.heap.size w3 (wc.setCell ⟨wr.heap.size, 1, none⟩ (.int .i64 dd)).drew ∧ (wc.setCell ⟨wr.heap.size, 1, none⟩ (.int .i64 dd)).drew.ownsRow w3.heap.size 50 5 u13 j (scells ((strL ss R).take j))) := Lib.hid (by
                    refine ⟨?_, ?_, ?_, ?_, ?_, ?_, ?_, ?_⟩
                    · exact (World.cell?_setCell_other _ _ _ _ (by simp)).trans p0
                    · exact World.cell?_setCell_same _ _ _ p1
                    · exact (World.cell?_setCell_other _ _ _ _ (by simp)).trans p2
                    · exact (World.cell?_setCell_other _ _ _ _ (by simp)).trans p3
                    · exact (World.cell?_setCell_other _ _ _ _ (by simp)).trans p4
                    · simpa [World.setCell] using ps
                    · exact (pb.setCell (p := ⟨wr.heap.size, 1, none⟩) hwsz _).drew
                    · exact ownsRow_setCell_other po hnb _)
                  go_wp2_with fail
                  go_region
                  obtain ⟨x0c, x1c, x2c, x3c, x4c, xs, xb, xo⟩ := WD.out
                  generalize (wc.setCell ⟨wr.heap.size, 1, none⟩ (.int .i64 dd)).drew = wd at *
                  clear p0 p1 p2 p3 p4 pf1 ps pg pb po q1 q2 WD
                  by_cases hneg : dd < 0
                  · have HX12 : Hid (strF ss 0 R = 12 ∧ strR ss 0 R = []) := Lib.hid (by
                      have ha : anyNeg (strL ss R) = true := (anyNeg_at _).2 ⟨j, by rw [strL_len, HZ.out]; exact hlj, by rw [HGET.out]; exact hneg⟩
                      have e : strF ss 0 R = 12 := by rw [strF, if_pos HK.out, if_pos rfl, if_pos ha]
                      exact ⟨e, by rw [strR, e, if_neg (by decide)]⟩)
                    go_wp2_with fail
                    go_ret2
                    refine ⟨⟨_, ret2_vi rfl HX12.out.1.symm, ?_⟩, bel3.trans (xb.mono bel3.size)⟩
                    rw [HX12.out.2]
                    exact .nil _
                  · have hdn : decide (dd < 0) = false := by simp; omega
                    go_wp2_with (at_builtin; refine wpList_append_own _ rfl _ _ 33 rfl w3.heap.size 50 s0 (.agg #[.int .i64 0, .int .i64 0, .int .i64 0, .int .i64 0, .bool false]) 5 40 Try.underlying33 hsi hsi0 hsi1 hsi2 rfl (by decide) _ _ _ rfl (xo.alloc _) ⟨wd.heap.size, 0, none⟩ 1 1 [.int .i64 x, .int .i64 dd, .int .i64 (t + h - x), .int .i64 z, .bool kk] rfl rfl ?ka1 ?ka2 ?ka3 ?ka4 ?ka5 ?_)
                    case ka2 => simp [Value.oneCell']
                    case ka3 => unfold maxLen; omega
                    case ka4 => omega
                    case ka5 => have := xb.size; first | omega | (simp; omega)
                    intro v' w6 hown6 hgrow6 _
                    have hb6 : Below w3.heap.size w3 w6 := ((xb.alloc xb.size _).grown hgrow6 (by first | omega | (simp; omega)) (fun q hq => (hown.lt q hq).1))
                    have hsn : scells ((strL ss R).take j) ++ [.int .i64 x, .int .i64 dd, .int .i64 (t + h - x), .int .i64 z, .bool kk] = scells ((strL ss R).take (j + 1)) := by
                      rw [← take_snocS _ _ (by rw [strL_len, HZ.out]; exact hlj), scells_append, HGET.out]
                      rfl
                    rw [hsn] at hown6
                    have HP6 : Hid (∀ i, i < j + 1 → 0 ≤ ((strL ss R).getD i smp0).s) := Lib.hid (fun i hi => by
                      by_cases e : i = j
                      · subst e; rw [HGET.out]; show 0 ≤ dd; omega
                      · exact HP.out i (by omega))
                    clear hgrow6 hsn
                    go_wp2_with fail
                    go_roundw
                    case rel => exact ⟨j + 1, by omega, by go_num, hown6, hb6, HP6⟩
                    case measure => simp [intOf]; omega
                · rw [if_neg hjk] at HGET
                  have hdj : decide ((j : Int) + 1 < (k : Int)) = false := by simp; omega
                  have hs0 := (HG.out.ok j (by rw [HZ.out]; exact hlj)).2.1.1
                  rw [HY.out] at hs0
                  simp only at hs0
                  have hdn : decide (s < 0) = false := by simp; omega
                  go_wp2_with (at_builtin; refine wpList_append_own _ rfl _ _ 33 rfl w3.heap.size 50 s0 (.agg #[.int .i64 0, .int .i64 0, .int .i64 0, .int .i64 0, .bool false]) 5 40 Try.underlying33 hsi hsi0 hsi1 hsi2 rfl (by decide) _ _ _ rfl (po.alloc _) ⟨wc.heap.size, 0, none⟩ 1 1 [.int .i64 x, .int .i64 s, .int .i64 (t + h - x), .int .i64 z, .bool kk] rfl rfl ?kb1 ?kb2 ?kb3 ?kb4 ?kb5 ?_)
                  case kb1 =>
                    have := World.news_of_block (cs := #[.int .i64 x, .int .i64 s, .int .i64 (t + h - x), .int .i64 z, .bool kk]) (t := 50) (fr := (0, 0)) (heap_alloc_new wc (.cells #[.int .i64 x, .int .i64 s, .int .i64 (t + h - x), .int .i64 z, .bool kk] 50))
                    simpa using this
                  case kb2 => simp [Value.oneCell']
                  case kb3 => unfold maxLen; omega
                  case kb4 => omega
                  case kb5 => have := pb.size; first | omega | (simp; omega)
                  intro v' w6 hown6 hgrow6 _
                  have hb6 : Below w3.heap.size w3 w6 := ((pb.alloc pb.size _).grown hgrow6 (by first | omega | (simp; omega)) (fun q hq => (hown.lt q hq).1))
                  have hsn : scells ((strL ss R).take j) ++ [.int .i64 x, .int .i64 s, .int .i64 (t + h - x), .int .i64 z, .bool kk] = scells ((strL ss R).take (j + 1)) := by
                    rw [← take_snocS _ _ (by rw [strL_len, HZ.out]; exact hlj), scells_append, HGET.out]
                    rfl
                  rw [hsn] at hown6
                  have HP6 : Hid (∀ i, i < j + 1 → 0 ≤ ((strL ss R).getD i smp0).s) := Lib.hid (fun i hi => by
                    by_cases e : i = j
                    · subst e; rw [HGET.out]; show 0 ≤ s; omega
                    · exact HP.out i (by omega))
                  clear hgrow6 hsn
                  go_wp2_with fail
                  go_roundw
                  case rel => exact ⟨j + 1, by omega, by go_num, hown6, hb6, HP6⟩
                  case measure => simp [intOf]; omega
            · have hjk : j = k := by omega
              subst hjk
              have e : (strL ss R).take j = strL ss R := List.take_of_length_le (by rw [strL_len, HZ.out]; exact Nat.le_refl _)
              rw [e] at hown
              have hlen : (strL ss R).length = j := by rw [strL_len, HZ.out]
              have O4 : Hid (Smps wr u13 (strL ss R)) := Lib.hid (Smps.ofOwn (by rw [hlen]; exact hown))
              have hna : anyNeg (strL ss R) = false := by
                rw [Bool.eq_false_iff]; intro ha
                obtain ⟨i, hi, hneg⟩ := (anyNeg_at _).1 ha
                have := HP.out i (by omega)
                omega
              have HX0 : Hid (strF ss 0 R = chkF (strL ss R)) := Lib.hid (by rw [strF, if_pos HK.out, if_pos rfl, hna, if_neg (by decide)])
              have belr : Below w.heap.size w wr := bel3.trans (hbx.mono bel3.size)
              clear hown hlen e hna
              go_wp2_with fail
              refine (right_any _ (strL ss R) _ O4.out).mono ?_; rintro e w8 ⟨⟨u8, rfl, n8⟩, b8⟩
              have N8 := Lib.hid n8
              clear n8
              go_wp2_with fail
              go_ret2
              refine ⟨⟨_, ret2_vi rfl HX0.out.symm, ?_⟩, belr.trans (b8.mono belr.size)⟩
              rw [strR, HX0.out]
              exact N8.out
      · have hb : (F == 0) = false := by simp [h0]
        have HK2 : Hid (strF ss F R = F ∧ strR ss F R = []) := Lib.hid (by
          have : strF ss F R = F := by rw [strF, if_pos HK.out, if_neg h0]
          exact ⟨this, by rw [strR, this, if_neg h0]⟩)
        obtain ⟨a3, c3, rfl, -⟩ := n3.parts
        clear n3 h0
        go_wp2_with fail
        go_ret2
        refine ⟨⟨_, ret2_vi rfl HK2.out.1.symm, ?_⟩, bel3⟩
        rw [HK2.out.2]
        exact .nil _

end Go.Proofs.Ytgpiagdldcnijab
