/- Straight of package sample. -/
import Derived.Test.YtgpiagdldcnijabTimed
import Derived.Test.YtgpiagdldcnijabRegAny
import Derived.Test.YtgpiagdldcnijabPres
namespace Go.Proofs.Ytgpiagdldcnijab
set_option linter.unusedVariables false
set_option linter.unusedSimpArgs false
open Go.RowKit Go.Deep Go.Shelf

theorem strc_any (g o n c k B9 : Nat) (x : Int) (w : World) (hk : k < n) (h1 : w.cell? ⟨B9, 0, none⟩ = some (.slice (some ⟨g, o, none⟩) n c)) (hc : w.cell? ⟨g, o + k, none⟩ = some (.int .i64 x)) :
    Calls Try.prog 95 #[.int .i64 k, .pointer (some ⟨B9, 0, none⟩)] w fun e w' => e = .returned (.int .i64 x) ∧ ∃ q, w' = w.drewN q := by
  have i0 : (0 : Int) ≤ (k : Int) := Int.natCast_nonneg _
  have i1 : (k : Int) < (n : Int) := by omega
  go_enter Try.func95, Try.ntmps95
  go_wp2_with fail
  go_ret
  exact ⟨rfl, 0, rfl⟩

def encS (y : Smp) : List Value := [.int .i64 y.t, .int .i64 y.s, .int .i64 y.h, .int .i64 y.z, .bool y.k]
theorem neg_any (y : Smp) (w : World) : Calls Try.prog 97 #[.agg (encS y).toArray] w fun e w' => e = .returned (.bool (decide (y.s < 0))) ∧ Below w.heap.size w w' := by
  obtain ⟨t, s, h, z, kk⟩ := y
  simp only [encS]
  go_enter Try.func97, Try.ntmps97
  go_wp2_with fail
  go_ret
  exact ⟨rfl, (Below.refl _ _).alloc (Nat.le_refl _) _⟩

theorem getE_smp (L : List Smp) (j : Nat) : L[j]! = L.getD j smp0 := by
  rw [List.getElem!_eq_getElem?_getD, List.getD_eq_getElem?_getD]; rfl

set_option maxHeartbeats 1000000 in
/-- Whether a Step is below 0. -/
theorem containsNeg_any (v : Value) (L : List Smp) (w : World) (h : Smps w v L) (hn : 0 < L.length) :
    Calls Try.prog 96 #[v, .func (.func 97) #[] #[]] w fun e w' => e = .returned (.bool (anyNeg L)) ∧ Below w.heap.size w w' := by
  rcases h with ⟨a, cap, rfl, h0⟩ | ⟨b, off, cap, rfl, hne, hlt, hl, hm, hc⟩
  · omega
  · have := Go.Proofs.AnyQ.slices_ContainsFunc containsLays 5 Try.isAgg50 Try.sizeOf50 encS (fun _ => rfl) (fun y => decide (y.s < 0)) 97 #[] (enters_of Try.func97 (by kernel_rfl) rfl) b off L.length cap L w
      (fun W x hb => (neg_any x W).mono (by rintro e w' ⟨rfl, hb2⟩; exact ⟨rfl, hb.trans (hb2.mono hb.size)⟩)) (Nat.le_refl _) (by unfold maxLen at hm; omega) hlt (fun j hj i v hv => by
        rw [getE_smp] at hv
        have hi : i < 5 := by
          have := (List.getElem?_eq_some_iff.1 hv).1
          simpa [encS] using this
        have h1 := hc j hj i hi
        rw [h1, ← hv]
        have : i = 0 ∨ i = 1 ∨ i = 2 ∨ i = 3 ∨ i = 4 := by omega
        rcases this with rfl | rfl | rfl | rfl | rfl <;> rfl)
    rw [List.take_of_length_le (Nat.le_refl _)] at this
    exact this

set_option maxRecDepth 100000 in
set_option maxHeartbeats 4000000 in
theorem str_walk (b off n cap : Nat) (ss : List Smp) (step slack : Int) (w : World) (hz : ss.length = n) (hn0 : 0 < n) (hlt : b < w.heap.size) (g : Good ss) (hS : Smps w (.slice (some ⟨b, off, none⟩) n cap) ss) :
    Calls Try.prog 41 #[.slice (some ⟨b, off, none⟩) n cap, .int .i64 step, .int .i64 slack] w fun e w' => (∃ u, e = .returned (.tuple #[u, .int .i64 (strF ss (regF (timesL ss) step slack) (regL (timesL ss) step slack))]) ∧ Smps w' u (strR ss (regF (timesL ss) step slack) (regL (timesL ss) step slack))) ∧ Below w.heap.size w w' := by
  obtain ⟨i0, hi, hi0, hi1, hi2⟩ := info_parts Try.infoInt
  have hchk := (chkF_zero ss).2 g
  have HK := Lib.hid hchk
  have hn := g.len
  rw [hz] at hn
  have HZ := Lib.hid hz
  have HG := Lib.hid g
  have HS0 := Lib.hid hS
  obtain ⟨F, hF⟩ : ∃ F, regF (timesL ss) step slack = F := ⟨_, rfl⟩
  obtain ⟨R, hR⟩ : ∃ R, regL (timesL ss) step slack = R := ⟨_, rfl⟩
  rw [hF, hR]
  have HF := Lib.hid hF; have HR := Lib.hid hR
  clear hz g hS hchk hF hR
  go_enter Try.func41, Try.ntmps41
  go_wp2_with fail
  refine (chk_any _ ss _ HS0.out).mono ?_; rintro e w1 ⟨rfl, b1⟩
  rw [HK.out]
  have hS1 := HS0.out.below b1 (Nat.le_refl _)
  have HC1 : Hid (∀ j, j < n → w1.cell? ⟨b, off + j * 5, none⟩ = some (.int .i64 (ss.getD j smp0).t) ∧ w1.cell? ⟨b, off + j * 5 + 1, none⟩ = some (.int .i64 (ss.getD j smp0).s) ∧ w1.cell? ⟨b, off + j * 5 + 2, none⟩ = some (.int .i64 (ss.getD j smp0).h) ∧ w1.cell? ⟨b, off + j * 5 + 3, none⟩ = some (.int .i64 (ss.getD j smp0).z) ∧ w1.cell? ⟨b, off + j * 5 + 4, none⟩ = some (.bool (ss.getD j smp0).k)) := Lib.hid (fun j hj => hS1.cells j (by rw [HZ.out]; exact hj))
  have HS1 := Lib.hid hS1
  have hlt1 : b < w1.heap.size := by have := b1.size; omega
  have bel1 := b1
  clear hS1 b1
  go_wp2_with (at_make; refine wpList_make_full _ rfl _ _ 34 rfl w1.heap.size 3 i0 (.int .i64 0) 1 Try.underlying34 hi hi0 hi1 _ _ _ _ n rfl rfl rfl rfl ?c1 ?c2 ?c3 ?_)
  case c1 => rw [hi2]; omega
  case c2 => unfold maxLen; omega
  case c3 => exact Nat.le_refl _
  intro w2 hown hgrow
  have hb2 : Below w1.heap.size w1 w2 := (Below.refl _ _).grown hgrow (Nat.le_refl _) (by simp)
  have hown0 : w2.ownsRow w1.heap.size 3 1 (.slice (some ⟨w1.heap.size, 0, none⟩) n n) n (filled [] n) := by
    rw [filled_zero]
    have := toList_madeCells_one (.int .i64 0) n
    rw [this] at hown
    exact hown
  have hg2 : w1.heap.size < w2.heap.size := (hown0.lt w1.heap.size rfl).2
  clear hown hgrow
  go_wp2_with fail
  go_loopw [24] (fun v wr => ∃ k : Nat, k ≤ n ∧ v = .int .i64 k ∧ wr.ownsRow w1.heap.size 3 1 (.slice (some ⟨w1.heap.size, 0, none⟩) n n) n (filled ((timesL ss).take k) n) ∧ wr.heap[w2.heap.size]? = some (.cells #[.slice (some ⟨w1.heap.size, 0, none⟩) n n] 34 (0, 0)) ∧ Below w1.heap.size w1 wr) (fun v _ => n - (intOf v).toNat)
  case atStart => exact ⟨0, Nat.zero_le _, rfl, hown0.alloc _, one_new _ _, hb2.alloc hb2.size _⟩
  case round =>
    clear hown0 hb2
    obtain ⟨k, hk, rfl, hown, hbox, hbel⟩ := hrel
    have hcell := cell_of_one hbox
    have hfree := free_of_one hbox
    have hblt := lt_of_block hbox
    by_cases hlt2 : k < n
    · obtain ⟨y, hy⟩ : ∃ y, ss.getD k smp0 = y := ⟨_, rfl⟩
      obtain ⟨c0, c1, c2, c3, c4⟩ := HC1.out k hlt2
      have hg := timesL_get ss k (by rw [HZ.out]; exact hlt2)
      rw [hy] at c0 c1 c2 c3 c4 hg
      have d0 : wr.cell? ⟨b, off + k * 5, none⟩ = some (.int .i64 y.t) := by rw [hbel.cell (p := ⟨b, off + k * 5, none⟩) hlt1]; exact c0
      have d1 : wr.cell? ⟨b, off + k * 5 + 1, none⟩ = some (.int .i64 y.s) := by rw [hbel.cell (p := ⟨b, off + k * 5 + 1, none⟩) hlt1]; exact c1
      have d2 : wr.cell? ⟨b, off + k * 5 + 2, none⟩ = some (.int .i64 y.h) := by rw [hbel.cell (p := ⟨b, off + k * 5 + 2, none⟩) hlt1]; exact c2
      have d3 : wr.cell? ⟨b, off + k * 5 + 3, none⟩ = some (.int .i64 y.z) := by rw [hbel.cell (p := ⟨b, off + k * 5 + 3, none⟩) hlt1]; exact c3
      have d4 : wr.cell? ⟨b, off + k * 5 + 4, none⟩ = some (.bool y.k) := by rw [hbel.cell (p := ⟨b, off + k * 5 + 4, none⟩) hlt1]; exact c4
      clear hy c0 c1 c2 c3 c4
      obtain ⟨t, s, h, z, kk⟩ := y
      simp only at d0 d1 d2 d3 d4 hg
      have hl : ((timesL ss).take k).length = k := by rw [List.length_take, timesL_len, HZ.out]; omega
      have hnx : (timesL ss).take k ++ [t] = (timesL ss).take (k + 1) := by rw [← hg]; exact take_snoc _ _ (by rw [timesL_len, HZ.out]; exact hlt2)
      have HNX := Lib.hid hnx
      have hsz := hbel.size
      have hws : w1.heap.size < wr.heap.size := by omega
      have hrow : wr.cell? ⟨w1.heap.size, k, none⟩ = some (.int .i64 0) := by
        rw [World.ownsRow.cellAt hown k (by omega)]
        have := filled_at ((timesL ss).take k) n (by omega)
        rw [hl] at this
        exact this
      have hfz := World.ownsRow.frozenAt hown k
      have HST := Lib.hid (fun u => (World.ownsRow.stored hown k u).1)
      have hput : Hid ((wr.setCell ⟨w1.heap.size, k, none⟩ (.int .i64 t)).ownsRow w1.heap.size 3 1 (.slice (some ⟨w1.heap.size, 0, none⟩) n n) n (filled ((timesL ss).take (k + 1)) n)) := Lib.hid (by
        rw [← HNX.out, ← filled_set _ _ _ (by omega), hl]; exact HST.out _)
      have hbox2 : (wr.setCell ⟨w1.heap.size, k, none⟩ (.int .i64 t)).heap[w2.heap.size]? = some (.cells #[.slice (some ⟨w1.heap.size, 0, none⟩) n n] 34 (0, 0)) := by
        rw [Below.heap_setCell _ _ _ _ (by show w2.heap.size ≠ w1.heap.size; omega)]; exact hbox
      have HB2 := Lib.hid hbox2
      clear hg hl hnx HST hbox2
      go_wp2_with fail
      go_roundw
      case rel => exact ⟨k + 1, by omega, by go_num, hput.out.alloc _, one_alloc HB2.out, (hbel.setCell (p := ⟨w1.heap.size, k, none⟩) (Nat.le_refl _) _).alloc (by simp [World.setCell]; omega) _⟩
      case measure => simp [intOf]; omega
    · have hkn : k = n := by omega
      subst hkn
      have e : (timesL ss).take k = timesL ss := List.take_of_length_le (by rw [timesL_len, HZ.out]; exact Nat.le_refl _)
      have el : (timesL ss).length = k := by rw [timesL_len, HZ.out]
      have hN : Nums wr (.slice (some ⟨w1.heap.size, 0, none⟩) k k) (timesL ss) := by
        rw [e] at hown
        have e3 : filled (timesL ss) k = (timesL ss).map (Value.int .i64) := by rw [← el, filled_all]
        rw [e3] at hown
        have := hown
        rw [← el] at this ⊢
        exact Nums.ofOwn this
      have HN := Lib.hid hN
      have belr : Below w.heap.size w wr := bel1.trans (hbel.mono bel1.size)
      have hlr : b < wr.heap.size := by have := hbel.size; omega
      clear e el hown hN
      go_wp2_with fail
      refine (reg_any _ (timesL ss) _ _ _ HN.out).mono ?_; rintro e w3 ⟨⟨u3, rfl, n3⟩, b3⟩
      rw [HF.out]; rw [HR.out] at n3
      have g3 : w3.heap[w2.heap.size]? = some (.cells #[.slice (some ⟨w1.heap.size, 0, none⟩) k k] 34 (0, 0)) := one_below hbox b3 hblt
      have h3f := free_of_one g3
      have h3c := cell_of_one g3
      have h3l := lt_of_block g3
      by_cases h0 : F = 0
      · subst h0
        obtain ⟨hst, hrise, hRe, htm⟩ := reg_form HF.out
        have hRl : R.length = k := by rw [← HR.out, hRe, regTo_len, timesL_len, HZ.out]
        have htm' : ∀ i, i < k → isTimeN (R.getD i 0) := fun i hi => by
          rw [← HR.out, hRe]
          refine htm _ ?_
          rw [getD_eq_get _ _ (by rw [regTo_len, timesL_len, HZ.out]; exact hi)]
          exact List.getElem_mem _
        have HTM := Lib.hid htm'
        have HRL := Lib.hid hRl
        rcases n3 with ⟨a3, c3, rfl, hnil⟩ | ⟨gb, o3, c3, rfl, hne3, hlt3, hm3, hc3⟩
        · exfalso; rw [hnil] at hRl; simp at hRl; omega
        · rw [hRl] at hc3 ⊢
          have HC3 := Lib.hid hc3
          have bel3 : Below w.heap.size w w3 := belr.trans (b3.mono belr.size)
          have hgb : gb ≠ w2.heap.size := by
            intro e
            have h1 := hc3 0 hn0
            rw [e] at h1
            simp only [World.cell?, g3] at h1
            cases o3 <;> simp at h1
          have W4 : Hid (∀ (X : Value), Below w.heap.size w (w3.setCell ⟨w2.heap.size, 0, none⟩ X) ∧ (w3.setCell ⟨w2.heap.size, 0, none⟩ X).heap[w2.heap.size]? = some (.cells #[X] 34 (0, 0)) ∧ (∀ j, j < k → (w3.setCell ⟨w2.heap.size, 0, none⟩ X).cell? ⟨gb, o3 + j, none⟩ = some (.int .i64 (R.getD j 0)))) := Lib.hid (fun X => by
            have := bel1.size
            refine ⟨bel3.setCell (p := ⟨w2.heap.size, 0, none⟩) (by show w.heap.size ≤ w2.heap.size; omega) X, one_setCell g3, fun j hj => ?_⟩
            rw [World.cell?_of_block (Below.heap_setCell _ _ _ _ hgb)]
            exact HC3.out j hj)
          clear hst hrise hRe htm hRl htm' hne3 hc3 hm3 g3
          go_wp2_with fail
          obtain ⟨bel4, g4, hc4⟩ := W4.out (.slice (some ⟨gb, o3, none⟩) k c3)
          generalize w3.setCell ⟨w2.heap.size, 0, none⟩ (.slice (some ⟨gb, o3, none⟩) k c3) = w4 at *
          have h4c := cell_of_one g4
          have h4l := lt_of_block g4
          have h4g : gb < w4.heap.size := World.block_lt_of_cell? w4 _ (hc4 0 hn0)
          have h4b : b < w4.heap.size := by have := bel4.size; omega
          have hS4 := HS0.out.below bel4 (Nat.le_refl _)
          refine (retimed_walk b off k cap ss 95 #[.pointer (some ⟨w2.heap.size, 0, none⟩)] (fun i => R.getD i 0) w4 (enters_of Try.func95 (by kernel_rfl) rfl) HZ.out hn0 HG.out h4b hS4 (fun i hi => by have := HTM.out i hi; unfold isTimeN at this; show _ ≤ R.getD i 0 ∧ R.getD i 0 ≤ _; omega) (fun j wj hj hb => by
            refine (strc_any gb o3 k c3 j w2.heap.size (R.getD j 0) wj hj ?_ ?_).mono ?_
            · rw [hb.cell (p := ⟨w2.heap.size, 0, none⟩) h4l]; exact h4c
            · rw [hb.cell (p := ⟨gb, o3 + j, none⟩) h4g]; exact hc4 j hj
            · rintro e w' ⟨rfl, q, rfl⟩
              exact ⟨rfl, below_drewN (Below.refl _ _) _⟩)).mono ?_
          rintro e w5 ⟨⟨u, rfl, o5⟩, b5⟩
          have hu : ∃ gg cp, u = .slice (some ⟨gg, 0, none⟩) k cp := by
            rcases o5.2 with ⟨_, h0⟩ | ⟨gg, cp, cur, rfl, _⟩
            · omega
            · exact ⟨gg, cp, rfl⟩
          obtain ⟨gg, cp, rfl⟩ := hu
          have O5 := Lib.hid o5
          have hstp := steps_walk w4.heap.size gg cp k (retL ss fun i => R.getD i 0) w5 (by rw [retL_len, HZ.out]) hn0 (by omega) b5.size o5 (fun i hi => by
            have := HTM.out i hi
            unfold isTimeN at this
            rw [retL_get _ _ _ (by rw [HZ.out]; exact hi)]
            show _ ≤ R.getD i 0 ∧ R.getD i 0 ≤ _
            omega)
          have HSTP := Lib.hid hstp
          have bel5 : Below w.heap.size w w5 := bel4.trans (b5.mono bel4.size)
          clear o5 hstp hS4 hc4 h4c g4
          go_wp2_with fail
          refine HSTP.out.mono ?_; rintro e w6 ⟨rfl, o6, b6⟩
          have hsl : (strL ss R).length = k := by rw [strL_len, HZ.out]
          have O6 : Hid (Smps w6 (.slice (some ⟨gg, 0, none⟩) k cp) (strL ss R)) := Lib.hid (Smps.ofOwn (by rw [hsl]; exact o6))
          have HSL := Lib.hid hsl
          have bel6 : Below w.heap.size w w6 := bel5.trans (b6.mono bel4.size)
          have HK2 : Hid (strF ss 0 R = if anyNeg (strL ss R) = true then 12 else chkF (strL ss R)) := Lib.hid (by rw [strF, if_pos HK.out, if_pos rfl])
          clear o6 hsl b6 HSTP O5
          go_wp2_with fail
          refine (containsNeg_any _ (strL ss R) _ O6.out (by rw [HSL.out]; exact hn0)).mono ?_; rintro e w7 ⟨rfl, b7⟩
          have bel7 : Below w.heap.size w w7 := bel6.trans (b7.mono bel6.size)
          cases hneg : anyNeg (strL ss R) with
          | true =>
            have HK3 := HK2.out
            rw [hneg, if_pos rfl] at HK3
            have HK4 := Lib.hid HK3
            clear HK3 hneg
            go_wp2_with fail
            go_ret2
            refine ⟨⟨_, ret2_vi rfl HK4.out.symm, ?_⟩, bel7⟩
            rw [strR, HK4.out, if_neg (by decide)]
            exact .nil _
          | false =>
            have HK3 := HK2.out
            rw [hneg, if_neg (by decide)] at HK3
            have HK4 := Lib.hid HK3
            clear HK3 hneg
            go_wp2_with fail
            refine (checked_any _ (strL ss R) _ (O6.out.below b7 (Nat.le_refl _))).mono ?_; rintro e w8 ⟨⟨u8, rfl, n8⟩, b8⟩
            have N8 := Lib.hid n8
            clear n8
            go_wp2_with fail
            go_ret2
            refine ⟨⟨_, ret2_vi rfl HK4.out.symm, ?_⟩, bel7.trans (b8.mono bel7.size)⟩
            rw [strR, HK4.out]
            exact N8.out
      · obtain ⟨a3, c3, rfl, -⟩ := n3.parts
        have hb : (F == 0) = false := by simp [h0]
        have HK2 : Hid (strF ss F R = F ∧ strR ss F R = []) := Lib.hid (by
          have : strF ss F R = F := by rw [strF, if_pos HK.out, if_neg h0]
          exact ⟨this, by rw [strR, this, if_neg h0]⟩)
        have bel3 : Below w.heap.size w (w3.setCell ⟨w2.heap.size, 0, none⟩ (.slice a3 R.length c3)) := (belr.trans (b3.mono belr.size)).setCell (p := ⟨w2.heap.size, 0, none⟩) (by have := bel1.size; show w.heap.size ≤ w2.heap.size; omega) _
        have BEL3 := Lib.hid bel3
        clear n3 h0 bel3
        go_wp2_with fail
        go_ret2
        refine ⟨⟨_, ret2_vi rfl HK2.out.1.symm, ?_⟩, BEL3.out⟩
        rw [HK2.out.2]
        exact .nil _

set_option maxHeartbeats 1000000 in
theorem indexNeg_empty (a : Option Addr) (cap : Nat) (w : World) :
    Calls Try.prog 136 #[.slice a 0 cap, .func (.func 97) #[] #[]] w fun e w' => e = .returned (.int .i64 (-1)) ∧ w = w' := by
  go_enter Try.func136, Try.ntmps136
  go_wp2_with fail
  refine wp_loop_rounds 1 ?_
  rw [rounds_succ]
  go_wp2_with fail
  go_ret
  exact ⟨rfl, rfl⟩
theorem containsNeg_empty (a : Option Addr) (cap : Nat) (w : World) :
    Calls Try.prog 96 #[.slice a 0 cap, .func (.func 97) #[] #[]] w fun e w' => e = .returned (.bool false) ∧ w = w' := by
  go_enter Try.func96, Try.ntmps96
  go_wp2_with fail
  refine (indexNeg_empty _ _ _).mono ?_; rintro e w' ⟨rfl, rfl⟩
  go_wp2_with fail
  go_ret
  exact ⟨rfl, rfl⟩

set_option maxRecDepth 100000 in
set_option maxHeartbeats 2000000 in
theorem str_empty (a : Option Addr) (cap : Nat) (step slack : Int) (w : World) :
    Calls Try.prog 41 #[.slice a 0 cap, .int .i64 step, .int .i64 slack] w fun e w' => (∃ u, e = .returned (.tuple #[u, .int .i64 (strF [] (regF (timesL []) step slack) (regL (timesL []) step slack))]) ∧ Smps w' u (strR [] (regF (timesL []) step slack) (regL (timesL []) step slack))) ∧ Below w.heap.size w w' := by
  obtain ⟨i0, hi, hi0, hi1, hi2⟩ := info_parts Try.infoInt
  have hc : chkF [] = 0 := (chkF_zero []).2 Good.nil
  have HS : Smps w (.slice a 0 cap) [] := .inl ⟨_, _, rfl, rfl⟩
  obtain ⟨F, hF⟩ : ∃ F, regF (timesL []) step slack = F := ⟨_, rfl⟩
  obtain ⟨R, hR⟩ : ∃ R, regL (timesL []) step slack = R := ⟨_, rfl⟩
  rw [hF, hR]
  have HF := Lib.hid hF; have HR := Lib.hid hR
  have HZ : Hid (strF [] F R = F ∧ strR [] F R = []) := Lib.hid (by
    have e1 : strL [] R = [] := rfl
    have e : strF [] F R = F := by
      rw [strF, if_pos hc, e1]
      split
      · rename_i h; rw [if_neg (by decide), hc, h]
      · rfl
    refine ⟨e, ?_⟩
    rw [strR, e1]; split <;> rfl)
  clear hF hR
  go_enter Try.func41, Try.ntmps41
  go_wp2_with fail
  refine (chk_any _ [] _ HS).mono ?_; rintro e w1 ⟨rfl, b1⟩
  rw [hc]
  clear HS
  go_wp2_with (at_make; refine wpList_make_full _ rfl _ _ 34 rfl w1.heap.size 3 i0 (.int .i64 0) 1 Try.underlying34 hi hi0 hi1 _ _ _ _ 0 rfl rfl rfl rfl ?c1 ?c2 ?c3 ?_)
  case c1 => rw [hi2]; omega
  case c2 => unfold maxLen; omega
  case c3 => exact Nat.le_refl _
  intro w2 hown hgrow
  have hb2 : Below w1.heap.size w1 w2 := (Below.refl _ _).grown hgrow (Nat.le_refl _) (by simp)
  have hw2 : w.heap.size ≤ w2.heap.size := Nat.le_trans b1.size hb2.size
  have bel2 : Below w.heap.size w w2 := b1.trans (hb2.mono b1.size)
  clear hown hgrow hb2
  go_wp2_with fail
  refine wp_loop_rounds 1 ?_
  rw [rounds_succ]
  have hbox := one_new w2 (.cells #[.slice (some ⟨w1.heap.size, 0, none⟩) 0 0] 34)
  go_wp2_with fail
  refine (reg_any _ (timesL []) _ _ _ (.inl ⟨_, _, rfl, rfl⟩)).mono ?_; rintro e w3 ⟨⟨u3, rfl, n3⟩, b3⟩
  rw [HF.out]; rw [HR.out] at n3
  obtain ⟨a3, c3, rfl, -⟩ := n3.parts
  have g3 : w3.heap[w2.heap.size]? = some (.cells #[.slice (some ⟨w1.heap.size, 0, none⟩) 0 0] 34 (0, 0)) := one_below hbox b3 (by simp)
  have h3f := free_of_one g3
  have h3c := cell_of_one g3
  have h3l := lt_of_block g3
  have bel3 : ∀ X, Below w.heap.size w (w3.setCell ⟨w2.heap.size, 0, none⟩ X) := fun X => ((bel2.alloc hw2 _).trans (b3.mono (by simp; omega))).setCell (p := ⟨w2.heap.size, 0, none⟩) hw2 X
  have BEL3 := Lib.hid bel3
  clear n3 g3 hbox bel3 b3
  by_cases h0 : F = 0
  · subst h0
    go_wp2_with fail
    have bel4 := BEL3.out (.slice a3 R.length c3)
    generalize w3.setCell ⟨w2.heap.size, 0, none⟩ (.slice a3 R.length c3) = w4 at *
    refine (retimed_empty _ _ _ _ _).mono ?_; rintro e w5 ⟨⟨u, rfl, n5⟩, b5⟩
    obtain ⟨a5, c5, rfl⟩ := n5.parts
    have N5 := Lib.hid n5
    have bel5 : Below w.heap.size w w5 := bel4.trans (b5.mono bel4.size)
    clear n5
    go_wp2_with fail
    refine (steps_empty _ _ _).mono ?_; rintro e w' ⟨rfl, rfl⟩
    go_wp2_with fail
    refine (containsNeg_empty _ _ _).mono ?_; rintro e w' ⟨rfl, rfl⟩
    go_wp2_with fail
    refine (checked_any _ [] _ N5.out).mono ?_; rintro e w8 ⟨⟨u8, rfl, n8⟩, b8⟩
    rw [hc] at n8 ⊢
    rw [if_pos rfl] at n8
    have N8 := Lib.hid n8
    clear n8
    go_wp2_with fail
    go_ret2
    refine ⟨⟨_, ret2_vi rfl HZ.out.1.symm, ?_⟩, bel5.trans (b8.mono bel5.size)⟩
    rw [HZ.out.2]
    exact N8.out
  · have hb : (F == 0) = false := by simp [h0]
    clear h0
    go_wp2_with fail
    go_ret2
    refine ⟨⟨_, ret2_vi rfl HZ.out.1.symm, ?_⟩, BEL3.out _⟩
    rw [HZ.out.2]
    exact .nil _

set_option maxHeartbeats 1000000 in
theorem str_bad (v : Value) (ss : List Smp) (step slack : Int) (w : World) (h : Smps w v ss) (hf : chkF ss ≠ 0) :
    Calls Try.prog 41 #[v, .int .i64 step, .int .i64 slack] w fun e w' => (∃ u, e = .returned (.tuple #[u, .int .i64 (chkF ss)]) ∧ Smps w' u []) ∧ Below w.heap.size w w' := by
  obtain ⟨x, hx⟩ : ∃ x, chkF ss = x := ⟨_, rfl⟩
  rw [hx] at hf ⊢
  have HX := Lib.hid hx
  have hb : (x == 0) = false := by simp [hf]
  clear hx hf
  go_enter Try.func41, Try.ntmps41
  go_wp2_with fail
  refine (chk_any _ ss _ h).mono ?_; rintro e w1 ⟨rfl, b1⟩
  rw [HX.out]
  go_wp2_with fail
  go_ret2
  exact ⟨⟨_, rfl, .nil _⟩, b1⟩

/-- Straight, whatever the samples. -/
theorem str_any (v : Value) (ss : List Smp) (step slack : Int) (w : World) (h : Smps w v ss) :
    Calls Try.prog 41 #[v, .int .i64 step, .int .i64 slack] w fun e w' => (∃ u, e = .returned (.tuple #[u, .int .i64 (strF ss (regF (timesL ss) step slack) (regL (timesL ss) step slack))]) ∧ Smps w' u (strR ss (regF (timesL ss) step slack) (regL (timesL ss) step slack))) ∧ Below w.heap.size w w' := by
  by_cases hf : chkF ss = 0
  · have h' := h
    rcases h with ⟨a, cap, rfl, h0⟩ | ⟨b, off, cap, rfl, hne, hlt, hl, hm, hc⟩
    · have hs : ss = [] := List.length_eq_zero_iff.1 h0
      subst hs
      exact str_empty a cap step slack w
    · exact str_walk b off _ cap ss step slack w rfl hne hlt ((chkF_zero ss).1 hf) h'
  · have e : strF ss (regF (timesL ss) step slack) (regL (timesL ss) step slack) = chkF ss := by rw [strF, if_neg hf]
    have e2 : strR ss (regF (timesL ss) step slack) (regL (timesL ss) step slack) = [] := by rw [strR, e, if_neg hf]
    rw [e, e2]
    exact str_bad v ss step slack w h hf

end Go.Proofs.Ytgpiagdldcnijab
