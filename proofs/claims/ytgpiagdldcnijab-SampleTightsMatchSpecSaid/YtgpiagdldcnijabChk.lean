/- CheckSamples of package box. -/
import Derived.Test.YtgpiagdldcnijabEndOf
import Derived.Test.YtgpiagdldcnijabStill
import Derived.RegionTactic
import Derived.ChangeAlike
import Derived.Deep.QuietTactic
import Derived.BigQuiet
import Derived.Deep.RegionHeld3
import Derived.StillTailTactics
import Derived.Deep.DeepCutAuto
import Derived.Deep.CutBlock
namespace Go.Proofs.Ytgpiagdldcnijab
set_option linter.unusedVariables false
set_option linter.unusedSimpArgs false
open Go.RowKit Go.Deep

theorem smpF_at {ss : List Smp} {k : Nat} {t s h z : Int} {kk : Bool} (e : ss.getD k smp0 = ⟨t, s, h, z, kk⟩) (c : Bool) (hc : (decide (0 < k) && decide (t ≠ endV (ss.take k))) = c) :
    fstF [fIf (!inB t (-1000000000000000) 1000000000000000) 1, fIf (!inB s 0 1000000000) 1, fIf (!inB h (-1000000000) 1000000000) 1, fIf (!inB z 0 100000) 1, fIf c 8] = smpF ss k := by
  unfold smpF
  rw [e, ← hc]
set_option maxRecDepth 100000 in
set_option maxHeartbeats 4000000 in
theorem chk_walk (b off n cap : Nat) (ss : List Smp) (w : World) (hz : ss.length = n) (hn0 : 0 < n) (hn : n ≤ 5000) (hlt : b < w.heap.size) (hcn : n ≤ cap) (hcm : cap ≤ maxLen) (hS : Smps w (.slice (some ⟨b, off, none⟩) n cap) ss) :
    Calls Try.prog 66 #[.slice (some ⟨b, off, none⟩) n cap] w fun e w' => e = .returned (.int .i64 (chkF ss)) ∧ Below w.heap.size w w' := by
  have HC : Hid (∀ j, j < n → w.cell? ⟨b, off + j * 5, none⟩ = some (.int .i64 (ss.getD j smp0).t) ∧ w.cell? ⟨b, off + j * 5 + 1, none⟩ = some (.int .i64 (ss.getD j smp0).s) ∧ w.cell? ⟨b, off + j * 5 + 2, none⟩ = some (.int .i64 (ss.getD j smp0).h) ∧ w.cell? ⟨b, off + j * 5 + 3, none⟩ = some (.int .i64 (ss.getD j smp0).z) ∧ w.cell? ⟨b, off + j * 5 + 4, none⟩ = some (.bool (ss.getD j smp0).k)) := Lib.hid (fun j hj => hS.cells j (by omega))
  have HZ := Lib.hid hz
  have HS := Lib.hid hS
  clear hz hS
  go_enter Try.func66, Try.ntmps66
  go_wp2_with fail
  go_loopw [11] (fun v wr => ∃ k : Nat, k ≤ n ∧ v = .int .i64 k ∧ Below w.heap.size w wr ∧ Hid (fstF (((List.range ss.length).map (smpF ss)).drop k) = smpsF ss) ∧ Hid (∀ i, i < k → smpF ss i = 0)) (fun v _ => n - (intOf v).toNat)
  case atStart => exact ⟨0, Nat.zero_le _, rfl, Below.refl _ _, Lib.hid rfl, Lib.hid (fun i hi => by omega)⟩
  case round =>
    obtain ⟨k, hk, rfl, hbel, HF, HV⟩ := hrel
    by_cases hlt2 : k < n
    · obtain ⟨y, hy⟩ : ∃ y, ss.getD k smp0 = y := ⟨_, rfl⟩
      obtain ⟨c0, c1, c2, c3, c4⟩ := HC.out k hlt2
      rw [hy] at c0 c1 c2 c3 c4
      have HY := Lib.hid hy
      have d0 : wr.cell? ⟨b, off + k * 5, none⟩ = some (.int .i64 y.t) := by rw [hbel.cell (p := ⟨b, off + k * 5, none⟩) hlt]; exact c0
      have d1 : wr.cell? ⟨b, off + k * 5 + 1, none⟩ = some (.int .i64 y.s) := by rw [hbel.cell (p := ⟨b, off + k * 5 + 1, none⟩) hlt]; exact c1
      have d2 : wr.cell? ⟨b, off + k * 5 + 2, none⟩ = some (.int .i64 y.h) := by rw [hbel.cell (p := ⟨b, off + k * 5 + 2, none⟩) hlt]; exact c2
      have d3 : wr.cell? ⟨b, off + k * 5 + 3, none⟩ = some (.int .i64 y.z) := by rw [hbel.cell (p := ⟨b, off + k * 5 + 3, none⟩) hlt]; exact c3
      have d4 : wr.cell? ⟨b, off + k * 5 + 4, none⟩ = some (.bool y.k) := by rw [hbel.cell (p := ⟨b, off + k * 5 + 4, none⟩) hlt]; exact c4
      clear hy c0 c1 c2 c3 c4
      obtain ⟨t, s, h, z, kk⟩ := y
      simp only at d0 d1 d2 d3 d4
      obtain ⟨x, hx⟩ : ∃ x, smpF ss k = x := ⟨_, rfl⟩
      have HST : Hid ((x ≠ 0 → chkF ss = x) ∧ (x = 0 → fstF (((List.range ss.length).map (smpF ss)).drop (k + 1)) = smpsF ss ∧ ∀ i, i < k + 1 → smpF ss i = 0)) := Lib.hid (by
        have hd := smpsF_drop ss k (by rw [HZ.out]; exact hlt2)
        rw [HF.out, hx] at hd
        refine ⟨fun h0 => ?_, fun h0 => ?_⟩
        · rw [if_neg h0] at hd
          rw [chkF_bad ss (by rw [HZ.out]; exact hn) (by rw [hd]; exact h0), hd]
        · rw [if_pos h0] at hd
          refine ⟨hd.symm, fun i hi => ?_⟩
          by_cases e : i = k
          · subst e; rw [hx]; exact h0
          · exact HV.out i (by omega))
      have HX := Lib.hid hx
      clear hx
      by_cases hk0 : k < 1
      · have hgd : decide (0 < k) = false := by simp; omega
        have HSM := Lib.hid ((smpF_at HY.out false (by rw [hgd]; rfl)).trans HX.out)
        have e0 : (wr.alloc (.cells #[.int .i64 t, .int .i64 s, .int .i64 h, .int .i64 z, .bool kk] 50)).cell? ⟨wr.heap.size, 0, none⟩ = some (.int .i64 t) := by rw [World.cell?_alloc_at _ _ _ _ (by simp)]; rfl
        have e1 : (wr.alloc (.cells #[.int .i64 t, .int .i64 s, .int .i64 h, .int .i64 z, .bool kk] 50)).cell? ⟨wr.heap.size, 1, none⟩ = some (.int .i64 s) := by rw [World.cell?_alloc_at _ _ _ _ (by simp)]; rfl
        have e2 : (wr.alloc (.cells #[.int .i64 t, .int .i64 s, .int .i64 h, .int .i64 z, .bool kk] 50)).cell? ⟨wr.heap.size, 2, none⟩ = some (.int .i64 h) := by rw [World.cell?_alloc_at _ _ _ _ (by simp)]; rfl
        have e3 : (wr.alloc (.cells #[.int .i64 t, .int .i64 s, .int .i64 h, .int .i64 z, .bool kk] 50)).cell? ⟨wr.heap.size, 3, none⟩ = some (.int .i64 z) := by rw [World.cell?_alloc_at _ _ _ _ (by simp)]; rfl
        go_upto_region 6 with fail
        have hW : Below wr.heap.size wr (wr.alloc (.cells #[.int .i64 t, .int .i64 s, .int .i64 h, .int .i64 z, .bool kk] 50)) := (Below.refl _ _).alloc (Nat.le_refl _) _
        generalize wr.alloc (.cells #[.int .i64 t, .int .i64 s, .int .i64 h, .int .i64 z, .bool kk] 50) = W at *
        refine region_still_tail 32 (by kernel_rfl) (by kernel_rfl) ?_
        simp only [List.take_succ_cons, List.take_zero, List.drop_succ_cons, List.drop_zero]
        refine St.step (fun K hK => ?_); go_simp; refine hK.out _ ?_; clear hK K
        refine St.step (fun K hK => ?_); go_simp; refine hK.out _ ?_; clear hK K
        refine St.step (fun K hK => ?_); go_simp; refine ⟨_, (st_of (btime_any _ _)), ?_⟩; refine hK.out _ ?_; clear hK K
        refine St.step (fun K hK => ?_); go_simp; refine hK.out _ ?_; clear hK K
        refine St.step (fun K hK => ?_); go_simp; refine ⟨_, (st_of (bfaultIf_any _ _ _)), ?_⟩; refine hK.out _ ?_; clear hK K
        refine St.step (fun K hK => ?_); go_simp; refine hK.out _ ?_; clear hK K
        refine St.step (fun K hK => ?_); go_simp; refine hK.out _ ?_; clear hK K
        refine St.step (fun K hK => ?_); go_simp; refine ⟨_, (st_of (bwithin_any _ _ _ _)), ?_⟩; refine hK.out _ ?_; clear hK K
        refine St.step (fun K hK => ?_); go_simp; refine hK.out _ ?_; clear hK K
        refine St.step (fun K hK => ?_); go_simp; refine ⟨_, (st_of (bfaultIf_any _ _ _)), ?_⟩; refine hK.out _ ?_; clear hK K
        refine St.step (fun K hK => ?_); go_simp; refine hK.out _ ?_; clear hK K
        refine St.step (fun K hK => ?_); go_simp; refine hK.out _ ?_; clear hK K
        refine St.step (fun K hK => ?_); go_simp; refine ⟨_, (st_of (bwithin_any _ _ _ _)), ?_⟩; refine hK.out _ ?_; clear hK K
        refine St.step (fun K hK => ?_); go_simp; refine hK.out _ ?_; clear hK K
        refine St.step (fun K hK => ?_); go_simp; refine ⟨_, (st_of (bfaultIf_any _ _ _)), ?_⟩; refine hK.out _ ?_; clear hK K
        refine St.step (fun K hK => ?_); go_simp; refine hK.out _ ?_; clear hK K
        refine St.step (fun K hK => ?_); go_simp; refine hK.out _ ?_; clear hK K
        refine St.step (fun K hK => ?_); go_simp; refine ⟨_, (st_of (bwithin_any _ _ _ _)), ?_⟩; refine hK.out _ ?_; clear hK K
        refine St.step (fun K hK => ?_); go_simp; refine hK.out _ ?_; clear hK K
        refine St.step (fun K hK => ?_); go_simp; refine ⟨_, (st_of (bfaultIf_any _ _ _)), ?_⟩; refine hK.out _ ?_; clear hK K
        refine St.step (fun K hK => ?_); go_simp; refine hK.out _ ?_; clear hK K
        refine St.step (fun K hK => ?_); go_simp; refine hK.out _ ?_; clear hK K
        refine St.step (fun K hK => ?_); go_simp; refine hK.out _ ?_; clear hK K
        refine St.skip (by kernel_rfl) ?_
        refine St.skip (by kernel_rfl) ?_
        refine St.skip (by kernel_rfl) ?_
        refine St.skip (by kernel_rfl) ?_
        refine St.skip (by kernel_rfl) ?_
        refine St.skip (by kernel_rfl) ?_
        refine St.skip (by kernel_rfl) ?_
        refine St.step (fun K hK => ?_); go_simp; refine hK.out _ ?_; clear hK K
        refine St.step (fun K hK => ?_); go_simp; refine ⟨_, (st_of (bfaultIf_any _ _ _)), ?_⟩; refine hK.out _ ?_; clear hK K
        refine St.nil ?_
        have hW2 := hW.drew
        generalize W.drew = w2 at *
        go_wp2_with fail
        refine (bfirst_any w2.heap.size 0 5 5 [fIf (!inB t (-1000000000000000) 1000000000000000) 1, fIf (!inB s 0 1000000000) 1, fIf (!inB h (-1000000000) 1000000000) 1, fIf (!inB z 0 100000) 1, fIf false 8] _ rfl (by omega) ?_).mono ?_
        · intro j hj
          rw [World.cell?_alloc_at _ _ _ _ (by simp)]
          match j, hj with
          | 0, _ => rfl
          | 1, _ => rfl
          | 2, _ => rfl
          | 3, _ => rfl
          | 4, _ => rfl
        rintro e w' ⟨rfl, rfl⟩
        rw [HSM.out]
        by_cases hx : x = 0
        · have HN := Lib.hid (HST.out.2 hx)
          subst hx
          go_wp2_with fail
          go_roundw
          case rel => exact ⟨k + 1, by omega, by go_num, (hbel.trans (hW2.mono hbel.size)).alloc (by have := hbel.size; have := hW2.size; omega) _, Lib.hid HN.out.1, Lib.hid HN.out.2⟩
          case measure => simp [intOf]; omega
        · have hne : (x == 0) = false := by simp; exact hx
          have HN := Lib.hid (HST.out.1 hx)
          clear hx
          go_wp2_with fail
          go_ret
          exact ⟨bret_int HN.out.symm, (hbel.trans (hW2.mono hbel.size)).alloc (by have := hbel.size; have := hW2.size; omega) _⟩
      · have hgd : decide (0 < k) = true := by simp; omega
        have HSM := Lib.hid ((smpF_at HY.out (t != endV (ss.take k)) (by rw [hgd, Bool.true_and]; by_cases e : t = endV (ss.take k) <;> simp [e])).trans HX.out)
        have hgd2 : (0 : Int) < (k : Int) := by omega
        have i0 : (0 : Int) ≤ (k : Int) := by omega
        have i1 : (k : Int) ≤ (n : Int) := by omega
        have i2 : (k : Int) ≤ (cap : Int) := by omega
        have hEV : Hid (∀ W', Below w.heap.size w W' → Calls Try.prog 132 #[.slice (some ⟨b, off, none⟩) k cap] W' fun e w' => e = .returned (.int .i64 (endV (ss.take k))) ∧ Below W'.heap.size W' w') := Lib.hid (fun W' hb => by
          have hl : (ss.take k).length = k := by rw [List.length_take, HZ.out]; omega
          refine endOf_any _ _ _ (ss.take k) W' ((HS.out.take k (by rw [HZ.out]; omega)).below hb (Nat.le_refl _)) hl (by omega) (fun h0 => ?_)
          have e : (ss.take k).getD (k - 1) smp0 = ss.getD (k - 1) smp0 := by simp [List.getD_eq_getElem?_getD, List.getElem?_take, show k - 1 < k by omega]
          rw [e]
          have ok := ((smpF_zero ss (k - 1)).1 (HV.out (k - 1) (by omega))).1
          have o1 := ok.1; have o2 := ok.2.1
          omega)
        have e0 : (wr.alloc (.cells #[.int .i64 t, .int .i64 s, .int .i64 h, .int .i64 z, .bool kk] 50)).cell? ⟨wr.heap.size, 0, none⟩ = some (.int .i64 t) := by rw [World.cell?_alloc_at _ _ _ _ (by simp)]; rfl
        have e1 : (wr.alloc (.cells #[.int .i64 t, .int .i64 s, .int .i64 h, .int .i64 z, .bool kk] 50)).cell? ⟨wr.heap.size, 1, none⟩ = some (.int .i64 s) := by rw [World.cell?_alloc_at _ _ _ _ (by simp)]; rfl
        have e2 : (wr.alloc (.cells #[.int .i64 t, .int .i64 s, .int .i64 h, .int .i64 z, .bool kk] 50)).cell? ⟨wr.heap.size, 2, none⟩ = some (.int .i64 h) := by rw [World.cell?_alloc_at _ _ _ _ (by simp)]; rfl
        have e3 : (wr.alloc (.cells #[.int .i64 t, .int .i64 s, .int .i64 h, .int .i64 z, .bool kk] 50)).cell? ⟨wr.heap.size, 3, none⟩ = some (.int .i64 z) := by rw [World.cell?_alloc_at _ _ _ _ (by simp)]; rfl
        go_upto_region 6 with fail
        have hW : Below wr.heap.size wr (wr.alloc (.cells #[.int .i64 t, .int .i64 s, .int .i64 h, .int .i64 z, .bool kk] 50)) := (Below.refl _ _).alloc (Nat.le_refl _) _
        have hWs : wr.heap.size < (wr.alloc (.cells #[.int .i64 t, .int .i64 s, .int .i64 h, .int .i64 z, .bool kk] 50)).heap.size := by simp
        generalize wr.alloc (.cells #[.int .i64 t, .int .i64 s, .int .i64 h, .int .i64 z, .bool kk] 50) = W at *
        have hWb : Below w.heap.size w W := hbel.trans (hW.mono hbel.size)
        go_region_held3 (fun w' => w'.cell? ⟨wr.heap.size, 0, none⟩ = some (.int .i64 t) ∧ w'.cell? ⟨wr.heap.size, 1, none⟩ = some (.int .i64 s) ∧ w'.cell? ⟨wr.heap.size, 2, none⟩ = some (.int .i64 h) ∧ w'.cell? ⟨wr.heap.size, 3, none⟩ = some (.int .i64 z) ∧ Below w.heap.size w w' ∧ wr.heap.size < w'.heap.size)
          (first | (go_keep; done) | (exact ⟨e0, e1, e2, e3, hWb, hWs⟩) | (exact ⟨e0, e1, e2, e3, hWb.drew, hWs⟩) | (exact ⟨f0, f1, f2, f3, f4, f5⟩) | (refine ⟨?_, ?_, ?_, ?_, f4.alloc f4.size _, by simp; omega⟩ <;> (rw [World.cell?_alloc_past _ _ _ f5]; assumption)))
          (first
            | (go_at_call 131; refine (btime_any _ _).mono ?_; rintro e w' ⟨rfl, rfl⟩)
            | (go_at_call 109; refine (bwithin_any _ _ _ _).mono ?_; rintro e w' ⟨rfl, rfl⟩)
            | (go_at_call 108; refine (bfaultIf_any _ _ _).mono ?_; rintro e w' ⟨rfl, rfl⟩)
            | (go_at_call 132; refine (hEV.out _ (by have hh := ‹_ ∧ _ ∧ _ ∧ _ ∧ _ ∧ _›; exact hh.2.2.2.2.1)).mono ?_; rintro e w3 ⟨rfl, b3⟩; have f0 := (b3.cell (p := ⟨wr.heap.size, 0, none⟩) hWs).trans e0; have f1 := (b3.cell (p := ⟨wr.heap.size, 1, none⟩) hWs).trans e1; have f2 := (b3.cell (p := ⟨wr.heap.size, 2, none⟩) hWs).trans e2; have f3 := (b3.cell (p := ⟨wr.heap.size, 3, none⟩) hWs).trans e3; have f4 := hWb.drew.trans (b3.mono hWb.size); have f5 : wr.heap.size < w3.heap.size := Nat.lt_of_lt_of_le hWs b3.size)
            | (go_at_call 107; refine (bfirst_any _ 0 5 5 [fIf (!inB t (-1000000000000000) 1000000000000000) 1, fIf (!inB s 0 1000000000) 1, fIf (!inB h (-1000000000) 1000000000) 1, fIf (!inB z 0 100000) 1, fIf (t != endV (List.take k ss)) 8] _ rfl (by omega) (fun j hj => by rw [World.cell?_alloc_at _ _ _ _ (by simp)]; match j, hj with | 0, _ => rfl | 1, _ => rfl | 2, _ => rfl | 3, _ => rfl | 4, _ => rfl)).mono ?_; rintro e w' ⟨rfl, rfl⟩; rw [HSM.out]))
        by_cases hx : x = 0
        · have HN := Lib.hid (HST.out.2 hx)
          subst hx
          go_wp2_with fail
          go_roundw
          case rel => exact ⟨k + 1, by omega, by go_num, f4.alloc f4.size _, Lib.hid HN.out.1, Lib.hid HN.out.2⟩
          case measure => simp [intOf]; omega
        · have hne : (x == 0) = false := by simp; exact hx
          have HN := Lib.hid (HST.out.1 hx)
          clear hx
          go_wp2_with fail
          go_ret
          exact ⟨bret_int HN.out.symm, f4.alloc f4.size _⟩
    · have hkn : k = n := by omega
      subst hkn
      have hs0 : smpsF ss = 0 := by
        have := HF.out
        rw [List.drop_of_length_le (by simp; have := HZ.out; omega)] at this
        exact this.symm
      have hfin := chkF_end ss (by rw [HZ.out]; exact hn) hs0
      have HFIN := Lib.hid hfin
      obtain ⟨E, hE⟩ : ∃ E, endV ss = E := ⟨_, rfl⟩
      have HE := Lib.hid hE
      have hEV : Hid (∀ W', Below w.heap.size w W' → Calls Try.prog 132 #[.slice (some ⟨b, off, none⟩) k cap] W' fun e w' => e = .returned (.int .i64 E) ∧ Below W'.heap.size W' w') := Lib.hid (fun W' hb => by
          rw [← hE]
          refine endOf_any _ _ _ ss W' (HS.out.below hb (Nat.le_refl _)) HZ.out (by omega) (fun h0 => ?_)
          have ok := ((smpF_zero ss (k - 1)).1 (HV.out (k - 1) (by omega))).1
          have o1 := ok.1; have o2 := ok.2.1
          omega)
      have hlt' : decide (k < k) = false := by simp
      clear hfin hE hs0 hlt2
      go_wp2_with fail
      refine (hEV.out _ hbel).mono ?_; rintro e w3 ⟨rfl, b3⟩
      go_wp2_with fail
      refine (btime_any _ _).mono ?_; rintro e w' ⟨rfl, rfl⟩
      go_wp2_with fail
      refine (bfaultIf_any _ _ _).mono ?_; rintro e w' ⟨rfl, rfl⟩
      go_wp2_with fail
      go_ret
      exact ⟨bret_int (by rw [HFIN.out, HE.out]), hbel.trans (b3.mono hbel.size)⟩

theorem chk_large (a : Option Addr) (n cap : Nat) (ss : List Smp) (w : World) (hz : ss.length = n) (hn : 5000 < n) (hm : n ≤ maxLen) :
    Calls Try.prog 66 #[.slice a n cap] w fun e w' => e = .returned (.int .i64 (chkF ss)) ∧ Below w.heap.size w w' := by
  have hc := Lib.hid (chkF_large ss (by omega))
  unfold maxLen at hm
  clear hz
  go_enter Try.func66, Try.ntmps66
  go_wp2_with fail
  go_ret
  exact ⟨bret_int hc.out.symm, Below.refl _ _⟩

set_option maxRecDepth 100000 in
theorem chk_empty (a : Option Addr) (cap : Nat) (w : World) :
    Calls Try.prog 66 #[.slice a 0 cap] w fun e w' => e = .returned (.int .i64 0) ∧ Below w.heap.size w w' := by
  have HS : Smps w (.slice a 0 cap) [] := .inl ⟨_, _, rfl, rfl⟩
  go_enter Try.func66, Try.ntmps66
  go_wp2_with fail
  refine wp_loop_rounds 1 ?_
  rw [rounds_succ]
  go_wp2_with fail
  refine (endOf_any _ _ _ [] _ HS rfl (by omega) (fun h0 => by omega)).mono ?_; rintro e w3 ⟨rfl, b3⟩
  go_wp2_with fail
  refine (btime_any _ _).mono ?_; rintro e w' ⟨rfl, rfl⟩
  go_wp2_with fail
  refine (bfaultIf_any _ _ _).mono ?_; rintro e w' ⟨rfl, rfl⟩
  go_wp2_with fail
  go_ret
  exact ⟨bret_int rfl, b3⟩

theorem Smps.max {w : World} {a : Option Addr} {n cap : Nat} {ss : List Smp} (h : Smps w (.slice a n cap) ss) : ss.length = n ∧ n ≤ maxLen := by
  rcases h with ⟨a', c', hv, h0⟩ | ⟨b', off', cap', hv, hne, hlt, hl, hm, hc⟩
  · simp only [Value.slice.injEq] at hv; exact ⟨by omega, by rw [hv.2.1]; exact Nat.zero_le _⟩
  · simp only [Value.slice.injEq] at hv; exact ⟨hv.2.1.symm, by omega⟩

/-- CheckSamples, whatever the samples. -/
theorem chk_any (v : Value) (ss : List Smp) (w : World) (h : Smps w v ss) :
    Calls Try.prog 66 #[v] w fun e w' => e = .returned (.int .i64 (chkF ss)) ∧ Below w.heap.size w w' := by
  obtain ⟨a, cap, rfl⟩ := h.parts
  by_cases h5 : 5000 < ss.length
  · exact chk_large a _ cap ss w rfl h5 h.max.2
  · have h' := h
    rcases h with ⟨a', c', hv, h0⟩ | ⟨b', off', cap', hv, hne, hlt, hl, hm, hc⟩
    · have hs : ss = [] := List.length_eq_zero_iff.1 h0
      subst hs
      rw [(chkF_zero []).2 Good.nil]
      exact chk_empty a cap w
    · simp only [Value.slice.injEq] at hv
      obtain ⟨rfl, -, rfl⟩ := hv
      exact chk_walk b' off' _ cap ss w rfl hne (by omega) hlt hl hm h'

end Go.Proofs.Ytgpiagdldcnijab
