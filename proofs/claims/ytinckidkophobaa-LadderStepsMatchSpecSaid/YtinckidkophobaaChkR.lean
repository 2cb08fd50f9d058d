/- CheckRenditions (program). -/
import Derived.Test.YtinckidkophobaaRungFn
import Derived.Deep.QuietTactic
import Derived.BigQuiet
import Derived.Deep.RegionHeld3
namespace Go.Proofs.Ytinckidkophobaa
set_option linter.unusedVariables false
set_option linter.unusedSimpArgs false
open Go.RowKit Go.Shelf Go.Deep

theorem height_any (n : Int) (w : World) :
    Calls Try.prog 30 #[.int .i64 n] w fun e w' => e = .returned (.bool (inB n 1 10000)) ∧ w = w' := by
  obtain ⟨x, hx⟩ : ∃ x, inB n 1 10000 = x := ⟨_, rfl⟩
  have HX := Lib.hid hx
  clear hx
  go_enter Try.func30, Try.ntmps30
  go_wp2_with fail
  refine (bwithin_any _ _ _ _).mono ?_; rintro e w' ⟨rfl, rfl⟩
  rw [HX.out]
  go_wp2_with fail
  go_ret
  exact ⟨bret_bool HX.out.symm, rfl⟩
theorem bfirst6 (f0 f1 f2 f3 f4 f5 : Int) (w : World) :
    Calls Try.prog 26 #[.slice (some ⟨w.heap.size, 0, none⟩) 6 6] (w.alloc (.cells #[.int .i64 f0, .int .i64 f1, .int .i64 f2, .int .i64 f3, .int .i64 f4, .int .i64 f5] 26)) fun e w' => e = .returned (.int .i64 (fstF [f0, f1, f2, f3, f4, f5])) ∧ w.alloc (.cells #[.int .i64 f0, .int .i64 f1, .int .i64 f2, .int .i64 f3, .int .i64 f4, .int .i64 f5] 26) = w' := by
  refine bfirst_any w.heap.size 0 6 6 [f0, f1, f2, f3, f4, f5] _ rfl (by omega) fun j hj => ?_
  rw [World.cell?_alloc_at _ _ _ _ (by simp)]
  match j, hj with
  | 0, _ => rfl
  | 1, _ => rfl
  | 2, _ => rfl
  | 3, _ => rfl
  | 4, _ => rfl
  | 5, _ => rfl
theorem rungE_at {rs : List Rung} {k : Nat} {r : Rung} (e : rs.getD k rung0 = r) (ris twi : Bool) (h1 : (decide (k = 0) || rless (rs.getD (k - 1) rung0) r) = ris) (h2 : ((rs.take k).any fun x => sameN x.nm r.nm) = twi) :
    fstF [fIf (!nameB r.nm) 5, fIf (!inB r.ra 1 1000000000) 1, fIf (!inB r.he 1 10000) 1, fIf (!inB r.qu 0 1000000) 1, fIf (!ris) 8, fIf twi 7] = rungE rs k := by
  unfold rungE
  rw [e, h1, h2]
set_option maxRecDepth 100000 in
set_option maxHeartbeats 8000000 in
theorem chkr_walk (b off n cap : Nat) (rs : List Rung) (w : World) (hz : rs.length = n) (hn0 : 0 < n) (hn : n ≤ 100) (hlt : b < w.heap.size) (hcn : n ≤ cap) (hcm : cap ≤ maxLen) (hS : Rungs w (.slice (some ⟨b, off, none⟩) n cap) rs) (hwf : ∀ y ∈ rs, y.nm.size ≤ maxLen) :
    Calls Try.prog 27 #[.slice (some ⟨b, off, none⟩) n cap] w fun e w' => e = .returned (.int .i64 (rgF rs)) ∧ Below w.heap.size w w' := by
  have HC := Lib.hid (fun j (hj : j < n) => hS.cells j (by omega))
  have HS := Lib.hid hS
  have HR : Hid (rgF rs = rungsF rs) := Lib.hid (rgF_few rs (by omega))
  have HZ := Lib.hid hz
  have HW : Hid (∀ j, j < n → (rs.getD j rung0).nm.size ≤ maxLen) := Lib.hid (fun j hj => hwf _ (by
    rw [List.getD_eq_getElem?_getD, List.getElem?_eq_getElem (by omega)]
    exact List.getElem_mem _))
  unfold maxLen at hcm
  clear hz hS hwf
  go_enter Try.func27, Try.ntmps27
  go_wp2_with fail
  go_loopw [13] (fun v wr => ∃ k : Nat, k ≤ n ∧ v = .int .i64 k ∧ Below w.heap.size w wr ∧ Hid (fstF (((List.range rs.length).map (rungE rs)).drop k) = rungsF rs)) (fun v _ => n - (intOf v).toNat)
  case atStart => exact ⟨0, Nat.zero_le _, rfl, Below.refl _ _, Lib.hid rfl⟩
  case round =>
    obtain ⟨k, hk, rfl, hbel, HF⟩ := hrel
    by_cases hlt2 : k < n
    rotate_left
    · have hkn : k = n := by omega
      have hfin : rgF rs = 0 := by rw [HR.out, ← HF.out, List.drop_of_length_le (by simp [HZ.out]; omega)]; rfl
      have HFIN := Lib.hid hfin
      have hlt' : decide (k < n) = false := by simp; omega
      clear hlt2 hkn hfin
      go_wp2_with fail
      go_ret
      exact ⟨bret_int HFIN.out.symm, hbel⟩
    · obtain ⟨r, hr⟩ : ∃ r, rs.getD k rung0 = r := ⟨_, rfl⟩
      obtain ⟨c0, c1, c2, c3⟩ := HC.out k hlt2
      have HNM := Lib.hid (HW.out k hlt2)
      rw [hr] at c0 c1 c2 c3 HNM
      rw [← hbel.cell (p := ⟨b, off + k * 4, none⟩) hlt] at c0
      rw [← hbel.cell (p := ⟨b, off + k * 4 + 1, none⟩) hlt] at c1
      rw [← hbel.cell (p := ⟨b, off + k * 4 + 2, none⟩) hlt] at c2
      rw [← hbel.cell (p := ⟨b, off + k * 4 + 3, none⟩) hlt] at c3
      have HRK := Lib.hid hr
      obtain ⟨x, hx⟩ : ∃ x, rungE rs k = x := ⟨_, rfl⟩
      have HST : Hid ((x ≠ 0 → rgF rs = x) ∧ (x = 0 → fstF (((List.range rs.length).map (rungE rs)).drop (k + 1)) = rungsF rs)) := Lib.hid (by
        have hd := rungsF_drop rs k (by rw [HZ.out]; exact hlt2)
        rw [HF.out, hx] at hd
        exact ⟨fun h => by rw [if_neg h] at hd; rw [HR.out]; exact hd, fun h => by rw [if_pos h] at hd; exact hd.symm⟩)
      have HX := Lib.hid hx
      have hltr : b < wr.heap.size := Nat.lt_of_lt_of_le hlt hbel.size
      clear hr hx
      have FX0 := Four.new wr r 56
      have hbel := hbel.alloc (o := .cells #[.string r.nm, .int .i64 r.ra, .int .i64 r.he, .int .i64 r.qu] 56) hbel.size
      obtain ⟨twi, htw⟩ : ∃ twi, ((rs.take k).any fun x => sameN x.nm r.nm) = twi := ⟨_, rfl⟩
      have i0 : (0 : Int) ≤ (k : Int) := by omega
      have i1 : (k : Int) ≤ (cap : Int) := by omega
      by_cases hk0 : k < 1
      · have hkz : ((k : Int) == 0) = true := by simp; omega
        have HSM : Hid (fstF [fIf (!nameB r.nm) 5, fIf (!inB r.ra 1 1000000000) 1, fIf (!inB r.he 1 10000) 1, fIf (!inB r.qu 0 1000000) 1, fIf false 8, fIf twi 7] = x) := Lib.hid ((rungE_at HRK.out true twi (by rw [show decide (k = 0) = true by simp; omega]; rfl) htw).trans HX.out)
        have HCT : Hid (∀ (W : World), Below w.heap.size w W → Four W wr.heap.size r → Calls Try.prog 36 #[.slice (some ⟨b, off, none⟩) k cap, .func (.func 58) #[] #[.pointer (some ⟨wr.heap.size, 0, none⟩)]] W fun e w' => e = .returned (.bool twi) ∧ Below W.heap.size W w') := Lib.hid (fun W hW hFW => by
          rw [← htw]
          exact rcontains_any _ (rs.take k) (fun x => sameN x.nm r.nm) 58 #[.pointer (some ⟨wr.heap.size, 0, none⟩)] (enters_of Try.func58 (by kernel_rfl) rfl) W ((HS.out.below hW (Nat.le_refl _)).take k (by have := HZ.out; omega)) (fun W' x hb' => (sameName_any x r wr.heap.size W' ((hFW.below hb' hFW.lt).c0) (hFW.below hb' hFW.lt).lt).mono (fun e w' ⟨h1, h2⟩ => ⟨h1, hb'.trans (h2.mono hb'.size)⟩)))
        go_upto_region 6 with fail
        generalize wr.alloc (.cells #[.string r.nm, .int .i64 r.ra, .int .i64 r.he, .int .i64 r.qu] 56) = W at *
        clear c0 c1 c2 c3 htw
        go_quiet (fail)
        have hbel := below_drewN hbel nq
        have FX := FX0.drewN nq
        generalize W.drewN nq = W1 at *
        go_wp2_with fail
        refine (HCT.out _ hbel FX).mono ?_; rintro e w3 ⟨rfl, b3⟩
        have hbel := hbel.trans (b3.mono hbel.size)
        have FX := FX.below b3 FX.lt
        clear HCT b3 FX0
        go_upto_region 8 with fail
        generalize w3 = W at *
        have hnm := HNM.out
        have d0 := FX.c0; have d1 := FX.c1; have d2 := FX.c2; have d3 := FX.c3
        refine region_still_tail 25 (by kernel_rfl) (by kernel_rfl) ?_
        simp only [List.take_succ_cons, List.take_zero, List.drop_succ_cons, List.drop_zero]
        refine St.step (fun K hK => ?_); go_simp; refine hK.out _ ?_; clear hK K
        refine St.step (fun K hK => ?_); go_simp; refine hK.out _ ?_; clear hK K
        refine St.step (fun K hK => ?_); go_simp; refine ⟨_, (st_of (isName_any _ _ hnm)), ?_⟩; refine hK.out _ ?_; clear hK K
        refine St.step (fun K hK => ?_); go_simp; refine hK.out _ ?_; clear hK K
        refine St.step (fun K hK => ?_); go_simp; refine ⟨_, (st_of (bfaultIf_any _ _ _)), ?_⟩; refine hK.out _ ?_; clear hK K
        refine St.step (fun K hK => ?_); go_simp; refine hK.out _ ?_; clear hK K
        refine St.step (fun K hK => ?_); go_simp; refine hK.out _ ?_; clear hK K
        refine St.step (fun K hK => ?_); go_simp; refine ⟨_, (st_of (bwithin_any _ _ _ _)), ?_⟩; refine hK.out _ ?_; clear hK K
        refine St.step (fun K hK => ?_); go_simp; refine hK.out _ ?_; clear hK K
        refine St.step (fun K hK => ?_); go_simp; refine ⟨_, (st_of (bfaultIf_any _ _ _)), ?_⟩; refine hK.out _ ?_; clear hK K
        refine St.step (fun K hK => ?_); go_simp; refine hK.out _ ?_; clear hK K
        refine St.step (fun K hK => ?_); go_simp; refine hK.out _ ?_; clear hK K
        refine St.step (fun K hK => ?_); go_simp; refine ⟨_, (st_of (height_any _ _)), ?_⟩; refine hK.out _ ?_; clear hK K
        refine St.step (fun K hK => ?_); go_simp; refine hK.out _ ?_; clear hK K
        refine St.step (fun K hK => ?_); go_simp; refine ⟨_, (st_of (bfaultIf_any _ _ _)), ?_⟩; refine hK.out _ ?_; clear hK K
        refine St.step (fun K hK => ?_); go_simp; refine hK.out _ ?_; clear hK K
        refine St.step (fun K hK => ?_); go_simp; refine hK.out _ ?_; clear hK K
        refine St.step (fun K hK => ?_); go_simp; refine ⟨_, (st_of (bwithin_any _ _ _ _)), ?_⟩; refine hK.out _ ?_; clear hK K
        refine St.step (fun K hK => ?_); go_simp; refine hK.out _ ?_; clear hK K
        refine St.step (fun K hK => ?_); go_simp; refine ⟨_, (st_of (bfaultIf_any _ _ _)), ?_⟩; refine hK.out _ ?_; clear hK K
        refine St.step (fun K hK => ?_); go_simp; refine hK.out _ ?_; clear hK K
        refine St.step (fun K hK => ?_); go_simp; refine hK.out _ ?_; clear hK K
        refine St.step (fun K hK => ?_); go_simp; refine ⟨_, (st_of (bfaultIf_any _ _ _)), ?_⟩; refine hK.out _ ?_; clear hK K
        refine St.step (fun K hK => ?_); go_simp; refine hK.out _ ?_; clear hK K
        refine St.step (fun K hK => ?_); go_simp; refine ⟨_, (st_of (bfaultIf_any _ _ _)), ?_⟩; refine hK.out _ ?_; clear hK K
        refine St.nil ?_
        have hbel := hbel.drew
        clear d0 d1 d2 d3 FX
        generalize W.drew = w2 at *
        go_wp2_with fail
        refine (bfirst6 _ _ _ _ _ _ _).mono ?_; rintro e w' ⟨rfl, rfl⟩
        rw [HSM.out]
        by_cases hx : x = 0
        · have HN := Lib.hid (HST.out.2 hx)
          subst hx
          go_wp2_with fail
          go_roundw
          case rel => exact ⟨k + 1, by omega, by go_num, hbel.alloc hbel.size _, HN⟩
          case measure => simp [intOf]; omega
        · have hne : (x == 0) = false := by simp; exact hx
          have HN := Lib.hid (HST.out.1 hx)
          clear hx
          go_wp2_with fail
          go_ret
          exact ⟨bret_int HN.out.symm, hbel.alloc hbel.size _⟩
      · have hkz : ((k : Int) == 0) = false := by simp; omega
        obtain ⟨p, hp⟩ : ∃ p, rs.getD (k - 1) rung0 = p := ⟨_, rfl⟩
        obtain ⟨q0, q1, q2, q3⟩ := HC.out (k - 1) (by omega)
        rw [hp] at q0 q1 q2 q3
        have HRI := Lib.hid (cmpR_lt p r)
        obtain ⟨ris, hris⟩ : ∃ ris, rless p r = ris := ⟨_, rfl⟩
        rw [hris] at HRI
        have HSM := Lib.hid ((rungE_at HRK.out ris twi (by rw [hp, hris, show decide (k = 0) = false by simp; omega]; rfl) htw).trans HX.out)
        have HCT : Hid (∀ (W : World), Below w.heap.size w W → Four W wr.heap.size r → Calls Try.prog 36 #[.slice (some ⟨b, off, none⟩) k cap, .func (.func 58) #[] #[.pointer (some ⟨wr.heap.size, 0, none⟩)]] W fun e w' => e = .returned (.bool twi) ∧ Below W.heap.size W w') := Lib.hid (fun W hW hFW => by
          rw [← htw]
          exact rcontains_any _ (rs.take k) (fun x => sameN x.nm r.nm) 58 #[.pointer (some ⟨wr.heap.size, 0, none⟩)] (enters_of Try.func58 (by kernel_rfl) rfl) W ((HS.out.below hW (Nat.le_refl _)).take k (by have := HZ.out; omega)) (fun W' x hb' => (sameName_any x r wr.heap.size W' ((hFW.below hb' hFW.lt).c0) (hFW.below hb' hFW.lt).lt).mono (fun e w' ⟨h1, h2⟩ => ⟨h1, hb'.trans (h2.mono hb'.size)⟩)))
        have i2 : (0 : Int) ≤ (k : Int) - 1 := by omega
        have i6 : (1 : Int) ≤ (k : Int) := by omega
        have i3 : (k : Int) - 1 < (n : Int) := by omega
        have i4 : ((k : Int) - 1).toNat = k - 1 := by omega
        have i5 : IntKind.i64.wrap ((k : Int) - 1) = (k : Int) - 1 := IntWalk.i64_in _ ⟨by omega, by omega⟩
        go_upto_region 6 with fail
        generalize wr.alloc (.cells #[.string r.nm, .int .i64 r.ra, .int .i64 r.he, .int .i64 r.qu] 56) = W at *
        rw [← hbel.cell (p := ⟨b, off + (k - 1) * 4, none⟩) hlt] at q0
        rw [← hbel.cell (p := ⟨b, off + (k - 1) * 4 + 1, none⟩) hlt] at q1
        rw [← hbel.cell (p := ⟨b, off + (k - 1) * 4 + 2, none⟩) hlt] at q2
        rw [← hbel.cell (p := ⟨b, off + (k - 1) * 4 + 3, none⟩) hlt] at q3
        have FX := FX0
        have d0 := FX.c0; have d1 := FX.c1; have d2 := FX.c2; have d3 := FX.c3
        have dl := FX.lt
        clear c0 c1 c2 c3 htw hp hris
        refine region_still_tail 9 (by kernel_rfl) (by kernel_rfl) ?_
        simp only [List.take_succ_cons, List.take_zero, List.drop_succ_cons, List.drop_zero]
        refine St.step (fun K hK => ?_); go_simp; refine hK.out _ ?_; clear hK K
        refine St.step (fun K hK => ?_); go_simp; refine hK.out _ ?_; clear hK K
        refine St.step (fun K hK => ?_); go_simp; refine hK.out _ ?_; clear hK K
        refine St.step (fun K hK => ?_); go_simp; refine hK.out _ ?_; clear hK K
        refine St.step (fun K hK => ?_); go_simp; refine hK.out _ ?_; clear hK K
        refine St.step (fun K hK => ?_); go_simp; refine hK.out _ ?_; clear hK K
        refine St.step (fun K hK => ?_); go_simp; refine hK.out _ ?_; clear hK K
        refine St.step (fun K hK => ?_); go_simp; refine hK.out _ ?_; clear hK K
        refine St.step (fun K hK => ?_); go_simp; refine hK.out _ ?_; clear hK K
        refine St.nil ?_
        have hbel := hbel.drew
        have FX := FX.drew
        clear d0 d1 d2 d3 q0 q1 q2 q3
        generalize W.drew = W1 at *
        go_wp2_with fail
        refine (compare_any p r _).mono ?_; rintro e w3 ⟨rfl, b3⟩
        have hbel := hbel.trans (b3.mono hbel.size)
        have FX := FX.below b3 FX.lt
        go_wp2_with fail
        rw [HRI.out]
        refine (HCT.out _ hbel FX).mono ?_; rintro e w4 ⟨rfl, b4⟩
        have hbel := hbel.trans (b4.mono hbel.size)
        have FX := FX.below b4 FX.lt
        clear HCT b3 b4 FX0 HRI
        go_upto_region 8 with fail
        generalize w4 = W at *
        have hnm := HNM.out
        have d0 := FX.c0; have d1 := FX.c1; have d2 := FX.c2; have d3 := FX.c3
        refine region_still_tail 25 (by kernel_rfl) (by kernel_rfl) ?_
        simp only [List.take_succ_cons, List.take_zero, List.drop_succ_cons, List.drop_zero]
        refine St.step (fun K hK => ?_); go_simp; refine hK.out _ ?_; clear hK K
        refine St.step (fun K hK => ?_); go_simp; refine hK.out _ ?_; clear hK K
        refine St.step (fun K hK => ?_); go_simp; refine ⟨_, (st_of (isName_any _ _ hnm)), ?_⟩; refine hK.out _ ?_; clear hK K
        refine St.step (fun K hK => ?_); go_simp; refine hK.out _ ?_; clear hK K
        refine St.step (fun K hK => ?_); go_simp; refine ⟨_, (st_of (bfaultIf_any _ _ _)), ?_⟩; refine hK.out _ ?_; clear hK K
        refine St.step (fun K hK => ?_); go_simp; refine hK.out _ ?_; clear hK K
        refine St.step (fun K hK => ?_); go_simp; refine hK.out _ ?_; clear hK K
        refine St.step (fun K hK => ?_); go_simp; refine ⟨_, (st_of (bwithin_any _ _ _ _)), ?_⟩; refine hK.out _ ?_; clear hK K
        refine St.step (fun K hK => ?_); go_simp; refine hK.out _ ?_; clear hK K
        refine St.step (fun K hK => ?_); go_simp; refine ⟨_, (st_of (bfaultIf_any _ _ _)), ?_⟩; refine hK.out _ ?_; clear hK K
        refine St.step (fun K hK => ?_); go_simp; refine hK.out _ ?_; clear hK K
        refine St.step (fun K hK => ?_); go_simp; refine hK.out _ ?_; clear hK K
        refine St.step (fun K hK => ?_); go_simp; refine ⟨_, (st_of (height_any _ _)), ?_⟩; refine hK.out _ ?_; clear hK K
        refine St.step (fun K hK => ?_); go_simp; refine hK.out _ ?_; clear hK K
        refine St.step (fun K hK => ?_); go_simp; refine ⟨_, (st_of (bfaultIf_any _ _ _)), ?_⟩; refine hK.out _ ?_; clear hK K
        refine St.step (fun K hK => ?_); go_simp; refine hK.out _ ?_; clear hK K
        refine St.step (fun K hK => ?_); go_simp; refine hK.out _ ?_; clear hK K
        refine St.step (fun K hK => ?_); go_simp; refine ⟨_, (st_of (bwithin_any _ _ _ _)), ?_⟩; refine hK.out _ ?_; clear hK K
        refine St.step (fun K hK => ?_); go_simp; refine hK.out _ ?_; clear hK K
        refine St.step (fun K hK => ?_); go_simp; refine ⟨_, (st_of (bfaultIf_any _ _ _)), ?_⟩; refine hK.out _ ?_; clear hK K
        refine St.step (fun K hK => ?_); go_simp; refine hK.out _ ?_; clear hK K
        refine St.step (fun K hK => ?_); go_simp; refine hK.out _ ?_; clear hK K
        refine St.step (fun K hK => ?_); go_simp; refine ⟨_, (st_of (bfaultIf_any _ _ _)), ?_⟩; refine hK.out _ ?_; clear hK K
        refine St.step (fun K hK => ?_); go_simp; refine hK.out _ ?_; clear hK K
        refine St.step (fun K hK => ?_); go_simp; refine ⟨_, (st_of (bfaultIf_any _ _ _)), ?_⟩; refine hK.out _ ?_; clear hK K
        refine St.nil ?_
        have hbel := hbel.drew
        clear d0 d1 d2 d3 FX
        generalize W.drew = w2 at *
        go_wp2_with fail
        refine (bfirst6 _ _ _ _ _ _ _).mono ?_; rintro e w' ⟨rfl, rfl⟩
        rw [HSM.out]
        by_cases hx : x = 0
        · have HN := Lib.hid (HST.out.2 hx)
          subst hx
          go_wp2_with fail
          go_roundw
          case rel => exact ⟨k + 1, by omega, by go_num, hbel.alloc hbel.size _, HN⟩
          case measure => simp [intOf]; omega
        · have hne : (x == 0) = false := by simp; exact hx
          have HN := Lib.hid (HST.out.1 hx)
          clear hx
          go_wp2_with fail
          go_ret
          exact ⟨bret_int HN.out.symm, hbel.alloc hbel.size _⟩

theorem chkr_none (a : Option Addr) (cap : Nat) (w : World) : Calls Try.prog 27 #[.slice a 0 cap] w fun e w' => e = .returned (.int .i64 0) ∧ w = w' := by
  go_enter Try.func27, Try.ntmps27
  go_wp2_with fail
  refine wp_loop_rounds 1 ?_
  rw [rounds_succ]
  go_wp2_with fail
  go_ret
  exact ⟨rfl, rfl⟩
theorem chkr_large (a : Option Addr) (n cap : Nat) (w : World) (h : 100 < n) : Calls Try.prog 27 #[.slice a n cap] w fun e w' => e = .returned (.int .i64 2) ∧ w = w' := by
  have z1 : decide ((100 : Int) < (n : Int)) = true := by simp; omega
  go_enter Try.func27, Try.ntmps27
  go_wp2_with fail
  go_ret
  exact ⟨rfl, rfl⟩
theorem chkr_any (v : Value) (rs : List Rung) (w : World) (h : Rungs w v rs) (hwf : ∀ y ∈ rs, y.nm.size ≤ maxLen) :
    Calls Try.prog 27 #[v] w fun e w' => e = .returned (.int .i64 (rgF rs)) ∧ Below w.heap.size w w' := by
  by_cases h0 : rs.length = 0
  · have : rs = [] := List.length_eq_zero_iff.1 h0
    subst this
    obtain ⟨a, cap, rfl⟩ := h.parts
    refine (chkr_none a cap w).mono ?_
    rintro e w' ⟨rfl, rfl⟩
    exact ⟨rfl, Below.refl _ _⟩
  · by_cases h1 : 100 < rs.length
    · obtain ⟨a, cap, rfl⟩ := h.parts
      refine (chkr_large a rs.length cap w h1).mono ?_
      rintro e w' ⟨rfl, rfl⟩
      exact ⟨by rw [rgF_large rs h1], Below.refl _ _⟩
    · obtain ⟨b, off, cap, rfl, hlt, hl, hm⟩ := h.spot (by omega)
      exact chkr_walk b off rs.length cap rs w rfl (by omega) (by omega) hlt hl hm h hwf

end Go.Proofs.Ytinckidkophobaa
