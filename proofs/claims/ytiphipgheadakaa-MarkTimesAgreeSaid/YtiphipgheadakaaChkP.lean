/- CheckParts (program). -/
import Derived.Test.YtiphipgheadakaaChkP1
import Derived.Test.YtiphipgheadakaaChkP2
import Derived.Test.YtiphipgheadakaaChkP3
import Derived.Deep.SlicePairs
import Derived.Deep.RegionHeld3
import Derived.BigQuiet
import Derived.Deep.QuietTactic
import Derived.Deep.DeepCutAuto
import Derived.Deep.CutBlock
namespace Go.Proofs.Ytiphipgheadakaa
set_option linter.unusedVariables false
set_option linter.unusedSimpArgs false
open Go.RowKit

/-- Where the programme is behind a part. -/
def enN (en : Int) (p : Prt) : Int := if isAd p = true then en else IntKind.i64.wrap (p.fr + p.ln)
theorem ptsF_skip {ps : List Prt} : ∀ {k : Nat}, k ≤ ps.length → (∀ i, i < k → ptsE ps i = 0) → ptsF ps = fstF (((List.range ps.length).map (ptsE ps)).drop k)
  | 0, _, _ => by rw [List.drop_zero]; rfl
  | k + 1, hk, h => by
    rw [ptsF_skip (k := k) (by omega) (fun i hi => h i (by omega)), ptsF_drop ps k (by omega), if_pos (h k (by omega))]
theorem ptsF_at {ps : List Prt} {k : Nat} (hk : k < ps.length) (h : ∀ i, i < k → ptsE ps i = 0) (hz : ptsE ps k ≠ 0) : ptsF ps = ptsE ps k := by
  rw [ptsF_skip (by omega) h, ptsF_drop ps k hk, if_neg hz]
theorem chkp_any (i : Int) (p : Prt) (en al : Int) (EB AB B : Nat) (w : World) (hE : Vr w EB (.int .i64 en)) (hV : Vr w AB (.int .i64 al)) (hne : AB ≠ EB) (hB1 : B ≤ EB) (hB2 : B ≤ AB) (hm : p.ad.size ≤ maxLen) :
    Calls Try.prog 57 #[.int .i64 i, .agg #[.string p.ad, .int .i64 p.fr, .int .i64 p.ln], .pointer (some ⟨EB, 0, none⟩), .pointer (some ⟨AB, 0, none⟩)] w fun r w' => r = .returned (.int .i64 (ptE en p)) ∧ Vr w' EB (.int .i64 (enN en p)) ∧ Vr w' AB (.int .i64 (IntKind.i64.wrap (al + p.ln))) ∧ Below B w w' := by
  obtain ⟨ad, fr, ln⟩ := p
  by_cases hA : 0 < ad.size
  · have e : enN en ⟨ad, fr, ln⟩ = en := if_pos (decide_eq_true hA)
    rw [e]
    cases hL : inB ln 1 1000000000000000
    · exact chkp_an i ad fr ln en al EB AB B w hE hV hne hB1 hB2 hm hA hL
    · cases hF : inB fr 0 1000000000000000
      · exact chkp_af i ad fr ln en al EB AB B w hE hV hne hB1 hB2 hm hA hL hF
      · exact chkp_ag i ad fr ln en al EB AB B w hE hV hne hB1 hB2 hm hA hL hF
  · have hA : ad.size = 0 := by omega
    have e : enN en ⟨ad, fr, ln⟩ = IntKind.i64.wrap (fr + ln) := if_neg (by simp [isAd, hA])
    rw [e]
    cases hL : inB ln 1 1000000000000000
    · exact chkp_pn i ad fr ln en al EB AB B w hE hV hne hB1 hB2 hm hA hL
    · cases hF : inB fr 0 1000000000000000
      · exact chkp_pf i ad fr ln en al EB AB B w hE hV hne hB1 hB2 hm hA hL hF
      · exact chkp_pg i ad fr ln en al EB AB B w hE hV hne hB1 hB2 hm hA hL hF
set_option maxRecDepth 100000 in
set_option maxHeartbeats 16000000 in
theorem eachp_walk (a : Option Addr) (n cap : Nat) (ps : List Prt) (EB AB B : Nat) (w : World) (hS : ∀ W, Below B w W → Prts W (.slice a n cap) ps) (hn : ps.length = n) (hn0 : n ≤ 1000) (hwf : ∀ y ∈ ps, y.ad.size ≤ maxLen)
    (hE : Vr w EB (.int .i64 0)) (hV : Vr w AB (.int .i64 0)) (hne : AB ≠ EB) (hB1 : B ≤ EB) (hB2 : B ≤ AB) :
    Calls Try.prog 56 #[.slice a n cap, .func (.func 57) #[] #[.pointer (some ⟨EB, 0, none⟩), .pointer (some ⟨AB, 0, none⟩)]] w fun r w' => r = .returned (.int .i64 (ptsF ps)) ∧ (∃ A, Vr w' AB (.int .i64 A) ∧ (ptsF ps = 0 → A = alTo ps n)) ∧ Below B w w' := by
  have HS := Lib.hid hS; have HN := Lib.hid hn
  have HW : Hid (∀ j, j < n → (ps.getD j prt0).ad.size ≤ maxLen) := Lib.hid (fun j hj => hwf _ (by
    rw [List.getD_eq_getElem?_getD, List.getElem?_eq_getElem (by omega)]
    exact List.getElem_mem _))
  obtain ⟨R, hR⟩ : ∃ R, ptsF ps = R := ⟨_, rfl⟩
  rw [hR]
  have HR := Lib.hid hR
  clear hS hn hwf hR
  go_enter Try.func56, Try.ntmps56
  go_wp2_with fail
  go_loopw [10] (fun v wr => ∃ k : Nat, k ≤ n ∧ v = .int .i64 k ∧ Vr wr EB (.int .i64 (enTo ps k)) ∧ Vr wr AB (.int .i64 (alTo ps k)) ∧ Below B w wr ∧ Hid (∀ i, i < k → ptsE ps i = 0)) (fun v _ => n - (intOf v).toNat)
  case atStart => exact ⟨0, Nat.zero_le _, rfl, hE, hV, Below.refl _ _, Lib.hid (fun i hi => by omega)⟩
  case round =>
    clear hE hV
    obtain ⟨k, hk, rfl, hE, hV, hbr, HK⟩ := hrel
    by_cases hk2 : k < n
    rotate_left
    · have hkn : k = n := by omega
      have hz : ptsF ps = 0 := (ptsF_zero ps).2 (fun i hi => HK.out i (by have := HN.out; omega))
      have e1 : R = 0 := by rw [← HR.out, hz]
      have kD : decide ((k : Int) < (n : Int)) = false := by simp; omega
      have kD2 : decide (k < n) = false := by simp; omega
      have hfin : ∃ A, Vr wr AB (.int .i64 A) ∧ ((0 : Int) = 0 → A = alTo ps n) := ⟨_, hV, fun _ => by rw [hkn]⟩
      have hfin2 : Vr wr AB (.int .i64 (alTo ps n)) := by rw [hkn] at hV; exact hV
      subst e1
      clear hkn hE hV hz
      go_wp2_with fail
      go_ret
      exact ⟨rfl, by first | exact hfin | exact hfin2, hbr⟩
    · have hSW := HS.out wr hbr
      obtain ⟨b, off, cap', hv, hlt, -, -⟩ := hSW.spot (by rw [HN.out]; omega)
      simp only [Value.slice.injEq] at hv
      obtain ⟨rfl, -, rfl⟩ := hv
      obtain ⟨c0, c1, c2⟩ := hSW.cells k (by rw [HN.out]; exact hk2)
      have hsz := HW.out k hk2
      have hbd := to_bd HK.out
      have HAT : Hid (ptsE ps k ≠ 0 → R = ptsE ps k) := Lib.hid (fun h => by rw [← HR.out]; exact ptsF_at (by rw [HN.out]; exact hk2) HK.out h)
      have HNX : Hid (ptsE ps k = 0 → ∀ i, i < k + 1 → ptsE ps i = 0) := Lib.hid (fun h i hi => by
        by_cases e : i = k
        · subst e; exact h
        · exact HK.out i (by omega))
      have HEN : Hid (ptsE ps k = 0 → enN (enTo ps k) (ps.getD k prt0) = enTo ps (k + 1)) := Lib.hid (fun h => by
        have g := (ptE_zero.1 h).1
        obtain ⟨-, g1, g2, g3, -⟩ := g
        rw [enN, enTo]
        split
        · rfl
        · exact IntWalk.i64_in _ ⟨by omega, by omega⟩)
      have HAL : Hid (ptsE ps k = 0 → IntKind.i64.wrap (alTo ps k + (ps.getD k prt0).ln) = alTo ps (k + 1)) := Lib.hid (fun h => by
        have g := (ptE_zero.1 h).1
        obtain ⟨-, g1, g2, g3, -⟩ := g
        rw [alTo]
        exact IntWalk.i64_in _ ⟨by omega, by omega⟩)
      have hpe : ptsE ps k = ptE (enTo ps k) (ps.getD k prt0) := rfl
      obtain ⟨z, hz⟩ : ∃ z, ptsE ps k = z := ⟨_, rfl⟩
      rw [hz] at HAT HNX HEN HAL hpe
      obtain ⟨en, hen⟩ : ∃ en, enTo ps k = en := ⟨_, rfl⟩
      obtain ⟨al, hal⟩ : ∃ al, alTo ps k = al := ⟨_, rfl⟩
      obtain ⟨x, hx⟩ : ∃ x, ps.getD k prt0 = x := ⟨_, rfl⟩
      rw [hen] at hE HEN hpe
      rw [hal] at hV HAL
      rw [hx] at c0 c1 c2 hsz HEN HAL hpe
      have HC : Hid (∀ W, Vr W EB (.int .i64 en) → Vr W AB (.int .i64 al) → Calls Try.prog 57 #[.int .i64 k, .agg #[.string x.ad, .int .i64 x.fr, .int .i64 x.ln], .pointer (some ⟨EB, 0, none⟩), .pointer (some ⟨AB, 0, none⟩)] W fun r w' => r = .returned (.int .i64 z) ∧ Vr w' EB (.int .i64 (enN en x)) ∧ Vr w' AB (.int .i64 (IntKind.i64.wrap (al + x.ln))) ∧ Below B W w') := Lib.hid (fun W h1 h2 => by rw [hpe]; exact chkp_any _ x en al EB AB B W h1 h2 hne hB1 hB2 hsz)
      have kI : (k : Int) < (n : Int) := by omega
      have hwI : IntKind.i64.wrap ((k : Int) + 1) = (k : Int) + 1 := IntWalk.i64_in _ ⟨by omega, by omega⟩
      have PX := PBox.new wr x 44
      have hBr : B ≤ wr.heap.size := by have := hE.lt; omega
      have hE := hE.alloc (.cells #[.string x.ad, .int .i64 x.fr, .int .i64 x.ln] 44)
      have hV := hV.alloc (.cells #[.string x.ad, .int .i64 x.fr, .int .i64 x.ln] 44)
      have hbr := hbr.alloc (o := .cells #[.string x.ad, .int .i64 x.fr, .int .i64 x.ln] 44) hBr
      clear hpe hz hen hal hx hsz hbd hSW hBr HK
      go_upto_region 4 with fail
      generalize wr.alloc (.cells #[.string x.ad, .int .i64 x.fr, .int .i64 x.ln] 44) = W9 at *
      generalize wr.heap.size = X9 at *
      clear c0 c1 c2
      have y0 := PX.c0; have y1 := PX.c1; have y2 := PX.c2; have yl := PX.lt
      go_wp2_with fail
      refine (HC.out _ hE hV).mono ?_; rintro e w5 ⟨rfl, hE, hV, b5⟩
      have hbn := hbr.trans b5
      clear y0 y1 y2 yl PX b5 hbr HC
      by_cases h0 : z = 0
      · have HN2 := Lib.hid (HNX.out h0)
        rw [HEN.out h0] at hE
        rw [HAL.out h0] at hV
        subst h0
        clear HEN HAL HNX HAT
        go_wp2_with fail
        go_roundw
        case rel => exact ⟨k + 1, by omega, by go_num, hE, hV, hbn, HN2⟩
        case measure => simp [intOf]; omega
      · have hne2 : (z == 0) = false := by simp; exact h0
        have hne3 : (z != 0) = true := by simp; exact h0
        have e1 : R = z := HAT.out h0
        subst e1
        have hfin : ∃ A, Vr w5 AB (.int .i64 A) ∧ (R = 0 → A = alTo ps n) := ⟨_, hV, fun h => absurd h h0⟩
        clear HEN HAL HNX HAT hE hV
        go_wp2_with fail
        go_ret
        exact ⟨rfl, hfin, hbn⟩
set_option maxRecDepth 100000 in
set_option maxHeartbeats 16000000 in
theorem CheckParts_any (v : Value) (ps : List Prt) (w : World) (hS : Prts w v ps) (hwf : ∀ y ∈ ps, y.ad.size ≤ maxLen) :
    Calls Try.prog 25 #[v] w fun e w' => e = .returned (.int .i64 (ptF ps)) ∧ Below w.heap.size w w' := by
  obtain ⟨a, cap, rfl⟩ := hS.parts
  have hlen := hS.max.2
  obtain ⟨n, hn⟩ : ∃ n, ps.length = n := ⟨_, rfl⟩
  obtain ⟨R, hR⟩ : ∃ R, ptF ps = R := ⟨_, rfl⟩
  rw [hR]
  have HN := Lib.hid hn; have HS := Lib.hid hS
  rw [hn] at hlen ⊢
  unfold maxLen at hlen
  by_cases hbig : 1000 < n
  · have e1 : R = 2 := by rw [← hR]; exact ptF_large ps (by omega)
    subst e1
    clear hn hR hS hwf
    go_enter Try.func25, Try.ntmps25
    go_wp2_with fail
    go_ret
    exact ⟨rfl, Below.refl _ _⟩
  · have HR : Hid (R = if ptsF ps = 0 then fIf (decide (1000000000000000 < alTo ps n)) 1 else ptsF ps) := Lib.hid (by rw [← hR, ptF_few ps (by omega), hn])
    have kD : decide ((1000 : Int) < (n : Int)) = false := by simp; omega
    have kD2 : decide (1000 < n) = false := by simp; omega
    have V0 := Vr.new w (.int .i64 0) 3
    have b1 : Below w.heap.size w (w.alloc (.cells #[.int .i64 0] 3)) := (Below.refl _ w).alloc (Nat.le_refl _) _
    have V1 := Vr.new (w.alloc (.cells #[.int .i64 0] 3)) (.int .i64 0) 3
    have V0 := V0.alloc (.cells #[.int .i64 0] 3)
    have b1 := b1.alloc (o := .cells #[.int .i64 0] 3) b1.size
    have hs : (w.alloc (.cells #[.int .i64 0] 3)).heap.size = w.heap.size + 1 := by simp
    rw [hs] at V1
    have HE : Hid (∀ W, Below w.heap.size w W → Vr W (w.heap.size + 1) (.int .i64 0) → Vr W w.heap.size (.int .i64 0) → Calls Try.prog 56 #[.slice a n cap, .func (.func 57) #[] #[.pointer (some ⟨w.heap.size + 1, 0, none⟩), .pointer (some ⟨w.heap.size, 0, none⟩)]] W fun r w' => r = .returned (.int .i64 (ptsF ps)) ∧ (∃ A, Vr w' w.heap.size (.int .i64 A) ∧ (ptsF ps = 0 → A = alTo ps n)) ∧ Below w.heap.size W w') := Lib.hid (fun W hb h1 h0 =>
      eachp_walk a n cap ps _ _ w.heap.size W (fun W' hb' => by rw [← hn]; exact hS.below (hb.trans hb') (Nat.le_refl _)) hn (by omega) hwf h1 h0 (by omega) (by omega) (Nat.le_refl _))
    obtain ⟨F, hF⟩ : ∃ F, ptsF ps = F := ⟨_, rfl⟩
    rw [hF] at HR HE
    clear hn hR hS hwf hF hs hbig
    go_enter Try.func25, Try.ntmps25
    go_upto_region 4 with fail
    generalize (w.alloc (.cells #[.int .i64 0] 3)).alloc (.cells #[.int .i64 0] 3) = W at *
    go_wp2_with fail
    refine (HE.out _ b1 V1 V0).mono ?_; rintro e w3 ⟨rfl, ⟨A, hA, hA2⟩, b3⟩
    have b4 := b1.trans b3
    have a0 := hA.c; have al := hA.lt
    have HA2 := Lib.hid hA2
    clear V0 V1 b1 b3 HE hA hA2
    go_wp2_with fail
    refine (bfaultIf_any _ _ _).mono ?_; rintro e w' ⟨rfl, rfl⟩
    go_wp2_with fail
    refine (lfirst2 _ _ _).mono ?_; rintro e w' ⟨rfl, rfl⟩
    have e1 : fstF [F, fIf (decide (1000000000000000 < A)) 1] = R := by
      rw [HR.out]
      unfold fstF
      by_cases h0 : F = 0
      · rw [if_pos h0, if_pos h0, HA2.out h0]
        unfold fstF fstF
        split <;> simp_all
      · rw [if_neg h0, if_neg h0]
    rw [e1]
    have b5 := b4.alloc (o := .cells #[.int .i64 F, .int .i64 (fIf (decide (1000000000000000 < A)) 1)] 29) b4.size
    go_wp2_with fail
    go_ret
    exact ⟨rfl, b5⟩

end Go.Proofs.Ytiphipgheadakaa
