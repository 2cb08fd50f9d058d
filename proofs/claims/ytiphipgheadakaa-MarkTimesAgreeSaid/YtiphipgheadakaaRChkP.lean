/- The reference's CheckParts. -/
import Derived.Test.YtiphipgheadakaaRName7
import Derived.Test.YtiphipgheadakaaChkP
namespace Go.Proofs.Ytiphipgheadakaa
set_option linter.unusedVariables false
set_option linter.unusedSimpArgs false
open Go.RowKit

theorem ptE_name {en : Int} {p : Prt} (h : isAd p = true) (hn : nameB p.ad = false) : ptE en p = 5 := by unfold ptE; rw [h, hn]; rfl
theorem nm_ok {p : Prt} (h : isAd p = true → nameB p.ad = true) : (isAd p && !nameB p.ad) = false := by
  cases hA : isAd p
  · rfl
  · rw [h hA]; rfl
theorem ptE_len {en : Int} {p : Prt} (h : isAd p = true → nameB p.ad = true) (hL : inB p.ln 1 1000000000000000 = false) : ptE en p = 1 := by unfold ptE; rw [nm_ok h, hL]; rfl
theorem ptE_from {en : Int} {p : Prt} (h : isAd p = true → nameB p.ad = true) (hF : inB p.fr 0 1000000000000000 = false) : ptE en p = 1 := by unfold ptE; rw [nm_ok h, hF]; simp [fIf, fstF]
theorem ptE_sum {en : Int} {p : Prt} (h : isAd p = true → nameB p.ad = true) (hC : 1000000000000000 < p.fr + p.ln) : ptE en p = 1 := by
  unfold ptE
  rw [nm_ok h, decide_eq_true (by omega : 1000000000000000 - p.ln < p.fr)]
  simp [fIf, fstF]
theorem ptE_form {en : Int} {p : Prt} (h : isAd p = true → nameB p.ad = true) (hL : inB p.ln 1 1000000000000000 = true) (hF : inB p.fr 0 1000000000000000 = true) (hC : ¬ 1000000000000000 < p.fr + p.ln) (hA : isAd p = true) (hD : p.fr ≠ 0) : ptE en p = 3 := by
  unfold ptE
  rw [nm_ok h, hL, hF, hA, decide_eq_false (by omega : ¬ 1000000000000000 - p.ln < p.fr)]
  simp [fIf, fstF, hD]
theorem ptE_ord {en : Int} {p : Prt} (hL : inB p.ln 1 1000000000000000 = true) (hF : inB p.fr 0 1000000000000000 = true) (hC : ¬ 1000000000000000 < p.fr + p.ln) (hA : isAd p = false) (hD : p.fr < en) : ptE en p = 8 := by
  unfold ptE
  rw [hL, hF, hA, decide_eq_false (by omega : ¬ 1000000000000000 - p.ln < p.fr)]
  simp [fIf, fstF, hD]
theorem ptE_good {en : Int} {p : Prt} (h : OkP p ∧ (isAd p = false → en ≤ p.fr)) : ptE en p = 0 := ptE_zero.2 h
theorem rwithin7_any (n a b : Int) (w : World) :
    Calls Try.prog 44 #[.int .i64 n, .int .i64 a, .int .i64 b] w fun e w' => e = .returned (.bool (inB n a b)) ∧ w = w' := by
  by_cases h1 : a ≤ n
  · by_cases h2 : n ≤ b
    · have e : inB n a b = true := by simp [inB, h1, h2]
      have E := Lib.hid e
      clear e
      go_enter Try.func44, Try.ntmps44
      go_wp2
      go_ret
      exact ⟨bret_bool (by rw [E.out]; try simp; try omega), rfl⟩
    · have e : inB n a b = false := by simp [inB, h2]
      have d : decide (n ≤ b) = false := by simp only [decide_eq_false_iff_not]; exact h2
      have E := Lib.hid e
      clear e
      go_enter Try.func44, Try.ntmps44
      go_wp2
      go_ret
      exact ⟨bret_bool (by rw [E.out]; try simp; try omega), rfl⟩
  · have e : inB n a b = false := by simp [inB, h1]
    have d : decide (a ≤ n) = false := by simp only [decide_eq_false_iff_not]; exact h1
    have E := Lib.hid e
    clear e
    go_enter Try.func44, Try.ntmps44
    go_wp2
    go_ret
    exact ⟨bret_bool (by rw [E.out]; try simp; try omega), rfl⟩
set_option maxRecDepth 100000 in
set_option maxHeartbeats 16000000 in
theorem rCheckParts_any (v : Value) (ps : List Prt) (w : World) (hS : Prts w v ps) (hwf : ∀ y ∈ ps, y.ad.size ≤ maxLen) :
    Calls Try.prog 26 #[v] w fun e w' => e = .returned (.int .i64 (ptF ps)) ∧ Below w.heap.size w w' := by
  obtain ⟨a, cap, rfl⟩ := hS.parts
  have hlen := hS.max.2
  obtain ⟨n, hn⟩ : ∃ n, ps.length = n := ⟨_, rfl⟩
  obtain ⟨Q, hQ⟩ : ∃ Q, ptF ps = Q := ⟨_, rfl⟩
  rw [hQ]
  have HN := Lib.hid hn; have HS := Lib.hid hS
  rw [hn] at hlen ⊢
  unfold maxLen at hlen
  by_cases hbig : 1000 < n
  · have e1 : Q = 2 := by rw [← hQ]; exact ptF_large ps (by omega)
    subst e1
    clear hn hQ hS hwf
    go_enter Try.func26, Try.ntmps26
    go_wp2_with fail
    go_ret
    exact ⟨rfl, Below.refl _ _⟩
  · have HR : Hid (Q = if ptsF ps = 0 then fIf (decide (1000000000000000 < alTo ps n)) 1 else ptsF ps) := Lib.hid (by rw [← hQ, ptF_few ps (by omega), hn])
    have kB : decide ((1000 : Int) < (n : Int)) = false := by simp; omega
    have kB2 : decide (1000 < n) = false := by simp; omega
    have HW : Hid (∀ j, j < n → (ps.getD j prt0).ad.size ≤ maxLen) := Lib.hid (fun j hj => hwf _ (by
      rw [List.getD_eq_getElem?_getD, List.getElem?_eq_getElem (by omega)]
      exact List.getElem_mem _))
    have HF0 : Hid (∀ k, k < n → (∀ i, i < k → ptsE ps i = 0) → ptsE ps k ≠ 0 → Q = ptsE ps k) := Lib.hid (fun k hk h hz => by
      have := ptsF_at (by omega) h hz
      rw [HR.out, this, if_neg hz])
    have HG0 : Hid ((∀ i, i < n → ptsE ps i = 0) → Q = fIf (decide (1000000000000000 < alTo ps n)) 1) := Lib.hid (fun h => by rw [HR.out, if_pos ((ptsF_zero ps).2 (fun i hi => h i (by omega)))])
    clear hn hQ hS hwf HR
    go_enter Try.func26, Try.ntmps26
    go_wp2_with fail
    clear kB kB2
    go_loopw [3, 4, 5] (fun v3 v4 v5 wr => ∃ k : Nat, k ≤ n ∧ v5 = .int .i64 k ∧ v3 = .int .i64 (enTo ps k) ∧ v4 = .int .i64 (alTo ps k) ∧ Below w.heap.size w wr ∧ Hid (∀ i, i < k → ptsE ps i = 0)) (fun _ _ v _ => n - (intOf v).toNat)
    case atStart => exact ⟨0, Nat.zero_le _, rfl, rfl, rfl, Below.refl _ _, Lib.hid (fun i hi => by omega)⟩
    case round =>
      obtain ⟨k, hk, rfl, rfl, rfl, hbr, HK⟩ := hrel
      by_cases hk2 : k < n
      rotate_left
      · have hkn : k = n := by omega
        subst hkn
        have hg := HG0.out HK.out
        obtain ⟨al, hal⟩ : ∃ al, alTo ps k = al := ⟨_, rfl⟩
        rw [hal] at hg ⊢
        have kD : decide ((k : Int) < (k : Int)) = false := by simp
        have kD2 : decide (k < k) = false := by simp
        clear hal HF0 HG0
        by_cases hT : 1000000000000000 < al
        · have e1 : Q = 1 := by rw [hg, decide_eq_true hT]; rfl
          subst e1
          clear hg
          go_wp2_with fail
          go_ret
          exact ⟨rfl, hbr⟩
        · have hT2 : decide (1000000000000000 < al) = false := decide_eq_false hT
          have e1 : Q = 0 := by rw [hg, hT2]; rfl
          subst e1
          clear hg
          go_wp2_with fail
          go_ret
          exact ⟨rfl, hbr⟩
      · have hSW := HS.out.below hbr (Nat.le_refl _)
        obtain ⟨b, off, cap', hv, hlt, -, -⟩ := hSW.spot (by rw [HN.out]; omega)
        simp only [Value.slice.injEq] at hv
        obtain ⟨rfl, -, rfl⟩ := hv
        obtain ⟨c0, c1, c2⟩ := hSW.cells k (by rw [HN.out]; exact hk2)
        have hsz := HW.out k hk2
        have hbd := to_bd HK.out
        have HAT := Lib.hid (HF0.out k hk2 HK.out)
        have HNX : Hid (ptsE ps k = 0 → ∀ i, i < k + 1 → ptsE ps i = 0) := Lib.hid (fun h i hi => by
          by_cases e : i = k
          · subst e; exact h
          · exact HK.out i (by omega))
        have HZ : Hid (ptsE ps k = ptE (enTo ps k) (ps.getD k prt0)) := Lib.hid rfl
        obtain ⟨z, hz⟩ : ∃ z, ptsE ps k = z := ⟨_, rfl⟩
        rw [hz] at HAT HNX HZ
        obtain ⟨en, hen⟩ : ∃ en, enTo ps k = en := ⟨_, rfl⟩
        obtain ⟨al, hal⟩ : ∃ al, alTo ps k = al := ⟨_, rfl⟩
        obtain ⟨x, hx⟩ : ∃ x, ps.getD k prt0 = x := ⟨_, rfl⟩
        rw [hen] at hbd HZ ⊢
        rw [hal] at hbd ⊢
        rw [hx] at c0 c1 c2 hsz HZ
        have HAL : Hid (alTo ps (k + 1) = al + x.ln) := Lib.hid (by rw [alTo, hal, hx])
        have HNM := Lib.hid (fun W => rName1_any x.ad W hsz)
        obtain ⟨⟨hb0, hb1⟩, hb2, hb3⟩ := hbd
        have hkn5 : k < 1000 := by omega
        have kI : (k : Int) < (n : Int) := by omega
        have hwI : IntKind.i64.wrap ((k : Int) + 1) = (k : Int) + 1 := IntWalk.i64_in _ ⟨by omega, by omega⟩
        have PX := PBox.new wr x 44
        have hbr := hbr.alloc (o := .cells #[.string x.ad, .int .i64 x.fr, .int .i64 x.ln] 44) hbr.size
        clear hz hal hsz hSW HK HF0 HG0
        go_upto_region 8 with fail
        generalize wr.alloc (.cells #[.string x.ad, .int .i64 x.fr, .int .i64 x.ln] 44) = W9 at *
        generalize wr.heap.size = X9 at *
        clear c0 c1 c2
        have y0 := PX.c0; have y1 := PX.c1; have y2 := PX.c2; have yl := PX.lt
        clear PX
        by_cases hA : 0 < x.ad.size
        · have HA : Hid (isAd x = true) := Lib.hid (decide_eq_true hA)
          have k1 := sNe hA
          have k2 := sNe2 hA
          have HEN : Hid (enTo ps (k + 1) = en) := Lib.hid (by rw [enTo, hen, hx, if_pos HA.out])
          clear hen hx hA
          cases hNB : nameB x.ad
          · rw [hNB] at HNM
            have e1 : Q = 5 := by
              have h5 : z = 5 := by rw [HZ.out]; exact ptE_name HA.out hNB
              rw [HAT.out (by rw [h5]; decide), h5]
            subst e1
            go_wp2_with fail
            refine (HNM.out _).mono ?_; rintro e w' ⟨rfl, rfl⟩
            go_wp2_with fail
            go_ret
            exact ⟨rfl, hbr⟩
          · rw [hNB] at HNM
            cases hL : inB x.ln 1 1000000000000000
            · have e1 : Q = 1 := by
                have h5 : z = 1 := by rw [HZ.out]; exact ptE_len (fun _ => hNB) hL
                rw [HAT.out (by rw [h5]; decide), h5]
              subst e1
              go_wp2_with fail
              refine (HNM.out _).mono ?_; rintro e w' ⟨rfl, rfl⟩
              go_wp2_with fail
              refine (rwithin7_any _ _ _ _).mono ?_; rintro e w' ⟨rfl, rfl⟩
              rw [hL]
              go_wp2_with fail
              go_ret
              exact ⟨rfl, hbr⟩
            · cases hF : inB x.fr 0 1000000000000000
              · have e1 : Q = 1 := by
                  have h5 : z = 1 := by rw [HZ.out]; exact ptE_from (fun _ => hNB) hF
                  rw [HAT.out (by rw [h5]; decide), h5]
                subst e1
                go_wp2_with fail
                refine (HNM.out _).mono ?_; rintro e w' ⟨rfl, rfl⟩
                go_wp2_with fail
                refine (rwithin7_any _ _ _ _).mono ?_; rintro e w' ⟨rfl, rfl⟩
                rw [hL]
                go_wp2_with fail
                refine (rwithin7_any _ _ _ _).mono ?_; rintro e w' ⟨rfl, rfl⟩
                rw [hF]
                go_wp2_with fail
                go_ret
                exact ⟨rfl, hbr⟩
              · have hLb := inB_iff.1 hL
                have hFb := inB_iff.1 hF
                have wF : IntKind.i64.wrap (x.fr + x.ln) = x.fr + x.ln := IntWalk.i64_in _ ⟨by omega, by omega⟩
                by_cases hC : 1000000000000000 < x.fr + x.ln
                · have e1 : Q = 1 := by
                    have h5 : z = 1 := by rw [HZ.out]; exact ptE_sum (fun _ => hNB) hC
                    rw [HAT.out (by rw [h5]; decide), h5]
                  subst e1
                  clear hLb hFb
                  go_wp2_with fail
                  refine (HNM.out _).mono ?_; rintro e w' ⟨rfl, rfl⟩
                  go_wp2_with fail
                  refine (rwithin7_any _ _ _ _).mono ?_; rintro e w' ⟨rfl, rfl⟩
                  rw [hL]
                  go_wp2_with fail
                  refine (rwithin7_any _ _ _ _).mono ?_; rintro e w' ⟨rfl, rfl⟩
                  rw [hF]
                  go_wp2_with fail
                  go_ret
                  exact ⟨rfl, hbr⟩
                have hC2 : decide (1000000000000000 < x.fr + x.ln) = false := decide_eq_false hC
                by_cases hD : x.fr = 0
                rotate_left
                · have hD1 : (x.fr == 0) = false := by simp; exact hD
                  have hD2 : (x.fr != 0) = true := by simp; exact hD
                  have e1 : Q = 3 := by
                    have h5 : z = 3 := by rw [HZ.out]; exact ptE_form (fun _ => hNB) hL hF hC HA.out hD
                    rw [HAT.out (by rw [h5]; decide), h5]
                  subst e1
                  clear hLb hFb hD
                  go_wp2_with fail
                  refine (HNM.out _).mono ?_; rintro e w' ⟨rfl, rfl⟩
                  go_wp2_with fail
                  refine (rwithin7_any _ _ _ _).mono ?_; rintro e w' ⟨rfl, rfl⟩
                  rw [hL]
                  go_wp2_with fail
                  refine (rwithin7_any _ _ _ _).mono ?_; rintro e w' ⟨rfl, rfl⟩
                  rw [hF]
                  go_wp2_with fail
                  go_ret
                  exact ⟨rfl, hbr⟩
                · have HP := Lib.hid (show OkP x ∧ (isAd x = false → en ≤ x.fr) from ⟨⟨fun _ => hNB, hLb, hFb, by omega, fun _ => hD⟩, fun h => absurd (HA.out.symm.trans h).symm Bool.false_ne_true⟩)
                  have hD1 : (x.fr == 0) = true := by rw [hD]; rfl
                  have hD2 : (x.fr != 0) = false := by rw [hD]; rfl
                  have hz0 : z = 0 := by rw [HZ.out]; exact ptE_good HP.out
                  have HN2 := Lib.hid (HNX.out hz0)
                  have wS : IntKind.i64.wrap (al + x.ln) = al + x.ln := IntWalk.i64_in _ ⟨by omega, by omega⟩
                  have eA : alTo ps (k + 1) = al + x.ln := HAL.out
                  have eE : enTo ps (k + 1) = en := HEN.out
                  clear hD hFb hC HNX HAT HAL HEN HZ
                  go_wp2_with fail
                  refine (HNM.out _).mono ?_; rintro e w' ⟨rfl, rfl⟩
                  go_wp2_with fail
                  refine (rwithin7_any _ _ _ _).mono ?_; rintro e w' ⟨rfl, rfl⟩
                  rw [hL]
                  go_wp2_with fail
                  refine (rwithin7_any _ _ _ _).mono ?_; rintro e w' ⟨rfl, rfl⟩
                  rw [hF]
                  go_wp2_with fail
                  go_roundw
                  case rel => exact ⟨k + 1, by omega, by go_num, by rw [eE], by rw [eA], hbr, HN2⟩
                  case measure => simp [intOf]; omega
        · have HA : Hid (isAd x = false) := Lib.hid (decide_eq_false (by omega))
          have k1 : (x.ad.toList == []) = true := sEq (by omega)
          have k2 : (x.ad.toList != []) = false := sEq2 (by omega)
          have HEN : Hid (enTo ps (k + 1) = x.fr + x.ln) := Lib.hid (by rw [enTo, hx, if_neg (by rw [HA.out]; exact Bool.false_ne_true)])
          clear hen hx hA
          cases hL : inB x.ln 1 1000000000000000
          · have e1 : Q = 1 := by
              have h5 : z = 1 := by rw [HZ.out]; exact ptE_len (fun h => absurd (HA.out.symm.trans h) Bool.false_ne_true) hL
              rw [HAT.out (by rw [h5]; decide), h5]
            subst e1
            go_wp2_with fail
            refine (rwithin7_any _ _ _ _).mono ?_; rintro e w' ⟨rfl, rfl⟩
            rw [hL]
            go_wp2_with fail
            go_ret
            exact ⟨rfl, hbr⟩
          · cases hF : inB x.fr 0 1000000000000000
            · have e1 : Q = 1 := by
                have h5 : z = 1 := by rw [HZ.out]; exact ptE_from (fun h => absurd (HA.out.symm.trans h) Bool.false_ne_true) hF
                rw [HAT.out (by rw [h5]; decide), h5]
              subst e1
              go_wp2_with fail
              refine (rwithin7_any _ _ _ _).mono ?_; rintro e w' ⟨rfl, rfl⟩
              rw [hL]
              go_wp2_with fail
              refine (rwithin7_any _ _ _ _).mono ?_; rintro e w' ⟨rfl, rfl⟩
              rw [hF]
              go_wp2_with fail
              go_ret
              exact ⟨rfl, hbr⟩
            · have hLb := inB_iff.1 hL
              have hFb := inB_iff.1 hF
              have wF : IntKind.i64.wrap (x.fr + x.ln) = x.fr + x.ln := IntWalk.i64_in _ ⟨by omega, by omega⟩
              by_cases hC : 1000000000000000 < x.fr + x.ln
              · have e1 : Q = 1 := by
                  have h5 : z = 1 := by rw [HZ.out]; exact ptE_sum (fun h => absurd (HA.out.symm.trans h) Bool.false_ne_true) hC
                  rw [HAT.out (by rw [h5]; decide), h5]
                subst e1
                clear hLb hFb
                go_wp2_with fail
                refine (rwithin7_any _ _ _ _).mono ?_; rintro e w' ⟨rfl, rfl⟩
                rw [hL]
                go_wp2_with fail
                refine (rwithin7_any _ _ _ _).mono ?_; rintro e w' ⟨rfl, rfl⟩
                rw [hF]
                go_wp2_with fail
                go_ret
                exact ⟨rfl, hbr⟩
              have hC2 : decide (1000000000000000 < x.fr + x.ln) = false := decide_eq_false hC
              by_cases hD : x.fr < en
              · have e1 : Q = 8 := by
                  have h5 : z = 8 := by rw [HZ.out]; exact ptE_ord hL hF hC HA.out hD
                  rw [HAT.out (by rw [h5]; decide), h5]
                subst e1
                clear hLb hFb
                go_wp2_with fail
                refine (rwithin7_any _ _ _ _).mono ?_; rintro e w' ⟨rfl, rfl⟩
                rw [hL]
                go_wp2_with fail
                refine (rwithin7_any _ _ _ _).mono ?_; rintro e w' ⟨rfl, rfl⟩
                rw [hF]
                go_wp2_with fail
                go_ret
                exact ⟨rfl, hbr⟩
              · have HP := Lib.hid (show OkP x ∧ (isAd x = false → en ≤ x.fr) from ⟨⟨fun h => absurd (HA.out.symm.trans h) Bool.false_ne_true, hLb, hFb, by omega, fun h => absurd (HA.out.symm.trans h) Bool.false_ne_true⟩, fun _ => by omega⟩)
                have hD1 : decide (x.fr < en) = false := decide_eq_false hD
                have hz0 : z = 0 := by rw [HZ.out]; exact ptE_good HP.out
                have HN2 := Lib.hid (HNX.out hz0)
                have wS : IntKind.i64.wrap (al + x.ln) = al + x.ln := IntWalk.i64_in _ ⟨by omega, by omega⟩
                have eA : alTo ps (k + 1) = al + x.ln := HAL.out
                have eE : enTo ps (k + 1) = x.fr + x.ln := HEN.out
                clear hC hD HNX HAT HAL HEN HZ
                go_wp2_with fail
                refine (rwithin7_any _ _ _ _).mono ?_; rintro e w' ⟨rfl, rfl⟩
                rw [hL]
                go_wp2_with fail
                refine (rwithin7_any _ _ _ _).mono ?_; rintro e w' ⟨rfl, rfl⟩
                rw [hF]
                go_wp2_with fail
                go_roundw
                case rel => exact ⟨k + 1, by omega, by go_num, by rw [eE], by rw [eA], hbr, HN2⟩
                case measure => simp [intOf]; omega

end Go.Proofs.Ytiphipgheadakaa
