/- Programme (program). -/
import Derived.Test.YtiphipgheadakaaPlace
namespace Go.Proofs.Ytiphipgheadakaa
set_option linter.unusedVariables false
set_option linter.unusedSimpArgs false
open Go.RowKit

theorem Prts.drop {w : World} {b off n cap : Nat} {ps : List Prt} (h : Prts w (.slice (some ⟨b, off, none⟩) n cap) ps) (k : Nat) (hk : k < n) (hn : ps.length = n) : Prts w (.slice (some ⟨b, off + k * 3, none⟩) (n - k) (cap - k)) (ps.drop k) := by
  rcases h with ⟨a, c, hv, h1⟩ | ⟨b', off', cap', hv, hne, hlt, hl, hm, hc⟩
  · simp only [Value.slice.injEq] at hv; omega
  · simp only [Value.slice.injEq, Option.some.injEq, Addr.mk.injEq, and_true] at hv
    obtain ⟨⟨rfl, rfl⟩, h2, rfl⟩ := hv
    have e : (ps.drop k).length = n - k := by rw [List.length_drop]; omega
    unfold Prts
    rw [e]
    refine .inr ⟨b, off + k * 3, cap - k, rfl, by omega, hlt, by omega, by omega, fun j hj c hc' => ?_⟩
    have e2 : (ps.drop k).getD j prt0 = ps.getD (k + j) prt0 := by simp [List.getD_eq_getElem?_getD, List.getElem?_drop]
    show w.cell? _ = some (prtC ((ps.drop k).getD j prt0) c)
    rw [e2, show off + k * 3 + j * 3 + c = off + (k + j) * 3 + c by omega]
    exact hc (k + j) (by omega) c hc'
theorem Prts.dropAt (ps : List Prt) (k j : Nat) : (ps.drop k).getD j prt0 = ps.getD (k + j) prt0 := by simp [List.getD_eq_getElem?_getD, List.getElem?_drop]
set_option maxRecDepth 100000 in
set_option maxHeartbeats 16000000 in
theorem Programme_any (v : Value) (ps : List Prt) (t : Int) (w : World) (hS : Prts w v ps) (hwf : ∀ y ∈ ps, y.ad.size ≤ maxLen) :
    Calls Try.prog 20 #[v, .int .i64 t] w fun e w' => e = .returned (.tuple #[.int .i64 (pgV ps t), .bool (pgB ps t), .int .i64 (plF ps t)]) ∧ Below w.heap.size w w' := by
  obtain ⟨sa, cap, rfl⟩ := hS.parts
  have HPL := Lib.hid (Place_any _ ps t w hS hwf)
  by_cases h0 : plF ps t = 0
  rotate_left
  · have e1 : pgV ps t = 0 := by unfold pgV; rw [if_neg h0]
    have e2 : pgB ps t = false := by unfold pgB; rw [decide_eq_false h0]; rfl
    rw [e1, e2]
    obtain ⟨QI, hQI⟩ : ∃ F, plI ps t = F := ⟨_, rfl⟩
    obtain ⟨QN, hQN⟩ : ∃ F, plN ps t = F := ⟨_, rfl⟩
    obtain ⟨QF, hQF⟩ : ∃ F, plF ps t = F := ⟨_, rfl⟩
    rw [hQI, hQN, hQF] at HPL
    rw [hQF] at h0 ⊢
    have r0 : (QF == 0) = false := by simp; exact h0
    have r1 : (QF != 0) = true := by simp; exact h0
    clear hQI hQN hQF hS hwf h0 e1 e2
    go_enter Try.func20, Try.ntmps20
    go_wp2_with fail
    refine HPL.out.mono ?_; rintro e w1 ⟨rfl, b1⟩
    go_wp2_with fail
    go_ret3
    exact ⟨rfl, b1⟩
  · obtain ⟨hat, hkn⟩ := plF_zero h0
    obtain ⟨g, ht0, ht1⟩ := atF_zero hat
    obtain ⟨hb1, hb2⟩ := pl_bd h0
    have eI : plI ps t = (plK ps t : Int) := by unfold plI; rw [if_pos h0]
    have eN : plN ps t = t - alTo ps (plK ps t) := by unfold plN; rw [if_pos h0]
    have eV : pgV ps t = if isAd (ps.getD (plK ps t) prt0) = false then (ps.getD (plK ps t) prt0).fr + (t - alTo ps (plK ps t)) else if pgN ps (plK ps t) < ps.length then (ps.getD (pgN ps (plK ps t)) prt0).fr else enTo ps ps.length := by unfold pgV; rw [if_pos h0]
    have eB : pgB ps t = !isAd (ps.getD (plK ps t) prt0) := by unfold pgB; rw [decide_eq_true h0]; rfl
    have HS : Hid (∀ W, Below w.heap.size w W → Prts W (.slice sa ps.length cap) ps) := Lib.hid (fun W hb => hS.below hb (Nat.le_refl _))
    rw [eI, eN, h0] at HPL
    rw [h0, eB]
    obtain ⟨k, hk⟩ : ∃ k, plK ps t = k := ⟨_, rfl⟩
    rw [hk] at HPL hkn hb1 hb2 eV ⊢
    have hal := (g.bd k (by omega)).2
    have hok := g.ok k hkn
    have hlen := g.len
    obtain ⟨n, hn⟩ : ∃ n, ps.length = n := ⟨_, rfl⟩
    have HN := Lib.hid hn; have HG := Lib.hid g
    have hA : alTo ps (k + 1) = alTo ps k + (ps.getD k prt0).ln := rfl
    obtain ⟨d, hd⟩ : ∃ d, t - alTo ps k = d := ⟨_, rfl⟩
    rw [hd] at HPL eV
    rw [hn] at HPL hkn HS hlen eV ⊢
    obtain ⟨x, hx⟩ : ∃ x, ps.getD k prt0 = x := ⟨_, rfl⟩
    have HX := Lib.hid hx
    rw [hx] at hok eV hA ⊢
    have hfr := hok.fr; have hsm := hok.sm
    have hd0 : 0 ≤ d ∧ d < x.ln := by omega
    have wF : IntKind.i64.wrap (x.fr + d) = x.fr + d := IntWalk.i64_in _ ⟨by omega, by omega⟩
    obtain ⟨V, hV⟩ : ∃ V, pgV ps t = V := ⟨_, rfl⟩
    rw [hV] at eV ⊢
    have HV := Lib.hid eV
    obtain ⟨BB, hBB⟩ : ∃ BB, (!isAd x) = BB := ⟨_, rfl⟩
    rw [hBB]
    have HBB := Lib.hid hBB
    clear hBB
    have kI : (k : Int) < (n : Int) := by omega
    have HIP : Hid (∀ W (y : Prt), Calls Try.prog 48 #[.agg #[.string y.ad, .int .i64 y.fr, .int .i64 y.ln]] W fun e w' => e = .returned (.bool (!isAd y)) ∧ Below W.heap.size W w') := Lib.hid (fun W y => isProg_any y.ad y.fr y.ln W)
    clear hat g hk hn hd hx hV hok hA hfr hsm hb1 hb2 hal hwf eI eN eB eV h0 hS ht0 ht1
    go_enter Try.func20, Try.ntmps20
    go_wp2_with fail
    refine HPL.out.mono ?_; rintro e w1 ⟨rfl, b1⟩
    have hSW := HS.out w1 b1
    rw [← HN.out] at hSW
    obtain ⟨b, off, cap', hv, hlt, hcn, hcm⟩ := hSW.spot (by rw [HN.out]; omega)
    simp only [Value.slice.injEq] at hv
    obtain ⟨rfl, -, rfl⟩ := hv
    obtain ⟨c0, c1, c2⟩ := hSW.cells k (by rw [HN.out]; exact hkn)
    rw [HX.out] at c0 c1 c2
    rw [HN.out] at hcn
    clear hSW HPL
    go_wp2_with fail
    refine (HIP.out _ x).mono ?_; rintro e w2 ⟨rfl, b2⟩
    have c1 := (b2.cell (p := ⟨b, off + k * 3 + 1, none⟩) hlt).trans c1
    have hlt := Nat.lt_of_lt_of_le hlt b2.size
    have b1 := b1.trans (b2.mono b1.size)
    clear c0 c2 b2
    obtain ⟨IA, hIA⟩ : ∃ IA, isAd x = IA := ⟨_, rfl⟩
    rw [hIA] at HV HBB ⊢
    cases IA
    · have e1 : V = x.fr + d := HV.out
      have e2 : BB = true := HBB.out.symm
      subst e1 e2
      clear HV HBB
      have nf : (!false) = true := rfl
      rw [nf]
      go_wp2_with fail
      go_ret3
      exact ⟨rfl, b1⟩
    · have nt : (!true) = false := rfl
      rw [nt]
      have e2 : BB = false := HBB.out.symm
      subst e2
      clear HBB
      have HV2 : Hid (V = if pgN ps k < n then (ps.getD (pgN ps k) prt0).fr else enTo ps n) := Lib.hid (by rw [HV.out]; rfl)
      clear HV c1 wF
      have i0 : (0 : Int) ≤ (k : Int) := by omega
      have i1 : (k : Int) ≤ (n : Int) := by omega
      have i2 : (n : Int) ≤ (cap : Int) := by omega
      have i3 : (k : Int) ≤ (cap : Int) := by omega
      have i4 : k ≠ cap := by omega
      have i5 : k < cap := by omega
      have HDR : Hid (∀ W, Below w.heap.size w W → Prts W (.slice (some ⟨b, off + k * 3, none⟩) (n - k) (cap - k)) (ps.drop k)) := Lib.hid (fun W hb => (HS.out W hb).drop k (by omega) HN.out)
      have HM : Hid (pgN ps k < n → k ≤ pgN ps k) := Lib.hid (fun h => by
        have h1 : (decide (k ≤ pgN ps k) && !isAd (ps.getD (pgN ps k) prt0)) = true := frst_at _ ps.length (by show pgN ps k < _; rw [HN.out]; exact h)
        simp only [Bool.and_eq_true, decide_eq_true_eq] at h1
        exact h1.1)
      have HI : Hid (∀ W, Below w.heap.size w W → Calls Try.prog 49 #[.slice (some ⟨b, off + k * 3, none⟩) (n - k) (cap - k), .func (.func 48) #[] #[]] W fun e w' => e = .returned (.int .i64 (if pgN ps k < n then (pgN ps k : Int) - (k : Int) else -1)) ∧ Below W.heap.size W w') := Lib.hid (fun W hb =>
        pindex_any _ (n - k) (cap - k) (ps.drop k) (fun y => !isAd y) 48 #[] (enters_of Try.func48 (by kernel_rfl) rfl) W (fun W' hb' => HDR.out W' (hb.trans (hb'.mono hb.size))) (by rw [List.length_drop, HN.out]) (by omega)
          (fun W' y _ => HIP.out W' y) _
          (fun j hj h1 h2 => by
            have e : pgN ps k = k + j := frst_eq (by rw [HN.out]; omega) (by rw [← Prts.dropAt ps k j, h1]; simp) (fun i hi' => by
              by_cases hik : k ≤ i
              · obtain ⟨i2, rfl⟩ : ∃ i2, i = k + i2 := ⟨i - k, by omega⟩
                rw [← Prts.dropAt ps k i2, h2 i2 (by omega), Bool.and_false]
              · rw [decide_eq_false hik]; rfl)
            rw [e, if_pos (by omega)]; omega)
          (fun h2 => by
            have e : pgN ps k = n := by
              rw [← HN.out]
              refine frst_none (fun i hi' => ?_)
              by_cases hik : k ≤ i
              · obtain ⟨i2, rfl⟩ : ∃ i2, i = k + i2 := ⟨i - k, by omega⟩
                rw [← Prts.dropAt ps k i2, h2 i2 (by have := HN.out; omega), Bool.and_false]
              · rw [decide_eq_false hik]; rfl
            rw [e, if_neg (by omega)]))
      obtain ⟨M, hM⟩ : ∃ M, pgN ps k = M := ⟨_, rfl⟩
      rw [hM] at HM HI HV2
      clear hM
      by_cases hMn : M < n
      · have hkM := HM.out hMn
        have e1 : V = (ps.getD M prt0).fr := by rw [HV2.out, if_pos hMn]
        obtain ⟨r, hr⟩ : ∃ r, (if M < n then (M : Int) - (k : Int) else -1) = r := ⟨_, rfl⟩
        rw [hr] at HI
        rw [if_pos hMn] at hr
        have r0 : (0 : Int) ≤ r := by omega
        have wS : IntKind.i64.wrap ((k : Int) + r) = (M : Int) := by rw [show (k : Int) + r = (M : Int) by omega]; exact IntWalk.i64_in _ ⟨by omega, by omega⟩
        have hsum : (k : Int) + r = (M : Int) := by omega
        have j0 : (0 : Int) ≤ (M : Int) := by omega
        have j1 : (M : Int) < (n : Int) := by omega
        clear HM hkM hr
        go_wp2_with fail
        refine (HI.out _ b1).mono ?_; rintro e w3 ⟨rfl, b3⟩
        have b1 := b1.trans (b3.mono b1.size)
        have hSW := HS.out w3 b1
        rw [← HN.out] at hSW
        obtain ⟨c0, c1, c2⟩ := hSW.cells M (by rw [HN.out]; exact hMn)
        obtain ⟨y, hy⟩ : ∃ y, ps.getD M prt0 = y := ⟨_, rfl⟩
        rw [hy] at c0 c1 c2 e1
        subst e1
        clear hSW hy c0 c2
        go_wp2_with fail
        go_ret3
        exact ⟨rfl, b1⟩
      · have e1 : V = enTo ps n := by rw [HV2.out, if_neg hMn]
        rw [if_neg hMn] at HI
        have HE1 := Lib.hid e1
        clear HM HV2 hMn e1 HDR
        go_wp2_with fail
        refine (HI.out _ b1).mono ?_; rintro e w3 ⟨rfl, b3⟩
        have b1 := b1.trans (b3.mono b1.size)
        clear HI b3 i0 i1 i2 i3 i4 i5
        go_wp2_with fail
        go_loopw [11, 51] (fun v11 v51 wr => ∃ j : Nat, j ≤ n ∧ v51 = .int .i64 (j : Int) ∧ v11 = .int .i64 (enTo ps j) ∧ Below w.heap.size w wr) (fun _ v51 _ => n - (intOf v51).toNat)
        case atStart => exact ⟨0, Nat.zero_le _, rfl, rfl, b1⟩
        case round =>
          clear b1
          obtain ⟨j, hj, rfl, rfl, hbr⟩ := hrel
          by_cases hj2 : j < n
          rotate_left
          · have hjn : j = n := by omega
            have e1 : enTo ps j = V := by rw [hjn]; exact HE1.out.symm
            have kD : decide ((j : Int) < (n : Int)) = false := by simp; omega
            have kD2 : decide (j < n) = false := by simp; omega
            rw [e1]
            clear hjn e1
            go_wp2_with fail
            go_ret3
            exact ⟨rfl, hbr⟩
          · have hSW := HS.out wr hbr
            rw [← HN.out] at hSW
            obtain ⟨c0, c1, c2⟩ := hSW.cells j (by rw [HN.out]; exact hj2)
            have hok := HG.out.ok j (by rw [HN.out]; exact hj2)
            have HEJ : Hid (enTo ps (j + 1) = if isAd (ps.getD j prt0) = true then enTo ps j else (ps.getD j prt0).fr + (ps.getD j prt0).ln) := Lib.hid rfl
            obtain ⟨y, hy⟩ : ∃ y, ps.getD j prt0 = y := ⟨_, rfl⟩
            obtain ⟨en, hen⟩ : ∃ en, enTo ps j = en := ⟨_, rfl⟩
            rw [hy] at c0 c1 c2 hok HEJ
            rw [hen] at HEJ ⊢
            have hfr := hok.fr; have hln := hok.ln
            have jI : (j : Int) < (n : Int) := by omega
            have hwJ : IntKind.i64.wrap ((j : Int) + 1) = (j : Int) + 1 := IntWalk.i64_in _ ⟨by omega, by omega⟩
            have wE : IntKind.i64.wrap (y.fr + y.ln) = y.fr + y.ln := IntWalk.i64_in _ ⟨by omega, by omega⟩
            have hltr := (HS.out wr hbr).block (by rw [HN.out]; omega)
            have PX := PBox.new wr y 44
            have hbr := hbr.alloc (o := .cells #[.string y.ad, .int .i64 y.fr, .int .i64 y.ln] 44) hbr.size
            have hbl := hltr.1
            clear hy hen hSW hok hfr hln hltr
            go_upto_region 13 with fail
            generalize wr.alloc (.cells #[.string y.ad, .int .i64 y.fr, .int .i64 y.ln] 44) = W9 at *
            generalize wr.heap.size = X9 at *
            clear c0 c1 c2
            have y0 := PX.c0; have y1 := PX.c1; have y2 := PX.c2; have yl := PX.lt
            go_wp2_with fail
            refine (HIP.out _ y).mono ?_; rintro e w5 ⟨rfl, b5⟩
            have PX := PX.below b5 PX.lt
            have hbr := hbr.trans (b5.mono hbr.size)
            clear y0 y1 y2 yl b5
            have y1 := PX.c1; have y2 := PX.c2; have yl := PX.lt
            obtain ⟨IB, hIB⟩ : ∃ IB, isAd y = IB := ⟨_, rfl⟩
            rw [hIB] at HEJ ⊢
            clear hIB
            cases IB
            · have HE2 : Hid (enTo ps (j + 1) = y.fr + y.ln) := HEJ
              clear HEJ
              go_wp2_with fail
              go_roundw
              case rel => exact ⟨j + 1, by omega, by go_num, by rw [HE2.out], hbr⟩
              case measure => simp [intOf]; omega
            · have HE2 : Hid (enTo ps (j + 1) = en) := HEJ
              clear HEJ
              go_wp2_with fail
              go_roundw
              case rel => exact ⟨j + 1, by omega, by go_num, by rw [HE2.out], hbr⟩
              case measure => simp [intOf]; omega

end Go.Proofs.Ytiphipgheadakaa
