/- Resume (program). -/
import Derived.Test.YtiphipgheadakaaRes1
import Derived.Test.YtiphipgheadakaaStit
namespace Go.Proofs.Ytiphipgheadakaa
set_option linter.unusedVariables false
set_option linter.unusedSimpArgs false
open Go.RowKit

theorem rsX_at {ps : List Prt} {ss : List Int} {t : Int} {k j : Nat} (hk : stK ps t = k) (hkn : k < ps.length) (hd : adK ps k ≤ j) (hj : j < k) (hs : hasTo ss ss.length (j : Int) = false) (ha : ∀ i : Nat, adK ps k ≤ i → i < j → hasTo ss ss.length (i : Int) = true) : rsX ps ss t = alTo ps j := by
  rw [hasTo_all] at hs
  have e : usK ps ss k = j := frst_eq hj (by rw [hs, decide_eq_true hd]; rfl) (fun i hi => by
    by_cases h : adK ps k ≤ i
    · have := ha i h hi
      rw [hasTo_all] at this
      rw [this, Bool.not_true, Bool.and_false]
    · rw [decide_eq_false h]; rfl)
  unfold rsX
  rw [hk, if_pos hkn, e, if_pos hj]
theorem rsX_all {ps : List Prt} {ss : List Int} {t : Int} {k : Nat} (hk : stK ps t = k) (hkn : k < ps.length) (ha : ∀ i : Nat, adK ps k ≤ i → i < k → hasTo ss ss.length (i : Int) = true) : rsX ps ss t = alTo ps k + max (t - (ps.getD k prt0).fr) 0 := by
  have e : usK ps ss k = k := frst_none (fun i hi => by
    by_cases h : adK ps k ≤ i
    · have := ha i h hi
      rw [hasTo_all] at this
      rw [this, Bool.not_true, Bool.and_false]
    · rw [decide_eq_false h]; rfl)
  unfold rsX
  rw [hk, if_pos hkn, e, if_neg (by omega)]
theorem rsX_no {ps : List Prt} {ss : List Int} {t : Int} (h : ¬ stK ps t < ps.length) : rsX ps ss t = alTo ps ps.length := by unfold rsX; rw [if_neg h]
set_option maxRecDepth 100000 in
set_option maxHeartbeats 16000000 in
theorem Resume_any (v sv : Value) (ps : List Prt) (ss : List Int) (t : Int) (w : World) (hS : Prts w v ps) (hwf : ∀ y ∈ ps, y.ad.size ≤ maxLen) (hV : NumsC w sv ss) (hsw : ∀ j, j < ss.length → (Lit.int .i64 (ss.getD j 0)).wf = true) :
    Calls Try.prog 22 #[v, sv, .int .i64 t] w fun e w' => e = .returned (.tuple #[.int .i64 (rsV ps ss t), .int .i64 (rsF ps ss t)]) ∧ Below w.heap.size w w' := by
  obtain ⟨sa, cap, rfl⟩ := hS.parts
  have hmm := @run_makeMap Try.prog
  have b1 : Below w.heap.size w (w.alloc (.cells #[.slice sa ps.length cap] 37)) := (Below.refl _ w).alloc (Nat.le_refl _) _
  have l0 : (w.alloc (.cells #[.slice sa ps.length cap] 37)).cell? ⟨w.heap.size, 0, none⟩ = some (.slice sa ps.length cap) := by rw [World.cell?_alloc_at _ _ _ _ (by simp)]; rfl
  have ll : w.heap.size < (w.alloc (.cells #[.slice sa ps.length cap] 37)).heap.size := by simp
  have HS : Hid (∀ W, Below w.heap.size w W → Prts W (.slice sa ps.length cap) ps) := Lib.hid (fun W hb => hS.below hb (Nat.le_refl _))
  have HCA : Hid (∀ W, Below w.heap.size w W → Calls Try.prog 50 #[.slice sa ps.length cap, .int .i64 t] W fun e w' => e = .returned (.int .i64 (atF ps t)) ∧ Below W.heap.size W w') := Lib.hid (fun W hb => checkAt_any _ ps t W (HS.out W hb) hwf)
  have HPF : Hid (OkPs ps → ∀ W, Below w.heap.size w W → Calls Try.prog 51 #[.slice sa ps.length cap, .int .i64 t] W fun e w' => e = .returned (.int .i64 (if stK ps t < ps.length then (stK ps t : Int) else -1)) ∧ Below W.heap.size W w') := Lib.hid (fun g W hb => placeFrom_any _ ps t W (HS.out W hb) g)
  have HBG : Hid (OkPs ps → ∀ W, Below w.heap.size w W → Calls Try.prog 52 #[.slice sa ps.length cap] W fun e w' => (∃ u, e = .returned u ∧ NumsC w' u (bgL ps (ps.length + 1))) ∧ Below W.heap.size W w') := Lib.hid (fun g W hb => beginsOf_any _ ps W (HS.out W hb) g)
  have HAT : Hid (atF ps t = 0 → OkPs ps ∧ 0 ≤ t ∧ t ≤ 1000000000000000) := Lib.hid (fun h => atF_zero h)
  have HE : Hid (OkPs ps → ∀ W (MB : Nat), Below w.heap.size w W → w.heap.size ≤ MB → w.heap.size ≠ MB → w.heap.size < W.heap.size → MB + 1 < W.heap.size → W.cell? ⟨w.heap.size, 0, none⟩ = some (.slice sa ps.length cap) → W.cell? ⟨MB + 1, 0, none⟩ = some (.map (some MB)) → Sn W MB 0 (fun _ => false) → Calls Try.prog 53 #[sv, .func (.func 54) #[] #[.pointer (some ⟨w.heap.size, 0, none⟩), .pointer (some ⟨MB + 1, 0, none⟩)]] W fun r w' => r = .returned (.int .i64 (snF ps ss)) ∧ (snF ps ss = 0 → Sn w' MB ss.length (hasTo ss ss.length)) ∧ BelowX W.heap.size MB W w') := Lib.hid (fun g W MB hb h1 h2 h3 h4 h5 h6 h7 =>
    eachs_walk sv ss sa ps.length cap ps _ _ MB W (hV.below hb (Nat.le_refl _)) (fun hne g o l c hv => by
      rcases hV with ⟨a', c', hv', hz⟩ | ⟨g', o', c', hv', -, hg, -⟩
      · exact absurd hz hne
      · rw [hv'] at hv; simp only [Value.slice.injEq, Option.some.injEq, Addr.mk.injEq] at hv; omega) hsw (fun W' hb' => HS.out W' (hb.trans (hb'.below hb.size h1))) rfl g.len h5 h3 h2 h6 h4 (by omega) h7)
  obtain ⟨R, hR⟩ : ∃ R, rsF ps ss t = R := ⟨_, rfl⟩
  obtain ⟨V, hVV⟩ : ∃ V, rsV ps ss t = V := ⟨_, rfl⟩
  have HR : Hid (R = if atF ps t = 0 then snF ps ss else atF ps t) := Lib.hid hR.symm
  have HV : Hid (V = if R = 0 then rsX ps ss t else 0) := Lib.hid (by rw [← hVV, ← hR]; rfl)
  have HXN : Hid (¬ stK ps t < ps.length → rsX ps ss t = alTo ps ps.length) := Lib.hid rsX_no
  have HXA : Hid (∀ k j : Nat, stK ps t = k → k < ps.length → adK ps k ≤ j → j < k → hasTo ss ss.length (j : Int) = false → (∀ i : Nat, adK ps k ≤ i → i < j → hasTo ss ss.length (i : Int) = true) → rsX ps ss t = alTo ps j) := Lib.hid (fun k j => rsX_at)
  have HXL : Hid (∀ k : Nat, stK ps t = k → k < ps.length → (∀ i : Nat, adK ps k ≤ i → i < k → hasTo ss ss.length (i : Int) = true) → rsX ps ss t = alTo ps k + max (t - (ps.getD k prt0).fr) 0) := Lib.hid (fun k => rsX_all)
  rw [hR, hVV]
  obtain ⟨F, hF⟩ : ∃ F, atF ps t = F := ⟨_, rfl⟩
  obtain ⟨S, hSS⟩ : ∃ S, snF ps ss = S := ⟨_, rfl⟩
  obtain ⟨X, hX⟩ : ∃ X, rsX ps ss t = X := ⟨_, rfl⟩
  obtain ⟨m, hm⟩ : ∃ m, ss.length = m := ⟨_, rfl⟩
  obtain ⟨H, hH⟩ : ∃ H, hasTo ss m = H := ⟨_, rfl⟩
  obtain ⟨k, hk⟩ : ∃ k, stK ps t = k := ⟨_, rfl⟩
  obtain ⟨n, hn⟩ : ∃ n, ps.length = n := ⟨_, rfl⟩
  have HN := Lib.hid hn
  rw [hF] at HR HCA HAT
  rw [hX] at HV HXN HXA HXL
  rw [hm, hH] at HXA HXL HE
  rw [hSS] at HR HE
  rw [hk] at HPF HXN HXA HXL
  rw [hn] at b1 l0 ll HS HCA HPF HBG HE HXN HXA HXL ⊢
  replace HXA := Lib.hid (fun j => HXA.out k j rfl); replace HXL := Lib.hid (HXL.out k rfl)
  clear hR hVV hF hSS hX hm hH hk hn hS hwf hV hsw
  go_enter Try.func22, Try.ntmps22
  go_upto_region 1 with fail
  generalize w.alloc (.cells #[.slice sa n cap] 37) = W at *
  go_wp2_with fail
  refine (HCA.out _ b1).mono ?_; rintro e w1 ⟨rfl, b2⟩
  have l0 := (b2.cell (p := ⟨w.heap.size, 0, none⟩) ll).trans l0
  have ll := Nat.lt_of_lt_of_le ll b2.size
  have b1 := b1.trans (b2.mono b1.size)
  clear b2
  by_cases h0 : F = 0
  rotate_left
  · have e1 : R = F := by rw [HR.out, if_neg h0]
    have e2 : V = 0 := by rw [HV.out, e1, if_neg h0]
    have r0 : (F == 0) = false := by simp; exact h0
    have r1 : (F != 0) = true := by simp; exact h0
    subst e2 e1
    clear l0 ll
    go_wp2_with fail
    go_ret2
    exact ⟨rfl, b1⟩
  subst h0
  obtain ⟨g, t0, t1⟩ := HAT.out rfl
  have hlen : n ≤ 1000 := by rw [← HN.out]; exact g.len
  have HG := Lib.hid g
  replace HPF := Lib.hid (HPF.out g); replace HBG := Lib.hid (HBG.out g); replace HE := Lib.hid (HE.out g)
  have hs1 : (w1.alloc (.map #[] 0)).heap.size = w1.heap.size + 1 := by simp
  have bb : Below w.heap.size w ((w1.alloc (.map #[] 0)).alloc (.cells #[.map (some w1.heap.size)] 79)) := (b1.alloc b1.size _).alloc (by rw [hs1]; have := b1.size; omega) _
  have l1 : ((w1.alloc (.map #[] 0)).alloc (.cells #[.map (some w1.heap.size)] 79)).cell? ⟨w.heap.size, 0, none⟩ = some (.slice sa n cap) := by
    rw [World.cell?_alloc_old _ _ _ (by rw [hs1]; show w.heap.size ≠ _; omega), World.cell?_alloc_old _ _ _ (by show w.heap.size ≠ _; omega)]
    exact l0
  have m0 : ((w1.alloc (.map #[] 0)).alloc (.cells #[.map (some w1.heap.size)] 79)).cell? ⟨w1.heap.size + 1, 0, none⟩ = some (.map (some w1.heap.size)) := by
    rw [World.cell?_alloc_at _ _ _ _ hs1.symm]; rfl
  have ms : w1.heap.size + 1 < ((w1.alloc (.map #[] 0)).alloc (.cells #[.map (some w1.heap.size)] 79)).heap.size := by simp
  have sn : Sn ((w1.alloc (.map #[] 0)).alloc (.cells #[.map (some w1.heap.size)] 79)) w1.heap.size 0 (fun _ => false) := (Sn.made w1).alloc _
  clear b1 l0 hs1 g
  go_upto_region 5 with fail
  generalize (w1.alloc (.map #[] 0)).alloc (.cells #[.map (some w1.heap.size)] 79) = W2 at *
  have hls : w.heap.size < W2.heap.size := by omega
  have HEE := Lib.hid (HE.out W2 w1.heap.size bb (Nat.le_of_lt ll) (Nat.ne_of_lt ll) hls ms l1 m0 sn)
  clear HE sn
  generalize w1.heap.size = MB at *
  go_wp2_with fail
  refine HEE.out.mono ?_; rintro e w3 ⟨rfl, hsn, b3⟩
  have HSN := Lib.hid hsn
  have bb := bb.trans (b3.below (Nat.le_of_lt hls) (Nat.le_of_lt ll))
  have l1 := (b3.cell (p := ⟨w.heap.size, 0, none⟩) hls (Nat.ne_of_lt ll)).trans l1
  have m0 := (b3.cell (p := ⟨MB + 1, 0, none⟩) ms (by show MB + 1 ≠ MB; omega)).trans m0
  have hls := Nat.lt_of_lt_of_le hls b3.size
  have ms := Nat.lt_of_lt_of_le ms b3.size
  clear HEE hsn b3
  by_cases h0 : S = 0
  rotate_left
  · have e1 : R = S := by have := HR.out; simpa using this
    have e2 : V = 0 := by rw [HV.out, e1, if_neg h0]
    have r0 : (S == 0) = false := by simp; exact h0
    have r1 : (S != 0) = true := by simp; exact h0
    subst e2 e1
    clear l1 m0 ms hls
    go_wp2_with fail
    go_ret2
    exact ⟨rfl, bb⟩
  subst h0
  have hM := HSN.out rfl
  have e1 : R = 0 := by have := HR.out; simpa using this
  have e2 : V = X := by have := HV.out; rw [e1] at this; simpa using this
  subst e1 e2
  clear HR HV HSN HCA HAT
  go_wp2_with fail
  refine (HBG.out _ bb).mono ?_; rintro e w4 ⟨⟨ub, rfl, hnb⟩, b4⟩
  have hM := hM.below b4 (by omega)
  have l1 := (b4.cell (p := ⟨w.heap.size, 0, none⟩) hls).trans l1
  have m0 := (b4.cell (p := ⟨MB + 1, 0, none⟩) ms).trans m0
  have hls := Nat.lt_of_lt_of_le hls b4.size
  have ms := Nat.lt_of_lt_of_le ms b4.size
  have bb := bb.trans (b4.mono (by omega))
  clear b4 HBG
  go_wp2_with fail
  refine (HPF.out _ bb).mono ?_; rintro e w5 ⟨rfl, b5⟩
  have hM := hM.below b5 (by omega)
  have hnb := hnb.below b5 (Nat.le_refl _)
  have l1 := (b5.cell (p := ⟨w.heap.size, 0, none⟩) hls).trans l1
  have m0 := (b5.cell (p := ⟨MB + 1, 0, none⟩) ms).trans m0
  have hls := Nat.lt_of_lt_of_le hls b5.size
  have ms := Nat.lt_of_lt_of_le ms b5.size
  have bb := bb.trans (b5.mono (by omega))
  clear b5 HPF
  by_cases hkn : k < n
  rotate_left
  · rw [if_neg hkn]
    have e1 := HXN.out hkn
    have hnb2 := hnb
    rw [← HN.out] at hnb2
    obtain ⟨gb, go', gc, rfl, hgl, hgc⟩ := nums_at hnb2 (Nat.lt_succ_self _) (bgL_at ps (ps.length + 1) ps.length (by omega))
    rw [HN.out] at hgc ⊢
    rw [← e1] at hgc
    have kI2 : (n : Int) < (n : Int) + 1 := by omega
    clear hnb hnb2 e1 HXN HXA HXL m0 ms hM HG
    go_wp2_with fail
    go_ret2
    exact ⟨rfl, bb⟩
  rw [if_pos hkn]
  obtain ⟨gb, go', gc, hub, hgl, -⟩ := nums_at (k := k) (by rw [← HN.out] at hnb; exact hnb) (by rw [HN.out]; omega) (bgL_at ps (ps.length + 1) k (by rw [HN.out]; omega))
  rw [HN.out] at hub
  have HB : Hid (∀ W j, Below w5.heap.size w5 W → j < n + 1 → W.cell? ⟨gb, go' + j, none⟩ = some (.int .i64 (alTo ps j))) := Lib.hid (fun W j hb hj => by
    obtain ⟨gb2, go2, gc2, hub2, hgl2, hc⟩ := nums_at (k := j) (by rw [← HN.out] at hnb; exact hnb) (by rw [HN.out]; omega) (bgL_at ps (ps.length + 1) j (by rw [HN.out]; omega))
    rw [hub] at hub2
    simp only [Value.slice.injEq, Option.some.injEq, Addr.mk.injEq] at hub2
    obtain ⟨⟨rfl, rfl, -⟩, -, -⟩ := hub2
    rw [hb.cell (p := ⟨gb, go' + j, none⟩) hgl]
    exact hc)
  subst hub
  have HP : Hid (∀ W j, Below w5.heap.size w5 W → j < n → ∃ b off, sa = some ⟨b, off, none⟩ ∧ b < W.heap.size ∧ W.cell? ⟨b, off + j * 3, none⟩ = some (.string (ps.getD j prt0).ad) ∧ W.cell? ⟨b, off + j * 3 + 1, none⟩ = some (.int .i64 (ps.getD j prt0).fr) ∧ W.cell? ⟨b, off + j * 3 + 2, none⟩ = some (.int .i64 (ps.getD j prt0).ln)) := Lib.hid (fun W j hb hj => by
    have hSW := HS.out W (bb.trans (hb.mono bb.size))
    obtain ⟨b, off, cap', hv, hlt, -, -⟩ := hSW.spot (by rw [HN.out]; omega)
    simp only [Value.slice.injEq] at hv
    obtain ⟨rfl, -, rfl⟩ := hv
    exact ⟨b, off, rfl, hlt, hSW.cells j (by rw [HN.out]; exact hj)⟩)
  have HIP : Hid (∀ W (x : Prt), Calls Try.prog 48 #[.agg #[.string x.ad, .int .i64 x.fr, .int .i64 x.ln]] W fun e w' => e = .returned (.bool (!isAd x)) ∧ Below W.heap.size W w') := Lib.hid (fun W x => isProg_any x.ad x.fr x.ln W)
  have HSB := Lib.hid bb
  have bc : Below w5.heap.size w5 w5 := Below.refl _ _
  have hcap : n + 1 ≤ n + 1 := Nat.le_refl _
  clear HXN hnb HS bb hcap
  go_wp2_with fail
  go_loopw [12] (fun v wr => ∃ f : Nat, f ≤ k ∧ v = .int .i64 (f : Int) ∧ Hid (adK ps f = adK ps k) ∧ Below w5.heap.size w5 wr) (fun v _ => (intOf v).toNat)
  case atStart => exact ⟨k, Nat.le_refl _, rfl, Lib.hid rfl, bc⟩
  case round =>
    clear bc
    obtain ⟨f, hf, rfl, HF, bc⟩ := hrel
    by_cases hf0 : f = 0
    · subst hf0
      have HDK : Hid (adK ps k = 0) := Lib.hid HF.out.symm
      have hD : (0 : Nat) ≤ k := Nat.zero_le _
      have hMw := hM.below bc hM.lt
      have lLw := (bc.cell (p := ⟨w.heap.size, 0, none⟩) hls).trans l1
      have lBw := Nat.lt_of_lt_of_le hls bc.size
      have m0w := (bc.cell (p := ⟨MB + 1, 0, none⟩) ms).trans m0
      have msw := Nat.lt_of_lt_of_le ms bc.size
      clear HF HIP
      go_wp2_with fail
      go_loopw [13] (fun v wr2 => ∃ j : Nat, 0 ≤ j ∧ j ≤ k ∧ v = .int .i64 (j : Int) ∧ wr2 = wr ∧ Hid (∀ i : Nat, 0 ≤ i → i < j → H (i : Int) = true)) (fun v _ => k - (intOf v).toNat)
      case atStart => exact ⟨0, Nat.le_refl _, hD, by first | rfl | go_num, rfl, Lib.hid (fun i h1 h2 => by omega)⟩
      case round =>
        obtain ⟨j, hdj, hjk, rfl, rfl, HJ⟩ := hrel
        by_cases hj : j < k
        · have jI : (j : Int) < (k : Int) := by omega
          have hrun := hMw.look (x := (j : Int)) (WalkArith.wf_i64 (by omega))
          obtain ⟨y, hy⟩ : ∃ y, H (j : Int) = y := ⟨_, rfl⟩
          have HY := Lib.hid hy
          rw [hy] at hrun
          have cb := HB.out _ j bc (by omega)
          have gbl := Nat.lt_of_lt_of_le hgl bc.size
          have jn : (j : Int) < (n : Int) + 1 := by omega
          have j0 : (0 : Int) ≤ (j : Int) := by omega
          have jw : IntKind.i64.wrap ((j : Int) + 1) = (j : Int) + 1 := IntWalk.i64_in _ ⟨by omega, by omega⟩
          clear hy
          cases y
          · have e1 := HXA.out j hkn (by rw [HDK.out]; exact hdj) hj HY.out (by rw [HDK.out]; exact HJ.out)
            rw [← e1] at cb
            clear HXA HXL e1
            go_wp2_with fail
            go_ret2
            exact ⟨rfl, HSB.out.trans (bc.mono HSB.out.size)⟩
          · have HJ2 : Hid (∀ i : Nat, 0 ≤ i → i < j + 1 → H (i : Int) = true) := Lib.hid (fun i h1 h2 => by
              by_cases e : i = j
              · subst e; exact HY.out
              · exact HJ.out i h1 (by omega))
            clear cb gbl
            go_wp2_with fail
            go_roundw
            case rel => exact ⟨j + 1, by omega, by omega, by go_num, by first | rfl | trivial, HJ2⟩
            case measure => simp [intOf]; omega
        · have hjk2 : j = k := by omega
          subst hjk2
          have e1 := HXL.out hkn (by rw [HDK.out]; exact HJ.out)
          obtain ⟨b, off, hsa, hlt, -, c1, -⟩ := HP.out _ j bc hkn
          cases hsa
          have cb := HB.out _ j bc (by omega)
          have gbl := Nat.lt_of_lt_of_le hgl bc.size
          have hbd := (HG.out.bd j (by rw [HN.out]; omega)).2
          have hok := HG.out.ok j (by rw [HN.out]; exact hkn)
          have hfr := hok.fr
          have hsm := hok.sm
          obtain ⟨fr, hfe⟩ : ∃ fr, (ps.getD j prt0).fr = fr := ⟨_, rfl⟩
          obtain ⟨al, hal⟩ : ∃ al, alTo ps j = al := ⟨_, rfl⟩
          rw [hfe] at c1 hfr e1
          rw [hal] at cb hbd e1
          have jn : (j : Int) < (n : Int) + 1 := by omega
          have jn2 : (j : Int) < (n : Int) := by omega
          have j0 : (0 : Int) ≤ (j : Int) := by omega
          have jj : ¬ ((j : Int) < (j : Int)) := by omega
          have wd : IntKind.i64.wrap (t - fr) = t - fr := IntWalk.i64_in _ ⟨by omega, by omega⟩
          subst e1
          clear HXA HXL hok hsm hfe hal hjk hj
          go_upto_region 20 with fail
          go_region
          all_goals
            go_wp2_with fail
            go_ret2
            exact ⟨rfl, (HSB.out.trans (bc.mono HSB.out.size)).drew⟩
    · obtain ⟨f, rfl⟩ : ∃ f', f = f' + 1 := ⟨f - 1, by omega⟩
      obtain ⟨b, off, hsa, hlt, c0, c1, c2⟩ := HP.out wr f bc (by omega)
      subst hsa
      have HFE : Hid (adK ps (f + 1) = if isAd (ps.getD f prt0) = true then adK ps f else f + 1) := Lib.hid rfl
      obtain ⟨x, hx⟩ : ∃ x, ps.getD f prt0 = x := ⟨_, rfl⟩
      rw [hx] at c0 c1 c2 HFE
      have HI := Lib.hid (fun W => HIP.out W x)
      obtain ⟨A, hA⟩ : ∃ A, isAd x = A := ⟨_, rfl⟩
      rw [hA] at HI HFE
      have i0 : (0 : Int) < ((f + 1 : Nat) : Int) := by omega
      have i1 : IntKind.i64.wrap (((f + 1 : Nat) : Int) - 1) = (f : Int) := by rw [IntWalk.i64_in _ ⟨by omega, by omega⟩]; omega
      have i2 : (f : Int) < (n : Int) := by omega
      have i3 : (0 : Int) ≤ (f : Int) := by omega
      have lL := (bc.cell (p := ⟨w.heap.size, 0, none⟩) hls).trans l1
      have lB := Nat.lt_of_lt_of_le hls bc.size
      clear hx hA hf0
      go_wp2_with fail
      refine (HI.out _).mono ?_; rintro e w6 ⟨rfl, b6⟩
      have bc := bc.trans (b6.mono bc.size)
      clear c0 c1 c2 b6 lL lB hlt
      cases A
      · have nf : (!true) = false := rfl
        have nt : (!false) = true := rfl
        have HDK : Hid (adK ps k = f + 1) := Lib.hid (by rw [← HF.out, HFE.out, if_neg Bool.false_ne_true])
        have hD : f + 1 ≤ k := hf
        have hMw := hM.below bc hM.lt
        have lLw := (bc.cell (p := ⟨w.heap.size, 0, none⟩) hls).trans l1
        have lBw := Nat.lt_of_lt_of_le hls bc.size
        have m0w := (bc.cell (p := ⟨MB + 1, 0, none⟩) ms).trans m0
        have msw := Nat.lt_of_lt_of_le ms bc.size
        clear HF HIP
        go_wp2_with fail
        go_loopw [13] (fun v wr2 => ∃ j : Nat, (f + 1) ≤ j ∧ j ≤ k ∧ v = .int .i64 (j : Int) ∧ wr2 = w6 ∧ Hid (∀ i : Nat, (f + 1) ≤ i → i < j → H (i : Int) = true)) (fun v _ => k - (intOf v).toNat)
        case atStart => exact ⟨(f + 1), Nat.le_refl _, hD, by first | rfl | go_num, rfl, Lib.hid (fun i h1 h2 => by omega)⟩
        case round =>
          obtain ⟨j, hdj, hjk, rfl, rfl, HJ⟩ := hrel
          by_cases hj : j < k
          · have jI : (j : Int) < (k : Int) := by omega
            have hrun := hMw.look (x := (j : Int)) (WalkArith.wf_i64 (by omega))
            obtain ⟨y, hy⟩ : ∃ y, H (j : Int) = y := ⟨_, rfl⟩
            have HY := Lib.hid hy
            rw [hy] at hrun
            have cb := HB.out _ j bc (by omega)
            have gbl := Nat.lt_of_lt_of_le hgl bc.size
            have jn : (j : Int) < (n : Int) + 1 := by omega
            have j0 : (0 : Int) ≤ (j : Int) := by omega
            have jw : IntKind.i64.wrap ((j : Int) + 1) = (j : Int) + 1 := IntWalk.i64_in _ ⟨by omega, by omega⟩
            clear hy
            cases y
            · have e1 := HXA.out j hkn (by rw [HDK.out]; exact hdj) hj HY.out (by rw [HDK.out]; exact HJ.out)
              rw [← e1] at cb
              clear HXA HXL e1
              go_wp2_with fail
              go_ret2
              exact ⟨rfl, HSB.out.trans (bc.mono HSB.out.size)⟩
            · have HJ2 : Hid (∀ i : Nat, (f + 1) ≤ i → i < j + 1 → H (i : Int) = true) := Lib.hid (fun i h1 h2 => by
                by_cases e : i = j
                · subst e; exact HY.out
                · exact HJ.out i h1 (by omega))
              clear cb gbl
              go_wp2_with fail
              go_roundw
              case rel => exact ⟨j + 1, by omega, by omega, by go_num, by first | rfl | trivial, HJ2⟩
              case measure => simp [intOf]; omega
          · have hjk2 : j = k := by omega
            subst hjk2
            have e1 := HXL.out hkn (by rw [HDK.out]; exact HJ.out)
            obtain ⟨b, off, hsa, hlt, -, c1, -⟩ := HP.out _ j bc hkn
            cases hsa
            have cb := HB.out _ j bc (by omega)
            have gbl := Nat.lt_of_lt_of_le hgl bc.size
            have hbd := (HG.out.bd j (by rw [HN.out]; omega)).2
            have hok := HG.out.ok j (by rw [HN.out]; exact hkn)
            have hfr := hok.fr
            have hsm := hok.sm
            obtain ⟨fr, hfe⟩ : ∃ fr, (ps.getD j prt0).fr = fr := ⟨_, rfl⟩
            obtain ⟨al, hal⟩ : ∃ al, alTo ps j = al := ⟨_, rfl⟩
            rw [hfe] at c1 hfr e1
            rw [hal] at cb hbd e1
            have jn : (j : Int) < (n : Int) + 1 := by omega
            have jn2 : (j : Int) < (n : Int) := by omega
            have j0 : (0 : Int) ≤ (j : Int) := by omega
            have jj : ¬ ((j : Int) < (j : Int)) := by omega
            have wd : IntKind.i64.wrap (t - fr) = t - fr := IntWalk.i64_in _ ⟨by omega, by omega⟩
            subst e1
            clear HXA HXL hok hsm hfe hal hjk hj
            go_upto_region 20 with fail
            go_region
            all_goals
              go_wp2_with fail
              go_ret2
              exact ⟨rfl, (HSB.out.trans (bc.mono HSB.out.size)).drew⟩
      · have nf : (!true) = false := rfl
        have nt : (!false) = true := rfl
        have HF2 : Hid (adK ps f = adK ps k) := Lib.hid (by rw [← HF.out, HFE.out, if_pos rfl])
        go_wp2_with fail
        go_roundw
        case rel => exact ⟨f, by omega, by go_num, HF2, bc⟩
        case measure => simp [intOf]

end Go.Proofs.Ytiphipgheadakaa
