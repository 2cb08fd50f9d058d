/- The reference's Due. -/
import Derived.Test.YtiphipgheadakaaDue
namespace Go.Proofs.Ytiphipgheadakaa
set_option linter.unusedVariables false
set_option linter.unusedSimpArgs false
open Go.RowKit

set_option maxRecDepth 100000 in
set_option maxHeartbeats 16000000 in
theorem rdue_good (v : Value) (ps : List Prt) (a b : Int) (w : World) (hS : Prts w v ps) (hwf : ∀ y ∈ ps, y.ad.size ≤ maxLen) (h0 : dueF ps a b = 0) :
    Calls Try.prog 32 #[v, .int .i64 a, .int .i64 b] w fun e w' => (∃ u, e = .returned (.tuple #[u, .int .i64 0]) ∧ w'.ownsRow w.heap.size 58 4 u (dueN ps a b ps.length).length (ecells (dueN ps a b ps.length))) ∧ Below w.heap.size w w' := by
  obtain ⟨i0, hi, hi0, hi1, hi2⟩ := info_parts Try.infoEv
  obtain ⟨hp0, ha, hb⟩ := dueF_zero h0
  have g := (ptF_zero ps).1 hp0
  obtain ⟨sa, cap, rfl⟩ := hS.parts
  obtain ⟨n, hn⟩ : ∃ n, ps.length = n := ⟨_, rfl⟩
  have hn5 := g.len
  have HCP : Hid (∀ W, Below w.heap.size w W → Calls Try.prog 26 #[.slice sa n cap] W fun e w' => e = .returned (.int .i64 0) ∧ Below W.heap.size W w') := Lib.hid (fun W hb => by rw [← hp0, ← hn]; exact rCheckParts_any _ ps W (hS.below hb (Nat.le_refl _)) hwf)
  have HBG : Hid (∀ W k, k ≤ n → Below w.heap.size w W → Calls Try.prog 61 #[.slice sa n cap, .int .i64 (k : Nat)] W fun e w' => e = .returned (.int .i64 (alTo ps k)) ∧ W = w') := Lib.hid (fun W k hk hb => by have := rbegins_any _ ps k W (hS.below hb (Nat.le_refl _)) (by omega) g; rw [hn] at this; exact this)
  have HT1 : Hid (∀ W, Calls Try.prog 44 #[.int .i64 a, .int .i64 0, .int .i64 1000000000000000] W fun e w' => e = .returned (.bool true) ∧ W = w') := Lib.hid (fun W => by have := rwithin7_any a 0 1000000000000000 W; rw [inB_yes ha.1 ha.2] at this; exact this)
  have HT2 : Hid (∀ W, Calls Try.prog 44 #[.int .i64 b, .int .i64 a, .int .i64 1000000000000000] W fun e w' => e = .returned (.bool true) ∧ W = w') := Lib.hid (fun W => by have := rwithin7_any b a 1000000000000000 W; rw [inB_yes hb.1 hb.2] at this; exact this)
  have HS : Hid (∀ W, Below w.heap.size w W → Prts W (.slice sa n cap) ps) := Lib.hid (fun W hb => by rw [← hn]; exact hS.below hb (Nat.le_refl _))
  have HN := Lib.hid hn; have HG := Lib.hid g
  rw [hn] at hn5 ⊢
  have b0 : Below w.heap.size w w := Below.refl _ w
  clear hS hn g hwf h0 hp0 ha hb
  go_enter Try.func32, Try.ntmps32
  go_wp2_with fail
  refine (HCP.out _ b0).mono ?_; rintro e w3 ⟨rfl, b3⟩
  go_wp2_with fail
  refine (HT1.out _).mono ?_; rintro e w' ⟨rfl, rfl⟩
  go_wp2_with fail
  refine (HT2.out _).mono ?_; rintro e w' ⟨rfl, rfl⟩
  clear b0 HCP HT1 HT2
  obtain ⟨Z, hZ⟩ : ∃ Z, w3.heap.size = Z := ⟨_, rfl⟩
  have hZw : w.heap.size ≤ Z := by have := b3.size; omega
  have HBW : Hid (∀ wr, Below Z w3 wr → Below w.heap.size w wr) := Lib.hid (fun wr hb => b3.trans (hb.mono hZw))
  have HSZ : Hid (∀ wr, Below Z w3 wr → Z ≤ wr.heap.size) := Lib.hid (fun wr hb => by have := hb.size; omega)
  have hb3 : Below Z w3 w3 := Below.refl _ _
  clear hZ b3
  go_wp2_with fail
  go_loopw [9, 10] (fun v9 v36 wr => ∃ k : Nat, k ≤ n ∧ v36 = .int .i64 (k : Int) ∧ wr.ownsRow Z 58 4 v9 (dueN ps a b k).length (ecells (dueN ps a b k)) ∧ Below Z w3 wr) (fun _ v36 _ => n - (intOf v36).toNat)
  case atStart => exact ⟨0, Nat.zero_le _, rfl, World.ownsRow_nil _ _ _ _, hb3⟩
  case round =>
    clear hb3
    obtain ⟨k, hk, rfl, hown, hbr⟩ := hrel
    by_cases hk2 : k < n
    rotate_left
    · have hkn : k = n := by omega
      have kD : decide ((k : Int) < (n : Int)) = false := by simp; omega
      have kD2 : decide (k < n) = false := by simp; omega
      rw [hkn] at hown
      have hfin := own_base hown hZw
      clear hkn hown
      go_wp2_with fail
      go_ret2
      exact ⟨⟨_, rfl, hfin⟩, HBW.out _ hbr⟩
    · have hlk := (HG.out.ok k (by rw [HN.out]; exact hk2)).ln
      have hbd := (HG.out.bd k (by rw [HN.out]; omega)).2
      have HCL : Hid (∀ wr, Below Z w3 wr → ∃ bb off, sa = some ⟨bb, off, none⟩ ∧ wr.cell? ⟨bb, off + k * 3, none⟩ = some (.string (ps.getD k prt0).ad) ∧ wr.cell? ⟨bb, off + k * 3 + 2, none⟩ = some (.int .i64 (ps.getD k prt0).ln)) := Lib.hid (fun wr hb => by
        have hSW := HS.out _ (HBW.out _ hb)
        obtain ⟨bb, off, cap', hv, hlt, -, -⟩ := hSW.spot (by rw [HN.out]; omega)
        simp only [Value.slice.injEq] at hv
        obtain ⟨rfl, -, rfl⟩ := hv
        obtain ⟨c0, c1, c2⟩ := hSW.cells k (by rw [HN.out]; exact hk2)
        exact ⟨bb, off, rfl, c0, c2⟩)
      have HSK : Hid (dueN ps a b (k + 1) = if isAd (ps.getD k prt0) = true then dueN ps a b k ++ dueK ps a b k 5 else dueN ps a b k) := Lib.hid rfl
      have HLT : Hid (∀ j : Nat, lastT ps k j = alTo ps k + need (ps.getD k prt0).ln j - 1) := Lib.hid (fun j => rfl)
      have HEV : Hid (∀ j : Nat, evAt ps k j = ⟨k, (ps.getD k prt0).ad, j⟩) := Lib.hid (fun j => rfl)
      have HBK : Hid (∀ W, Below Z w3 W → Calls Try.prog 61 #[.slice sa n cap, .int .i64 (k : Int)] W fun e w' => e = .returned (.int .i64 (alTo ps k)) ∧ W = w') := Lib.hid (fun W hb => HBG.out W k hk (HBW.out _ hb))
      obtain ⟨x, hx⟩ : ∃ x, ps.getD k prt0 = x := ⟨_, rfl⟩
      obtain ⟨al, hal⟩ : ∃ al, alTo ps k = al := ⟨_, rfl⟩
      rw [hx] at HCL hlk HSK HLT HEV
      rw [hal] at hbd HLT HBK
      have kI : (k : Int) < (n : Int) := by omega
      have hwI : IntKind.i64.wrap ((k : Int) + 1) = (k : Int) + 1 := IntWalk.i64_in _ ⟨by omega, by omega⟩
      obtain ⟨L0, hL0⟩ : ∃ L0, dueN ps a b k = L0 := ⟨_, rfl⟩
      rw [hL0] at hown HSK
      have HLB : Hid (∀ j, j ≤ 5 → (L0 ++ dueK ps a b k j).length ≤ 5005) := Lib.hid (fun j hj => by rw [← hL0]; exact due_bd ps a b k j (by omega) hj)
      have hIA : isAd x = isAd ⟨x.ad, x.fr, x.ln⟩ := rfl
      have hq := isAd_eq x.ad x.fr x.ln
      rw [← hIA] at hq
      have hq2 : (x.ad.toList != []) = isAd x := by rw [bne, hq, Bool.not_not]
      obtain ⟨IA, hIA2⟩ : ∃ IA, isAd x = IA := ⟨_, rfl⟩
      rw [hIA2] at HSK hq hq2
      have HQ := Lib.hid hq; have HQ2 := Lib.hid hq2
      clear hx hal hL0 hIA hIA2 hq hq2
      cases IA
      · have HS2 : Hid (dueN ps a b (k + 1) = L0) := HSK
        have k1 : (x.ad.toList == []) = true := HQ.out
        have k2 : (x.ad.toList != []) = false := HQ2.out
        clear HSK
        go_wp2_with fail
        go_loopw [9, 11] (fun v9 v13 wi => ∃ j : Nat, j ≤ 5 ∧ v13 = .int .i64 ((j : Int) + 1) ∧ wi.ownsRow Z 58 4 v9 L0.length (ecells L0) ∧ Below Z w3 wi) (fun _ v13 _ => 6 - (intOf v13).toNat)
        case atStart => exact ⟨0, Nat.zero_le _, rfl, hown, hbr⟩
        case round =>
          clear hown hbr
          obtain ⟨j, hj, rfl, hown, hbr⟩ := hrel
          by_cases hj5 : j < 5
          rotate_left
          · have hj6 : j = 5 := by omega
            subst hj6
            clear hj hj5 k1 k2
            go_wp2_with fail
            go_roundw
            case rel => exact ⟨k + 1, by omega, by go_num, by rw [HS2.out]; exact hown, hbr⟩
            case measure => simp [intOf]; omega
          · have hjI : (j : Int) + 1 ≤ 5 := by omega
            have hwJ : IntKind.i64.wrap ((j : Int) + 1 + 1) = (j : Int) + 1 + 1 := IntWalk.i64_in _ ⟨by omega, by omega⟩
            have hnd := need_bd (ki := (j : Int) + 1) hlk.1 (by omega) (by omega)
            have HND : Hid (∀ W, Calls Try.prog 64 #[.int .i64 x.ln, .int .i64 ((j : Int) + 1)] W fun e w' => e = .returned (.int .i64 (need x.ln ((j : Int) + 1))) ∧ W = w') := Lib.hid (fun W => rneed_any x.ln ((j : Int) + 1) W hlk.1 hlk.2 (by omega) (by omega))
            obtain ⟨nd, hnd0⟩ : ∃ nd, need x.ln ((j : Int) + 1) = nd := ⟨_, rfl⟩
            rw [hnd0] at hnd HND
            obtain ⟨tl, htl⟩ : ∃ tl, al + nd - 1 = tl := ⟨_, rfl⟩
            have w1 : IntKind.i64.wrap (al + nd) = al + nd := IntWalk.i64_in _ ⟨by omega, by omega⟩
            have w2 : IntKind.i64.wrap (al + nd - 1) = tl := by rw [IntWalk.i64_in _ ⟨by omega, by omega⟩]; exact htl
            obtain ⟨bb, off, hsa, c0, c2⟩ := HCL.out _ hbr
            subst hsa
            clear hnd
            clear hnd0 htl
            go_upto_region 13 with fail
            go_quiet ((first | (go_at_call 61; exact Calls.quiet_of_same (st_of (HBK.out _ (below_drewN hbr _)))) | (go_at_call 64; exact Calls.quiet_of_same (st_of (HND.out _)))))
            have hbr := below_drewN hbr nq
            have hown : (wr.drewN nq).ownsRow Z 58 4 _ L0.length (ecells L0) := hown
            replace c0 : (wr.drewN nq).cell? ⟨bb, off + k * 3, none⟩ = some (.string x.ad) := c0
            clear c2 w1 w2 HND
            generalize wr.drewN nq = W5 at *
            go_wp2_with fail
            go_roundw
            case rel => exact ⟨j + 1, by omega, by go_num, hown, hbr⟩
            case measure => simp [intOf]; omega
      · have HS2 : Hid (dueN ps a b (k + 1) = L0 ++ dueK ps a b k 5) := HSK
        have k1 : (x.ad.toList == []) = false := HQ.out
        have k2 : (x.ad.toList != []) = true := HQ2.out
        have hown : wr.ownsRow Z 58 4 u9 (L0 ++ dueK ps a b k 0).length (ecells (L0 ++ dueK ps a b k 0)) := by rw [show dueK ps a b k 0 = [] from rfl, List.append_nil]; exact hown
        clear HSK
        go_wp2_with fail
        go_loopw [9, 11] (fun v9 v13 wi => ∃ j : Nat, j ≤ 5 ∧ v13 = .int .i64 ((j : Int) + 1) ∧ wi.ownsRow Z 58 4 v9 (L0 ++ dueK ps a b k j).length (ecells (L0 ++ dueK ps a b k j)) ∧ Below Z w3 wi) (fun _ v13 _ => 6 - (intOf v13).toNat)
        case atStart => exact ⟨0, Nat.zero_le _, rfl, hown, hbr⟩
        case round =>
          clear hown hbr
          obtain ⟨j, hj, rfl, hown, hbr⟩ := hrel
          by_cases hj5 : j < 5
          rotate_left
          · have hj6 : j = 5 := by omega
            subst hj6
            clear hj hj5 k1 k2
            go_wp2_with fail
            go_roundw
            case rel => exact ⟨k + 1, by omega, by go_num, by rw [HS2.out]; exact hown, hbr⟩
            case measure => simp [intOf]; omega
          · have HKS : Hid (dueK ps a b k (j + 1) = if a ≤ lastT ps k (j + 1) ∧ lastT ps k (j + 1) < b then dueK ps a b k j ++ [evAt ps k (j + 1)] else dueK ps a b k j) := Lib.hid rfl
            have hlt1 := HLT.out (j + 1)
            have hev1 := HEV.out (j + 1)
            rw [show (((j + 1 : Nat)) : Int) = (j : Int) + 1 by omega] at hlt1 hev1
            have hjI : (j : Int) + 1 ≤ 5 := by omega
            have hwJ : IntKind.i64.wrap ((j : Int) + 1 + 1) = (j : Int) + 1 + 1 := IntWalk.i64_in _ ⟨by omega, by omega⟩
            have hnd := need_bd (ki := (j : Int) + 1) hlk.1 (by omega) (by omega)
            have HND : Hid (∀ W, Calls Try.prog 64 #[.int .i64 x.ln, .int .i64 ((j : Int) + 1)] W fun e w' => e = .returned (.int .i64 (need x.ln ((j : Int) + 1))) ∧ W = w') := Lib.hid (fun W => rneed_any x.ln ((j : Int) + 1) W hlk.1 hlk.2 (by omega) (by omega))
            obtain ⟨nd, hnd0⟩ : ∃ nd, need x.ln ((j : Int) + 1) = nd := ⟨_, rfl⟩
            rw [hnd0] at hnd HND
            obtain ⟨tl, htl⟩ : ∃ tl, al + nd - 1 = tl := ⟨_, rfl⟩
            have w1 : IntKind.i64.wrap (al + nd) = al + nd := IntWalk.i64_in _ ⟨by omega, by omega⟩
            have w2 : IntKind.i64.wrap (al + nd - 1) = tl := by rw [IntWalk.i64_in _ ⟨by omega, by omega⟩]; exact htl
            obtain ⟨bb, off, hsa, c0, c2⟩ := HCL.out _ hbr
            subst hsa
            clear hnd
            rw [hnd0] at hlt1
            rw [htl] at hlt1
            rw [hlt1, hev1] at HKS
            obtain ⟨va2, vc2, hvv⟩ := iown7_form hown
            have hLb := HLB.out j (by omega)
            obtain ⟨L1, hL1⟩ : ∃ L1, L0 ++ dueK ps a b k j = L1 := ⟨_, rfl⟩
            rw [hL1] at hown hLb hvv
            have HK1 : Hid (a ≤ tl → tl < b → L0 ++ dueK ps a b k (j + 1) = L1 ++ [⟨k, x.ad, (j : Int) + 1⟩]) := Lib.hid (fun h1 h2 => by rw [HKS.out, if_pos ⟨h1, h2⟩, ← List.append_assoc, hL1])
            have HK2 : Hid (¬ (a ≤ tl ∧ tl < b) → L0 ++ dueK ps a b k (j + 1) = L1) := Lib.hid (fun h => by rw [HKS.out, if_neg h, hL1])
            subst hvv
            clear hnd0 hlt1 hev1 htl hL1 HKS
            go_upto_region 13 with fail
            go_quiet ((first | (go_at_call 61; exact Calls.quiet_of_same (st_of (HBK.out _ (below_drewN hbr _)))) | (go_at_call 64; exact Calls.quiet_of_same (st_of (HND.out _)))))
            have hbr := below_drewN hbr nq
            have hown : (wr.drewN nq).ownsRow Z 58 4 (.slice va2 L1.length vc2) L1.length (ecells L1) := hown
            replace c0 : (wr.drewN nq).cell? ⟨bb, off + k * 3, none⟩ = some (.string x.ad) := c0
            clear c2 w1 w2 HND
            generalize wr.drewN nq = W5 at *
            by_cases hA : a ≤ tl
            · by_cases hB : tl < b
              · have hK := Lib.hid (HK1.out hA hB)
                go_wp2_with (at_builtin; refine wpList_append_own _ rfl _ _ 53 rfl Z 58 i0 (.agg #[.string ⟨#[]⟩, .int .i64 0, .string ⟨#[]⟩, .int .i64 0]) 4 48 Try.underlying53 hi hi0 hi1 hi2 rfl (by decide) _ _ _ rfl (hown.alloc _) ⟨W5.heap.size, 0, none⟩ 1 1 [.string ⟨#[]⟩, .int .i64 (k : Int), .string x.ad, .int .i64 ((j : Int) + 1)] rfl rfl ?b1 ?b2 ?b3 ?b4 ?b5 ?_)
                case b1 =>
                  have := World.news_of_block (cs := #[.string ⟨#[]⟩, .int .i64 (k : Int), .string x.ad, .int .i64 ((j : Int) + 1)]) (t := 58) (fr := (0, 0)) (heap_alloc_new W5 (.cells #[.string ⟨#[]⟩, .int .i64 (k : Int), .string x.ad, .int .i64 ((j : Int) + 1)] 58))
                  simpa using this
                case b2 => simp [Value.oneCell']
                case b3 => unfold maxLen; omega
                case b4 => omega
                case b5 => have := HSZ.out _ hbr; first | omega | (simp; omega)
                intro v' w6 hown1 hgrow _
                have hs6 := HSZ.out _ hbr
                have hb6 : Below Z w3 w6 := (hbr.alloc hs6 _).grown hgrow (by simp; omega) (fun q hq => (hown.lt q hq).1)
                have hown6 : w6.ownsRow Z 58 4 v' (L0 ++ dueK ps a b k (j + 1)).length (ecells (L0 ++ dueK ps a b k (j + 1))) := by rw [hK.out, List.length_append, ecells_snoc]; exact hown1
                clear hown1 hgrow hown c0
                go_wp2_with fail
                go_roundw
                case rel => exact ⟨j + 1, by omega, by go_num, hown6, hb6⟩
                case measure => simp [intOf]; omega
              · have hB2 : decide (tl < b) = false := decide_eq_false hB
                have hK := Lib.hid (HK2.out (fun h => hB h.2))
                clear hB
                go_wp2_with fail
                go_roundw
                case rel => exact ⟨j + 1, by omega, by go_num, by rw [hK.out]; exact hown, hbr⟩
                case measure => simp [intOf]; omega
            · have hA2 : decide (a ≤ tl) = false := decide_eq_false hA
              have hK := Lib.hid (HK2.out (fun h => hA h.1))
              clear hA
              go_wp2_with fail
              go_roundw
              case rel => exact ⟨j + 1, by omega, by go_num, by rw [hK.out]; exact hown, hbr⟩
              case measure => simp [intOf]; omega
theorem rdue_bad (v : Value) (ps : List Prt) (a b : Int) (w : World) (hS : Prts w v ps) (hwf : ∀ y ∈ ps, y.ad.size ≤ maxLen) (h0 : dueF ps a b ≠ 0) :
    Calls Try.prog 32 #[v, .int .i64 a, .int .i64 b] w fun e w' => (∃ u, e = .returned (.tuple #[u, .int .i64 (dueF ps a b)]) ∧ w'.ownsRow w.heap.size 58 4 u 0 (ecells [])) ∧ Below w.heap.size w w' := by
  have HCP := Lib.hid (rCheckParts_any v ps w hS hwf)
  obtain ⟨F0, hF0⟩ : ∃ F0, ptF ps = F0 := ⟨_, rfl⟩
  obtain ⟨T1, hT1⟩ : ∃ T1, inB a 0 1000000000000000 = T1 := ⟨_, rfl⟩
  obtain ⟨T2, hT2⟩ : ∃ T2, inB b a 1000000000000000 = T2 := ⟨_, rfl⟩
  have HSM := Lib.hid (due_sum F0 T1 T2 ps a b hF0 hT1 hT2)
  have HT1 : Hid (∀ W, Calls Try.prog 44 #[.int .i64 a, .int .i64 0, .int .i64 1000000000000000] W fun e w' => e = .returned (.bool T1) ∧ W = w') := Lib.hid (fun W => by rw [← hT1]; exact rwithin7_any a _ _ W)
  have HT2 : Hid (∀ W, Calls Try.prog 44 #[.int .i64 b, .int .i64 a, .int .i64 1000000000000000] W fun e w' => e = .returned (.bool T2) ∧ W = w') := Lib.hid (fun W => by rw [← hT2]; exact rwithin7_any b a 1000000000000000 W)
  obtain ⟨R, hR⟩ : ∃ R, dueF ps a b = R := ⟨_, rfl⟩
  rw [hR] at h0 HSM ⊢
  rw [hF0] at HCP
  have H0 := Lib.hid h0
  clear hF0 hT1 hT2 hR hS hwf h0
  by_cases hf : F0 = 0
  rotate_left
  · have r0 : (F0 == 0) = false := by simp; exact hf
    have r1 : (F0 != 0) = true := by simp; exact hf
    have e1 : R = F0 := by rw [← HSM.out, fstF, if_neg hf]
    subst e1
    clear hf
    go_enter Try.func32, Try.ntmps32
    go_wp2_with fail
    refine HCP.out.mono ?_; rintro e w1 ⟨rfl, b1⟩
    go_wp2_with fail
    go_ret2
    exact ⟨⟨_, rfl, World.ownsRow_nil _ _ _ _⟩, b1⟩
  · subst hf
    cases T1
    · have e1 : R = 1 := HSM.out.symm
      subst e1
      go_enter Try.func32, Try.ntmps32
      go_wp2_with fail
      refine HCP.out.mono ?_; rintro e w1 ⟨rfl, b1⟩
      go_wp2_with fail
      refine (HT1.out _).mono ?_; rintro e w' ⟨rfl, rfl⟩
      go_wp2_with fail
      go_ret2
      exact ⟨⟨_, rfl, World.ownsRow_nil _ _ _ _⟩, b1⟩
    · cases T2
      · have e1 : R = 1 := HSM.out.symm
        subst e1
        go_enter Try.func32, Try.ntmps32
        go_wp2_with fail
        refine HCP.out.mono ?_; rintro e w1 ⟨rfl, b1⟩
        go_wp2_with fail
        refine (HT1.out _).mono ?_; rintro e w' ⟨rfl, rfl⟩
        go_wp2_with fail
        refine (HT2.out _).mono ?_; rintro e w' ⟨rfl, rfl⟩
        go_wp2_with fail
        go_ret2
        exact ⟨⟨_, rfl, World.ownsRow_nil _ _ _ _⟩, b1⟩
      · exact absurd HSM.out.symm H0.out
theorem rDue_any (v : Value) (ps : List Prt) (a b : Int) (w : World) (hS : Prts w v ps) (hwf : ∀ y ∈ ps, y.ad.size ≤ maxLen) :
    Calls Try.prog 32 #[v, .int .i64 a, .int .i64 b] w fun e w' => (∃ u, e = .returned (.tuple #[u, .int .i64 (dueF ps a b)]) ∧ w'.ownsRow w.heap.size 58 4 u (dueL ps a b).length (ecells (dueL ps a b))) ∧ Below w.heap.size w w' := by
  by_cases h0 : dueF ps a b = 0
  · have e : dueL ps a b = dueN ps a b ps.length := if_pos h0
    rw [e, h0]
    exact rdue_good v ps a b w hS hwf h0
  · have e : dueL ps a b = [] := if_neg h0
    rw [e]
    exact rdue_bad v ps a b w hS hwf h0

end Go.Proofs.Ytiphipgheadakaa
