/- Due (program). -/
import Derived.Test.YtiphipgheadakaaEvs
namespace Go.Proofs.Ytiphipgheadakaa
set_option linter.unusedVariables false
set_option linter.unusedSimpArgs false
open Go.RowKit

theorem due_sum (F0 : Int) (T1 T2 : Bool) (ps : List Prt) (a b : Int) (h0 : ptF ps = F0) (h1 : inB a 0 1000000000000000 = T1) (h2 : inB b a 1000000000000000 = T2) : fstF [F0, fIf (!T1 || !T2) 1] = dueF ps a b := by
  unfold dueF
  rw [h0, h1, h2]
  by_cases h : F0 = 0
  · subst h; cases T1 <;> cases T2 <;> rfl
  · rw [fstF, if_neg h, if_neg h]
theorem dueF_zero {ps : List Prt} {a b : Int} (h : dueF ps a b = 0) : ptF ps = 0 ∧ (0 ≤ a ∧ a ≤ 1000000000000000) ∧ a ≤ b ∧ b ≤ 1000000000000000 := by
  unfold dueF at h
  split at h
  · rename_i h1
    rw [fIf_zero (by decide)] at h
    simp only [Bool.or_eq_false_iff, Bool.not_eq_false', inB_iff] at h
    exact ⟨h1, h.1, h.2⟩
  · contradiction
theorem due_bd (ps : List Prt) (a b : Int) (k j : Nat) (hk : k ≤ 1000) (hj : j ≤ 5) : (dueN ps a b k ++ dueK ps a b k j).length ≤ 5005 := by
  have := dueN_len ps a b k
  have := dueK_len ps a b k j
  rw [List.length_append]; omega
set_option maxRecDepth 100000 in
set_option maxHeartbeats 16000000 in
theorem due_good (v : Value) (ps : List Prt) (a b : Int) (w : World) (hS : Prts w v ps) (hwf : ∀ y ∈ ps, y.ad.size ≤ maxLen) (h0 : dueF ps a b = 0) :
    Calls Try.prog 31 #[v, .int .i64 a, .int .i64 b] w fun e w' => (∃ u, e = .returned (.tuple #[u, .int .i64 0]) ∧ w'.ownsRow w.heap.size 58 4 u (dueN ps a b ps.length).length (ecells (dueN ps a b ps.length))) ∧ Below w.heap.size w w' := by
  obtain ⟨i0, hi, hi0, hi1, hi2⟩ := info_parts Try.infoEv
  obtain ⟨hp0, ha, hb⟩ := dueF_zero h0
  have g := (ptF_zero ps).1 hp0
  obtain ⟨sa, cap, rfl⟩ := hS.parts
  obtain ⟨n, hn⟩ : ∃ n, ps.length = n := ⟨_, rfl⟩
  have hn5 := g.len
  have HCP : Hid (∀ W, Below w.heap.size w W → Calls Try.prog 25 #[.slice sa n cap] W fun e w' => e = .returned (.int .i64 0) ∧ Below W.heap.size W w') := Lib.hid (fun W hb => by rw [← hp0, ← hn]; exact CheckParts_any _ ps W (hS.below hb (Nat.le_refl _)) hwf)
  have HBG : Hid (∀ W, Below w.heap.size w W → Calls Try.prog 52 #[.slice sa n cap] W fun e w' => (∃ u, e = .returned u ∧ NumsC w' u (bgL ps (n + 1))) ∧ Below W.heap.size W w') := Lib.hid (fun W hb => by rw [← hn]; exact beginsOf_any _ ps W (hS.below hb (Nat.le_refl _)) g)
  have HT1 : Hid (∀ W, Calls Try.prog 42 #[.int .i64 a] W fun e w' => e = .returned (.bool true) ∧ W = w') := Lib.hid (fun W => by have := tickP_any a W; rw [inB_yes ha.1 ha.2] at this; exact this)
  have HT2 : Hid (∀ W, Calls Try.prog 47 #[.int .i64 b, .int .i64 a, .int .i64 1000000000000000] W fun e w' => e = .returned (.bool true) ∧ W = w') := Lib.hid (fun W => by have := bwithin_any b a 1000000000000000 W; rw [inB_yes hb.1 hb.2] at this; exact this)
  have HS : Hid (∀ W, Below w.heap.size w W → Prts W (.slice sa n cap) ps) := Lib.hid (fun W hb => by rw [← hn]; exact hS.below hb (Nat.le_refl _))
  have HN := Lib.hid hn; have HG := Lib.hid g
  rw [hn] at hn5 ⊢
  have b0 : Below w.heap.size w w := Below.refl _ w
  clear hS hn g hwf h0 hp0 ha hb
  go_enter Try.func31, Try.ntmps31
  go_wp2_with fail
  refine (HCP.out _ b0).mono ?_; rintro e w1 ⟨rfl, b1⟩
  go_wp2_with fail
  refine (HT1.out _).mono ?_; rintro e w' ⟨rfl, rfl⟩
  go_wp2_with fail
  refine (HT2.out _).mono ?_; rintro e w' ⟨rfl, rfl⟩
  go_wp2_with fail
  refine (bfaultIf_any _ _ _).mono ?_; rintro e w' ⟨rfl, rfl⟩
  go_wp2_with fail
  refine (lfirst2 _ _ _).mono ?_; rintro e w' ⟨rfl, rfl⟩
  have b1 := b1.alloc (o := .cells #[.int .i64 0, .int .i64 (fIf false 1)] 29) b1.size
  have e1 : fstF [0, fIf false 1] = 0 := rfl
  rw [e1]
  generalize w1.alloc (.cells #[.int .i64 0, .int .i64 (fIf false 1)] 29) = W1 at *
  go_wp2_with fail
  refine (HBG.out _ b1).mono ?_; rintro e w3 ⟨⟨ub, rfl, hnb⟩, b3⟩
  have b3 := b1.trans (b3.mono b1.size)
  obtain ⟨ga, gc, rfl, -⟩ := hnb.parts
  rw [bgL_len] at hnb ⊢
  clear b0 b1 HCP HT1 HT2 HBG e1
  obtain ⟨Z, hZ⟩ : ∃ Z, w3.heap.size = Z := ⟨_, rfl⟩
  have hZw : w.heap.size ≤ Z := by have := b3.size; omega
  have HBW : Hid (∀ wr, Below Z w3 wr → Below w.heap.size w wr) := Lib.hid (fun wr hb => b3.trans (hb.mono hZw))
  have HSZ : Hid (∀ wr, Below Z w3 wr → Z ≤ wr.heap.size) := Lib.hid (fun wr hb => by have := hb.size; omega)
  have HNB : Hid (∀ wr k, k < n → Below Z w3 wr → ∃ g o, ga = some ⟨g, o, none⟩ ∧ wr.cell? ⟨g, o + k, none⟩ = some (.int .i64 (alTo ps k))) := Lib.hid (fun wr k hk hb => by
    have h := hnb.below hb (by omega)
    rcases h with ⟨a', c', hv, h1⟩ | ⟨g, o, c', hv, -, -, -, -, hc⟩
    · have := congrArg List.length h1; rw [bgL_len] at this; simp at this
    · simp only [Value.slice.injEq] at hv
      refine ⟨g, o, hv.1, ?_⟩
      have := hc k (by rw [bgL_len]; omega)
      rwa [bgL_at ps (n + 1) k (by omega)] at this)
  have hb3 : Below Z w3 w3 := Below.refl _ _
  clear hnb hZ b3
  go_wp2_with fail
  go_loopw [9, 36] (fun v9 v36 wr => ∃ k : Nat, k ≤ n ∧ v36 = .int .i64 (k : Int) ∧ wr.ownsRow Z 58 4 v9 (dueN ps a b k).length (ecells (dueN ps a b k)) ∧ Below Z w3 wr) (fun _ v36 _ => n - (intOf v36).toNat)
  case atStart => exact ⟨0, Nat.zero_le _, rfl, World.ownsRow_nil _ _ _ _, hb3⟩
  case round =>
    clear hb3
    obtain ⟨k, hk, rfl, hown, hbr⟩ := hrel
    by_cases hk2 : k < n
    rotate_left
    · have hkn : k = n := by omega
      have kD : decide ((k : Int) < (n : Int)) = false := by simp; omega
      have kD2 : decide (k < n) = false := by simp; omega
      rw [hkn] at hown
      have hfin := own_base hown hZw
      clear hkn hown
      go_wp2_with fail
      go_ret2
      exact ⟨⟨_, rfl, hfin⟩, HBW.out _ hbr⟩
    · have hbw := HBW.out _ hbr
      have hSW := HS.out _ hbw
      obtain ⟨bb, off, cap', hv, hlt, -, -⟩ := hSW.spot (by rw [HN.out]; omega)
      simp only [Value.slice.injEq] at hv
      obtain ⟨rfl, -, rfl⟩ := hv
      obtain ⟨c0, c1, c2⟩ := hSW.cells k (by rw [HN.out]; exact hk2)
      have hzr := HSZ.out _ hbr
      have hlk := (HG.out.ok k (by rw [HN.out]; exact hk2)).ln
      have hbd := (HG.out.bd k (by rw [HN.out]; omega)).2
      have HSK : Hid (dueN ps a b (k + 1) = if isAd (ps.getD k prt0) = true then dueN ps a b k ++ dueK ps a b k 5 else dueN ps a b k) := Lib.hid rfl
      have HLT : Hid (∀ j : Nat, lastT ps k j = alTo ps k + need (ps.getD k prt0).ln j - 1) := Lib.hid (fun j => rfl)
      have HEV : Hid (∀ j : Nat, evAt ps k j = ⟨k, (ps.getD k prt0).ad, j⟩) := Lib.hid (fun j => rfl)
      obtain ⟨x, hx⟩ : ∃ x, ps.getD k prt0 = x := ⟨_, rfl⟩
      obtain ⟨al, hal⟩ : ∃ al, alTo ps k = al := ⟨_, rfl⟩
      rw [hx] at c0 c1 c2 hlk HSK HLT HEV
      rw [hal] at hbd HLT
      have HNB2 : Hid (∀ wr, Below Z w3 wr → ∃ g o, ga = some ⟨g, o, none⟩ ∧ wr.cell? ⟨g, o + k, none⟩ = some (.int .i64 al)) := Lib.hid (fun wr hb => by rw [← hal]; exact HNB.out wr k hk2 hb)
      have kI : (k : Int) < (n : Int) := by omega
      have hwI : IntKind.i64.wrap ((k : Int) + 1) = (k : Int) + 1 := IntWalk.i64_in _ ⟨by omega, by omega⟩
      obtain ⟨L0, hL0⟩ : ∃ L0, dueN ps a b k = L0 := ⟨_, rfl⟩
      rw [hL0] at hown HSK
      obtain ⟨va, vc, rfl⟩ := iown7_form hown
      have DW : Dw w3 (wr.alloc (.cells #[.string x.ad, .int .i64 x.fr, .int .i64 x.ln] 44)) Z wr.heap.size x (.slice va L0.length vc) L0 := ⟨hown.alloc _, fun h => by have := (hown.lt _ h).2; omega, PBox.new wr x _, hbr.alloc hzr _, Nat.le_trans hzr (by simp)⟩
      have HLB : Hid (∀ j, j ≤ 5 → (L0 ++ dueK ps a b k j).length ≤ 5005) := Lib.hid (fun j hj => by rw [← hL0]; exact due_bd ps a b k j (by omega) hj)
      have HIP : Hid (∀ W, Calls Try.prog 48 #[.agg #[.string x.ad, .int .i64 x.fr, .int .i64 x.ln]] W fun e w' => e = .returned (.bool (!isAd x)) ∧ Below W.heap.size W w') := Lib.hid (fun W => isProg_any x.ad x.fr x.ln W)
      clear hx hal hown hSW hbw hL0 hbr
      go_upto_region 9 with fail
      generalize wr.alloc (.cells #[.string x.ad, .int .i64 x.fr, .int .i64 x.ln] 44) = W9 at *
      generalize wr.heap.size = X9 at *
      clear c0 c1 c2 hzr
      have y0 := DW.box.c0; have y1 := DW.box.c1; have y2 := DW.box.c2; have yl := DW.box.lt
      go_wp2_with fail
      refine (HIP.out _).mono ?_; rintro e w4 ⟨rfl, b4⟩
      have DW := DW.below b4
      clear y0 y1 y2 yl b4
      obtain ⟨IA, hIA⟩ : ∃ IA, isAd x = IA := ⟨_, rfl⟩
      rw [hIA] at HSK ⊢
      clear hIA HIP
      cases IA
      · have HS2 : Hid (dueN ps a b (k + 1) = L0) := HSK
        go_wp2_with fail
        go_roundw
        case rel => exact ⟨k + 1, by omega, by go_num, by rw [HS2.out]; exact DW.row, DW.bel⟩
        case measure => simp [intOf]; omega
      · have HS2 : Hid (dueN ps a b (k + 1) = L0 ++ dueK ps a b k 5) := HSK
        have DW : Dw w3 w4 Z X9 x (.slice va L0.length vc) (L0 ++ dueK ps a b k 0) := by rw [show dueK ps a b k 0 = [] from rfl, List.append_nil]; exact DW
        clear HSK
        go_wp2_with fail
        go_loopw [9, 13] (fun v9 v13 wi => ∃ j : Nat, j ≤ 5 ∧ v13 = .int .i64 ((j : Int) + 1) ∧ Dw w3 wi Z X9 x v9 (L0 ++ dueK ps a b k j)) (fun _ v13 _ => 6 - (intOf v13).toNat)
        case atStart => exact ⟨0, Nat.zero_le _, rfl, DW⟩
        case round =>
          clear DW
          obtain ⟨j, hj, rfl, DW⟩ := hrel
          by_cases hj5 : j < 5
          rotate_left
          · have hj6 : j = 5 := by omega
            subst hj6
            clear hj hj5
            go_wp2_with fail
            go_roundw
            case rel => exact ⟨k + 1, by omega, by go_num, by rw [HS2.out]; exact DW.row, DW.bel⟩
            case measure => simp [intOf]; omega
          · have hjI : (j : Int) + 1 ≤ 5 := by omega
            have hwJ : IntKind.i64.wrap ((j : Int) + 1 + 1) = (j : Int) + 1 + 1 := IntWalk.i64_in _ ⟨by omega, by omega⟩
            have hnd := need_bd (ki := (j : Int) + 1) hlk.1 (by omega) (by omega)
            have HKS : Hid (dueK ps a b k (j + 1) = if a ≤ lastT ps k (j + 1) ∧ lastT ps k (j + 1) < b then dueK ps a b k j ++ [evAt ps k (j + 1)] else dueK ps a b k j) := Lib.hid rfl
            have hlt1 := HLT.out (j + 1)
            have hev1 := HEV.out (j + 1)
            have HND : Hid (∀ W, Calls Try.prog 63 #[.int .i64 x.ln, .int .i64 ((j : Int) + 1)] W fun e w' => e = .returned (.int .i64 (need x.ln ((j : Int) + 1))) ∧ W = w') := Lib.hid (fun W => need_any x.ln ((j : Int) + 1) W hlk.1 hlk.2 (by omega) (by omega))
            rw [show (((j + 1 : Nat)) : Int) = (j : Int) + 1 by omega] at hlt1 hev1
            obtain ⟨nd, hndd⟩ : ∃ nd, need x.ln ((j : Int) + 1) = nd := ⟨_, rfl⟩
            rw [hndd] at hnd hlt1 HND
            obtain ⟨tl, htl⟩ : ∃ tl, al + nd - 1 = tl := ⟨_, rfl⟩
            rw [htl] at hlt1
            rw [hlt1, hev1] at HKS
            have w1 : IntKind.i64.wrap (al + nd) = al + nd := IntWalk.i64_in _ ⟨by omega, by omega⟩
            have w2 : IntKind.i64.wrap (al + nd - 1) = tl := by rw [IntWalk.i64_in _ ⟨by omega, by omega⟩]; exact htl
            obtain ⟨gb, go', hga, hgc⟩ := HNB2.out _ DW.bel
            subst hga
            obtain ⟨va2, vc2, hvv⟩ := iown7_form DW.row
            have hLb := HLB.out j (by omega)
            obtain ⟨L1, hL1⟩ : ∃ L1, L0 ++ dueK ps a b k j = L1 := ⟨_, rfl⟩
            rw [hL1] at DW hLb hvv
            have HK1 : Hid (a ≤ tl → tl < b → L0 ++ dueK ps a b k (j + 1) = L1 ++ [⟨k, x.ad, (j : Int) + 1⟩]) := Lib.hid (fun h1 h2 => by rw [HKS.out, if_pos ⟨h1, h2⟩, ← List.append_assoc, hL1])
            have HK2 : Hid (¬ (a ≤ tl ∧ tl < b) → L0 ++ dueK ps a b k (j + 1) = L1) := Lib.hid (fun h => by rw [HKS.out, if_neg h, hL1])
            subst hvv
            have kI2 : (k : Int) < (n : Int) + 1 := by omega
            clear hndd hnd hlt1 hev1 htl hL1 HKS
            have y2 := DW.box.c2; have yl := DW.box.lt
            go_upto_region 13 with fail
            go_quiet ((go_at_call 63; exact Calls.quiet_of_same (st_of (HND.out _))))
            have DW := DW.drewN nq
            clear hgc y2 yl w1 w2 HND
            generalize wr.drewN nq = W5 at *
            by_cases hA : a ≤ tl
            · by_cases hB : tl < b
              · have hK := Lib.hid (HK1.out hA hB)
                have y0 := DW.box.c0; have yl := DW.box.lt
                go_wp2_with (at_builtin; refine wpList_append_lies _ rfl _ _ 53 rfl Z 58 i0 (.agg #[.string ⟨#[]⟩, .int .i64 0, .string ⟨#[]⟩, .int .i64 0]) 4 48 Try.underlying53 hi hi0 hi1 hi2 rfl (by decide) _ _ _ rfl (DW.row.alloc _) ⟨W5.heap.size, 0, none⟩ 1 1 [.string ⟨#[]⟩, .int .i64 (k : Int), .string x.ad, .int .i64 ((j : Int) + 1)] rfl rfl ?b1 ?b2 (by omega) ?b3 ?b4 ?b5 (W5.heap.size + 1) (by simp) ?_)
                case b1 =>
                  have := World.news_of_block (cs := #[.string ⟨#[]⟩, .int .i64 (k : Int), .string x.ad, .int .i64 ((j : Int) + 1)]) (t := 58) (fr := (0, 0)) (heap_alloc_new W5 (.cells #[.string ⟨#[]⟩, .int .i64 (k : Int), .string x.ad, .int .i64 ((j : Int) + 1)] 58))
                  simpa using this
                case b2 => simp [Value.oneCell']
                case b3 => unfold maxLen; omega
                case b4 => omega
                case b5 => have := DW.sz; first | omega | (simp; omega)
                intro g6 cp6 w6 hown1 hgrow hl6 _
                have DW := DW.app (y := ⟨k, x.ad, (j : Int) + 1⟩) hown1 hgrow hl6
                replace DW : Dw w3 w6 Z X9 x (.slice (some ⟨g6, 0, none⟩) (L1.length + 1) cp6) (L0 ++ dueK ps a b k (j + 1)) := by rw [hK.out]; exact DW
                clear hown1 hgrow hl6 y0 yl
                go_wp2_with fail
                go_roundw
                case rel => exact ⟨j + 1, by omega, by go_num, DW⟩
                case measure => simp [intOf]; omega
              · have hB2 : decide (tl < b) = false := decide_eq_false hB
                have hK := Lib.hid (HK2.out (fun h => hB h.2))
                replace DW : Dw w3 W5 Z X9 x (.slice va2 L1.length vc2) (L0 ++ dueK ps a b k (j + 1)) := by rw [hK.out]; exact DW
                clear hB
                go_wp2_with fail
                go_roundw
                case rel => exact ⟨j + 1, by omega, by go_num, by exact DW⟩
                case measure => simp [intOf]; omega
            · have hA2 : decide (a ≤ tl) = false := decide_eq_false hA
              have hK := Lib.hid (HK2.out (fun h => hA h.1))
              replace DW : Dw w3 W5 Z X9 x (.slice va2 L1.length vc2) (L0 ++ dueK ps a b k (j + 1)) := by rw [hK.out]; exact DW
              clear hA
              go_wp2_with fail
              go_roundw
              case rel => exact ⟨j + 1, by omega, by go_num, by exact DW⟩
              case measure => simp [intOf]; omega

theorem due_bad (v : Value) (ps : List Prt) (a b : Int) (w : World) (hS : Prts w v ps) (hwf : ∀ y ∈ ps, y.ad.size ≤ maxLen) (h0 : dueF ps a b ≠ 0) :
    Calls Try.prog 31 #[v, .int .i64 a, .int .i64 b] w fun e w' => (∃ u, e = .returned (.tuple #[u, .int .i64 (dueF ps a b)]) ∧ w'.ownsRow w.heap.size 58 4 u 0 (ecells [])) ∧ Below w.heap.size w w' := by
  have HCP := Lib.hid (CheckParts_any v ps w hS hwf)
  obtain ⟨F0, hF0⟩ : ∃ F0, ptF ps = F0 := ⟨_, rfl⟩
  obtain ⟨T1, hT1⟩ : ∃ T1, inB a 0 1000000000000000 = T1 := ⟨_, rfl⟩
  obtain ⟨T2, hT2⟩ : ∃ T2, inB b a 1000000000000000 = T2 := ⟨_, rfl⟩
  have HSM := Lib.hid (due_sum F0 T1 T2 ps a b hF0 hT1 hT2)
  have HT1 : Hid (∀ W, Calls Try.prog 42 #[.int .i64 a] W fun e w' => e = .returned (.bool T1) ∧ W = w') := Lib.hid (fun W => by rw [← hT1]; exact tickP_any a W)
  have HT2 : Hid (∀ W, Calls Try.prog 47 #[.int .i64 b, .int .i64 a, .int .i64 1000000000000000] W fun e w' => e = .returned (.bool T2) ∧ W = w') := Lib.hid (fun W => by rw [← hT2]; exact bwithin_any b a 1000000000000000 W)
  obtain ⟨R, hR⟩ : ∃ R, dueF ps a b = R := ⟨_, rfl⟩
  rw [hR] at h0 HSM ⊢
  rw [hF0] at HCP
  have r0 : (R == 0) = false := by simp; exact h0
  have r1 : (R != 0) = true := by simp; exact h0
  clear hF0 hT1 hT2 hR hS hwf h0
  cases T1
  · go_enter Try.func31, Try.ntmps31
    go_wp2_with fail
    refine HCP.out.mono ?_; rintro e w1 ⟨rfl, b1⟩
    go_wp2_with fail
    refine (HT1.out _).mono ?_; rintro e w' ⟨rfl, rfl⟩
    go_wp2_with fail
    refine (bfaultIf_any _ _ _).mono ?_; rintro e w' ⟨rfl, rfl⟩
    go_wp2_with fail
    refine (lfirst2 _ _ _).mono ?_; rintro e w' ⟨rfl, rfl⟩
    have e1 : fstF [F0, fIf true 1] = R := HSM.out
    rw [e1]
    have b1 := b1.alloc (o := .cells #[.int .i64 F0, .int .i64 (fIf true 1)] 29) b1.size
    go_wp2_with fail
    go_ret2
    exact ⟨⟨_, rfl, World.ownsRow_nil _ _ _ _⟩, b1⟩
  · go_enter Try.func31, Try.ntmps31
    go_wp2_with fail
    refine HCP.out.mono ?_; rintro e w1 ⟨rfl, b1⟩
    go_wp2_with fail
    refine (HT1.out _).mono ?_; rintro e w' ⟨rfl, rfl⟩
    go_wp2_with fail
    refine (HT2.out _).mono ?_; rintro e w' ⟨rfl, rfl⟩
    go_wp2_with fail
    refine (bfaultIf_any _ _ _).mono ?_; rintro e w' ⟨rfl, rfl⟩
    go_wp2_with fail
    refine (lfirst2 _ _ _).mono ?_; rintro e w' ⟨rfl, rfl⟩
    have e1 : fstF [F0, fIf (!T2) 1] = R := HSM.out
    rw [e1]
    have b1 := b1.alloc (o := .cells #[.int .i64 F0, .int .i64 (fIf (!T2) 1)] 29) b1.size
    go_wp2_with fail
    go_ret2
    exact ⟨⟨_, rfl, World.ownsRow_nil _ _ _ _⟩, b1⟩
theorem Due_any (v : Value) (ps : List Prt) (a b : Int) (w : World) (hS : Prts w v ps) (hwf : ∀ y ∈ ps, y.ad.size ≤ maxLen) :
    Calls Try.prog 31 #[v, .int .i64 a, .int .i64 b] w fun e w' => (∃ u, e = .returned (.tuple #[u, .int .i64 (dueF ps a b)]) ∧ w'.ownsRow w.heap.size 58 4 u (dueL ps a b).length (ecells (dueL ps a b))) ∧ Below w.heap.size w w' := by
  by_cases h0 : dueF ps a b = 0
  · have e : dueL ps a b = dueN ps a b ps.length := if_pos h0
    rw [e, h0]
    exact due_good v ps a b w hS hwf h0
  · have e : dueL ps a b = [] := if_neg h0
    rw [e]
    exact due_bad v ps a b w hS hwf h0
end Go.Proofs.Ytiphipgheadakaa
