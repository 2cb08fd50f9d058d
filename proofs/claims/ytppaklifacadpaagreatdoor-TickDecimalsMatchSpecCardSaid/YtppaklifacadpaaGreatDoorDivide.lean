/- The reference's divide. -/
import Derived.Test.YtppaklifacadpaaGreatDoorLimbMore
namespace Go.Proofs.YtppaklifacadpaaGreatDoor
set_option linter.unusedVariables false
set_option linter.unusedSimpArgs false
open Go.RowKit

set_option maxHeartbeats 4000000 in
theorem divide_walk (u v : Value) (xs bs : List Int) (w : World) (n c : Nat) (p : Option Addr) (hu : u = .slice p n c) (ha : xs.length = n) (hn : n ≤ 500) (hm : bs.length ≤ 500) (da : Digs xs) (cb : Canon bs) (hpos : 0 < lval bs) (hv : Lim w v bs)
    (hP : 0 < n → ∃ b o, p = some ⟨b, o, none⟩ ∧ b < w.heap.size ∧ n ≤ c ∧ c ≤ maxLen ∧ ∀ j, j < n → w.cell? ⟨b, o + j, none⟩ = some (.int .i64 (xs.getD j 0))) :
    Calls Tryz.prog 44 #[u, v] w fun e w' => (∃ r s, e = .returned (.tuple #[r, s]) ∧ ∃ qs rs, Lim w' r qs ∧ Lim w' s rs ∧ Canon qs ∧ Canon rs ∧ lval qs = lval xs / lval bs ∧ lval rs = lval xs % lval bs ∧ qs.length ≤ n ∧ rs.length ≤ bs.length) ∧ Below w.heap.size w w' := by
  obtain ⟨i0, hi, hi0, hi1, hi2⟩ := info_parts Tryz.infoLimb
  subst hu
  obtain ⟨B, hB⟩ : ∃ B, lval bs = B := ⟨_, rfl⟩
  rw [hB] at hpos ⊢
  have hstart := div_start xs B hpos
  rw [ha] at hstart
  have HA := Lib.hid ha; have HB := Lib.hid hB; have DA := Lib.hid da; have CB := Lib.hid cb; have HP := Lib.hid hP; have HV := Lib.hid hv; have HSTART := Lib.hid hstart; have HM := Lib.hid hm
  clear ha hB da cb hP hv hstart hm
  go_enter Tryz.func44, Tryz.ntmps44
  go_wp2_with (at_make; refine wpList_make_full _ rfl _ _ 35 rfl w.heap.size 3 i0 (.int .i64 0) 1 Tryz.underlying35 hi hi0 hi1 _ _ _ _ n rfl rfl rfl rfl ?c1 ?c2 ?c3 ?_)
  case c1 => rw [hi2]; omega
  case c2 => unfold maxLen; omega
  case c3 => exact Nat.le_refl _
  intro w1 hown hgrow
  have hbel : Below w.heap.size w w1 := (Below.refl _ _).grown hgrow (Nat.le_refl _) (by simp)
  have hown0 : w1.ownsRow w.heap.size 3 1 (.slice (some ⟨w.heap.size, 0, none⟩) n n) n ((List.replicate n 0).map (Value.int .i64)) := by
    have := toList_madeCells_one (.int .i64 0) n
    rw [this] at hown
    simpa using hown
  clear hown hgrow
  go_wp2
  go_loopw [7, 8] (fun r i wr => ∃ (k : Nat) (q R : Int) (zs rs : List Int), k ≤ n ∧ q = (k : Int) - 1 ∧ i = .int .i64 q ∧ Hid (Lim wr r rs) ∧ wr.ownsRow w.heap.size 3 1 (.slice (some ⟨w.heap.size, 0, none⟩) n n) n (zs.map (Value.int .i64)) ∧ Below w.heap.size w wr ∧ Hid (DivT xs B k zs R) ∧ Hid (Canon rs) ∧ Hid (lval rs = R)) (fun _ i _ => (intOf i + 1).toNat)
  case atStart => exact ⟨n, _, 0, _, [], Nat.le_refl _, rfl, by go_num, Lib.hid (Lim.nil _), hown0, hbel, HSTART, Lib.hid Canon.nil, Lib.hid rfl⟩
  case round =>
    clear hown0 hbel
    obtain ⟨k, q, R, zs, rs, hk, hq, rfl, HL, hown, hbel, HD, HC, HR⟩ := hrel
    by_cases hk0 : k < 1
    · have hq1 : q = -1 := by omega
      have hk00 : k = 0 := by omega
      subst hq1 hk00
      clear hq hk hk0
      have hzl : zs.length = n := by rw [HD.out.len, HA.out]
      have hlim : Lim wr (.slice (some ⟨w.heap.size, 0, none⟩) n n) zs := Lim.ofOwn (base := w.heap.size) (e := 3) (by rw [hzl]; exact hown)
      have HE := Lib.hid (div_end HD.out)
      have HLIM := Lib.hid hlim
      clear hlim hown
      go_wp2_with fail
      refine (trim_any _ zs _ HLIM.out).mono ?_
      rintro e w' ⟨⟨r, rfl, hr⟩, rfl⟩
      have HRR := Lib.hid hr
      clear hr
      go_wp2_with fail
      go_ret2
      have hl := HE.out.2.2.2
      refine ⟨⟨_, _, rfl, trimL zs, rs, HRR.out, HL.out, HE.out.1, HC.out, HE.out.2.1, by rw [HR.out]; exact HE.out.2.2.1, by rw [← HA.out]; exact hl, ?_⟩, hbel⟩
      refine canon_len_lt _ _ HC.out CB.out ?_
      rw [HR.out, HB.out]; exact HD.out.r1
    · obtain ⟨j, rfl⟩ : ∃ j, k = j + 1 := ⟨k - 1, by omega⟩
      have hqj : q = (j : Int) := by omega
      subst hqj
      obtain ⟨b, o, rfl, hlt, hcl, hcm, hc⟩ := HP.out (by omega)
      obtain ⟨x, hx⟩ : ∃ x, xs.getD j 0 = x := ⟨_, rfl⟩
      have dx := DA.out j (by rw [HA.out]; omega)
      have hroom := div_room HD.out DA.out
      rw [hx] at dx hroom
      obtain ⟨x0, x1⟩ := dx
      have hcx : wr.cell? ⟨b, o + j, none⟩ = some (.int .i64 x) := by rw [hbel.cell (p := ⟨b, o + j, none⟩) hlt, hc j (by omega), hx]
      have hrl : rs.length ≤ 500 := Nat.le_trans (canon_len_lt _ _ HC.out CB.out (by rw [HR.out, HB.out]; exact HD.out.r1)) HM.out
      have HX := Lib.hid hx; have HROOM := Lib.hid hroom
      have hjn : (j : Int) < (n : Int) := by omega
      have hlit : (wr.alloc (.cells #[.int .i64 x] 3)).ownsRow wr.heap.size 3 1 (.slice (some ⟨wr.heap.size, 0, none⟩) 1 1) 1 [.int .i64 x] := World.ownsRow_lit wr #[.int .i64 x] 1 (Nat.le_refl _) (by unfold maxLen; omega) rfl
      have hown1 := hown.alloc (.cells #[.int .i64 x] 3)
      have hbel1 := hbel.alloc hbel.size (.cells #[.int .i64 x] 3)
      have hwlt : w.heap.size < wr.heap.size := (hown.lt _ rfl).2
      have hrs1 : Lim (wr.alloc (.cells #[.int .i64 x] 3)) u7 rs := HL.out.below ((Below.refl _ _).alloc (Nat.le_refl _) _) (Nat.le_refl _)
      have HLIT := Lib.hid hlit; have HOWN1 := Lib.hid hown1; have HBEL1 := Lib.hid hbel1; have HRS1 := Lib.hid hrs1
      clear hx hc hroom hlit hown1 hbel1 hrs1 hown hbel hq
      go_wp2_with (at_builtin; refine wpList_append_lim rfl _ _ 35 rfl wr.heap.size 3 i0 Tryz.underlying35 hi hi0 hi1 hi2 _ _ _ rfl HLIT.out _ rs rfl HRS1.out ?b1 ?b2 ?_)
      case b1 => omega
      case b2 => simp
      intro v2 w2 hown2 hgrow2
      have hown2' : w2.ownsRow wr.heap.size 3 1 v2 (x :: rs).length ((x :: rs).map (Value.int .i64)) := by
        rw [List.length_cons, Nat.add_comm rs.length 1]; exact hown2
      have hlim2 := Lim.ofOwn hown2'
      have hb2 : Below wr.heap.size wr w2 := (((Below.refl _ _).alloc (Nat.le_refl _) _)).grown hgrow2 (by simp) (fun q hq => (HLIT.out.lt q hq).1)
      have hblk := (hown2'.lt)
      have hown3 := HOWN1.out.kept hgrow2 (.inr (by simp only [Value.ownBlock, ne_eq, Option.some.injEq]; omega))
      have hbel3 := HBEL1.out.grown hgrow2 (by simp; omega) (fun q hq => by simp only [Value.ownBlock, Option.some.injEq] at hq; omega)
      have HOWN3 := Lib.hid hown3; have HBEL3 := Lib.hid hbel3
      have HLIM2 := Lib.hid hlim2; have HB2 := Lib.hid hb2; have HBLK := Lib.hid hblk
      clear hown2 hown2' hgrow2 hlim2 hb2 hblk hown3 hbel3
      go_wp2_with fail
      refine (trim_own _ (x :: rs) _ HLIM2.out).mono ?_
      rintro e w3 ⟨⟨r3, rfl, hr3, hob⟩, rfl⟩
      obtain ⟨ts, hts⟩ : ∃ ts, trimL (x :: rs) = ts := ⟨_, rfl⟩
      have hct := trimL_canon _ (digs_cons HC.out.1 x0 x1)
      have hlt2 : lval ts = x + 10000 * R := by rw [← hts, trimL_val, lval_cons, HR.out]
      have htl : ts.length ≤ 501 := by rw [← hts]; have := trimL_le (x :: rs); rw [List.length_cons] at this; omega
      rw [hts] at hr3 hct
      obtain ⟨R2, hR2⟩ : ∃ R2, x + 10000 * R = R2 := ⟨_, rfl⟩
      have hroom2 := HROOM.out
      rw [hR2] at hlt2 hroom2
      have hother : r3.ownBlock ≠ some w.heap.size := by
        rw [hob]; intro hx
        have := (HBLK.out _ hx).1
        omega
      have HR3 := Lib.hid hr3; have HCT := Lib.hid hct; have HLT2 := Lib.hid hlt2; have HR2 := Lib.hid hR2; have HOTHER := Lib.hid hother; have HTL := Lib.hid htl
      have HS0 : Hid (0 ≤ R2) := Lib.hid hroom2.1
      have HS1 : Hid (R2 < B * 10000) := Lib.hid hroom2.2
      clear hr3 hct hlt2 hR2 hother hroom2 hts hob htl
      go_wp2_with fail
      go_loopw [10, 11] (fun vl vh wx => ∃ (lo hi2 : Int), 0 ≤ lo ∧ lo ≤ hi2 ∧ hi2 ≤ 9999 ∧ vl = .int .i64 lo ∧ vh = .int .i64 hi2 ∧ Below w2.heap.size w2 wx ∧ Hid (B * lo ≤ R2) ∧ Hid (R2 < B * (hi2 + 1))) (fun vl vh _ => (intOf vh - intOf vl).toNat)
      case atStart => exact ⟨0, 9999, by omega, by omega, by omega, rfl, rfl, Below.refl _ _, Lib.hid (by have := HS0.out; simpa using this), Lib.hid HS1.out⟩
      case round =>
        obtain ⟨lo, hi2, hlo0, hlohi, hhi, rfl, rfl, hbx, HLO, HHI⟩ := hrel
        by_cases hlh : lo < hi2
        · obtain ⟨M, hM⟩ : ∃ M, (lo + hi2 + 1) / 2 = M := ⟨_, rfl⟩
          have hmb : lo < M ∧ M ≤ hi2 := by omega
          obtain ⟨m0, m1⟩ := hmb
          have hq0 : (lo + hi2 + 1).tdiv 2 = M := by rw [Int.tdiv_eq_ediv_of_nonneg (by omega)]; exact hM
          have HBX := Lib.hid hbx
          clear hM hbx
          go_wp2_with fail
          refine (small_any _ bs M _ (HV.out.below (HBEL3.out.trans (HBX.out.mono (Nat.le_trans (Nat.le_of_lt hwlt) HB2.out.size))) (Nat.le_refl _)) CB.out.1 (by have := HM.out; omega) (by omega) (by omega)).mono ?_
          rintro e w4 ⟨⟨r4, rfl, zs4, g1, g2, g3, g4⟩, b4⟩
          have G1 := Lib.hid g1; have G2 := Lib.hid g2; have G3 := Lib.hid g3; have G4 := Lib.hid g4; have B4 := Lib.hid b4
          clear g1 g2 g3 g4 b4
          go_wp2_with fail
          refine (cmp_any _ _ zs4 ts _ G1.out (HR3.out.below (HBX.out.trans (B4.out.mono HBX.out.size)) (Nat.le_refl _)) G2.out HCT.out).mono ?_
          rintro e w5 ⟨rfl, q5, rfl⟩
          obtain ⟨C, hC⟩ : ∃ C, cmpI (lval zs4) (lval ts) = C := ⟨_, rfl⟩
          rw [hC]
          have HC5 := Lib.hid hC
          clear hC
          by_cases h0 : C ≤ 0
          · have hle : B * M ≤ R2 := by
              rw [← HLT2.out, ← HB.out, ← G3.out]
              apply Decidable.byContradiction; intro hx
              have := cmpI_gt (show lval ts < lval zs4 by omega)
              rw [HC5.out] at this; omega
            have HLE := Lib.hid hle
            clear hle
            go_wp2_with fail
            go_roundw
            case rel => exact ⟨M, hi2, by omega, by omega, hhi, rfl, rfl, below_drewN (HBX.out.trans (B4.out.mono HBX.out.size)) _, HLE, HHI⟩
            case measure => simp [intOf]; omega
          · have h0' : decide (C ≤ 0) = false := by simp only [decide_eq_false_iff_not]; exact h0
            have hle : R2 < B * (M - 1 + 1) := by
              rw [Int.sub_add_cancel, ← HLT2.out, ← HB.out, ← G3.out]
              apply Decidable.byContradiction; intro hx
              rcases Int.lt_or_eq_of_le (show lval zs4 ≤ lval ts by omega) with h | h
              · have := cmpI_lt h; rw [HC5.out] at this; omega
              · have := cmpI_eq h; rw [HC5.out] at this; omega
            have HLE := Lib.hid hle
            clear hle
            go_wp2_with fail
            go_roundw
            case rel => exact ⟨lo, M - 1, by omega, by omega, by omega, rfl, by go_num, below_drewN (HBX.out.trans (B4.out.mono HBX.out.size)) _, HLO, HLE⟩
            case measure => simp [intOf]; omega
        · have hlo2 : hi2 = lo := by omega
          subst hlo2
          have hownx := ownsRow_below HOWN3.out hbx
          have hbelx := HBEL3.out.trans (hbx.mono (Nat.le_trans (Nat.le_of_lt hwlt) HB2.out.size))
          have hr3x := HR3.out.below hbx (Nat.le_refl _)
          have c0 : ∃ z, wr.cell? ⟨w.heap.size, j, none⟩ = some z := by
            rw [World.ownsRow.cellAt hownx j (by omega)]
            refine ⟨_, List.getElem?_eq_getElem (by rw [List.length_map, HD.out.len, HA.out]; omega)⟩
          obtain ⟨z, c0⟩ := c0
          have hfz := World.ownsRow.frozenAt hownx j
          have hst := World.ownsRow.stored (w := wr) hownx j (.int .i64 hi2)
          have hbst := hbelx.setCell (p := ⟨w.heap.size, j, none⟩) (Nat.le_refl _) (.int .i64 hi2)
          have hr3s := hr3x.setCell (a := ⟨w.heap.size, j, none⟩) HOTHER.out (.int .i64 hi2)
          have hvs := HV.out.below hbst (Nat.le_refl _)
          have HST := Lib.hid hst.1; have HBST := Lib.hid hbst; have HR3S := Lib.hid hr3s; have HVS := Lib.hid hvs
          have hstep := div_step HD.out hlo0 (by omega) (by rw [HX.out, HR2.out]; exact HLO.out) (by rw [HX.out, HR2.out]; exact HHI.out)
          rw [HX.out, HR2.out] at hstep
          have HSTEP := Lib.hid hstep
          clear hownx hbelx hr3x hst hbst hr3s hvs hstep hbx
          go_wp2_with fail
          refine (small_any _ bs hi2 _ HVS.out CB.out.1 (by have := HM.out; omega) hlo0 (by omega)).mono ?_
          rintro e w4 ⟨⟨r4, rfl, zs4, g1, g2, g3, g4⟩, b4⟩
          have G1 := Lib.hid g1; have G2 := Lib.hid g2; have G3 := Lib.hid g3; have G4 := Lib.hid g4; have B4 := Lib.hid b4
          clear g1 g2 g3 g4 b4
          go_wp2_with fail
          refine (less_any _ _ ts zs4 _ (HR3S.out.below B4.out (Nat.le_refl _)) G1.out HCT.out G2.out (by have := HTL.out; omega) (by rw [HLT2.out, G3.out, HB.out]; exact HLO.out)).mono ?_
          rintro e w5 ⟨⟨r5, rfl, zs5, k1, k2, k3, k4⟩, b5⟩
          have K1 := Lib.hid k1; have K2 := Lib.hid k2; have K3 := Lib.hid k3; have B5 := Lib.hid b5
          clear k1 k2 k3 k4 b5
          go_wp2_with fail
          go_roundw
          case rel =>
            refine ⟨j, _, _, _, zs5, by omega, rfl, by go_num, K1, ?_, ?_, HSTEP, K2, Lib.hid (by rw [K3.out, HLT2.out, G3.out, HB.out])⟩
            · rw [List.map_set]
              exact ownsRow_below (ownsRow_below HST.out B4.out) B5.out
            · exact (HBST.out.trans (B4.out.mono HBST.out.size)).trans (B5.out.mono (Nat.le_trans HBST.out.size B4.out.size))
          case measure => simp [intOf]

theorem divide_any (u v : Value) (xs bs : List Int) (w : World) (hu : Lim w u xs) (hv : Lim w v bs) (da : Digs xs) (cb : Canon bs) (hpos : 0 < lval bs) (hn : xs.length ≤ 500) (hm : bs.length ≤ 500) :
    Calls Tryz.prog 44 #[u, v] w fun e w' => (∃ r s, e = .returned (.tuple #[r, s]) ∧ ∃ qs rs, Lim w' r qs ∧ Lim w' s rs ∧ Canon qs ∧ Canon rs ∧ lval qs = lval xs / lval bs ∧ lval rs = lval xs % lval bs ∧ qs.length ≤ xs.length ∧ rs.length ≤ bs.length) ∧ Below w.heap.size w w' := by
  obtain ⟨a1, c1, e1, l1, m1⟩ := hu.parts
  refine divide_walk u v xs bs w _ c1 a1 e1 rfl hn hm da cb hpos hv (fun h0 => ?_)
  rcases hu with ⟨a, c, h, hcm, rfl⟩ | ⟨b, o, c, h, hne, hlt, hl, hm, hc⟩
  · simp at h0
  · rw [h] at e1
    simp only [Value.slice.injEq] at e1
    obtain ⟨rfl, -, rfl⟩ := e1
    exact ⟨b, o, rfl, hlt, hl, hm, hc⟩

end Go.Proofs.YtppaklifacadpaaGreatDoor
