/- The reference's Regular returns what the plain functions say. -/
import Derived.Test.YtgpiagdldcnijabRegAny
import Derived.Deep.AppendLies
namespace Go.Proofs.Ytgpiagdldcnijab
set_option linter.unusedVariables false
set_option linter.unusedSimpArgs false
open Go.RowKit

theorem refTime_yes (n : Int) (w : World) (h : isTimeN n) :
    Calls Try.prog 64 #[.int .i64 n] w fun e w' => e = .returned (.bool true) ∧ w = w' := by
  obtain ⟨h1, h2⟩ := h
  go_enter Try.func64, Try.ntmps64
  go_wp2
  go_ret
  exact ⟨rfl, rfl⟩

theorem refTime_no (n : Int) (w : World) (h : ¬ isTimeN n) :
    Calls Try.prog 64 #[.int .i64 n] w fun e w' => e = .returned (.bool false) ∧ w = w' := by
  have h' : n < -1000000000000000 ∨ 1000000000000000 < n := by unfold isTimeN at h; omega
  clear h
  by_cases h1 : n < -1000000000000000
  · clear h'
    go_enter Try.func64, Try.ntmps64
    go_wp2
    go_ret
    exact ⟨rfl, rfl⟩
  · have h2 : decide (n ≤ 1000000000000000) = false := by simp; omega
    clear h'
    go_enter Try.func64, Try.ntmps64
    go_wp2
    go_ret
    exact ⟨rfl, rfl⟩



set_option maxRecDepth 100000 in
set_option maxHeartbeats 8000000 in
theorem rreg_walk (b off n cap : Nat) (zs : List Int) (step slack : Int) (w : World) (hz : zs.length = n) (hn0 : 0 < n) (hn : n ≤ 5000) (hs : stepOk step slack) (hlt : b < w.heap.size)
    (hc : ∀ j, j < n → w.cell? ⟨b, off + j, none⟩ = some (.int .i64 (zs.getD j 0))) :
    Calls Try.prog 98 #[.slice (some ⟨b, off, none⟩) n cap, .int .i64 step, .int .i64 slack] w fun e w' => (∃ u, e = .returned (.tuple #[u, .int .i64 (regF zs step slack)]) ∧ Nums w' u (regL zs step slack)) ∧ Below w.heap.size w w' := by
  obtain ⟨i0, hi, hi0, hi1, hi2⟩ := info_parts Try.infoInt
  have hF : riseF zs = riseTo zs n := by unfold riseF; rw [hz, if_neg (by omega)]
  have HF := Lib.hid hF
  have HS := Lib.hid hs
  obtain ⟨⟨s0, s1⟩, ⟨l0, l1⟩⟩ := hs
  have HZ := Lib.hid hz
  have HC := Lib.hid hc
  have hse : (step == 0) = false := by simp; omega
  clear hz hc hF
  go_enter Try.func98, Try.ntmps98
  go_wp2_with fail
  go_loopw [8] (fun i wr => ∃ k q : Nat, k ≤ n ∧ i = .int .i64 k ∧ wr = w.drewN q ∧ Hid (riseTo zs k = 0)) (fun i _ => n - (intOf i).toNat)
  case atStart => exact ⟨0, 0, Nat.zero_le _, rfl, rfl, Lib.hid rfl⟩
  case round =>
    obtain ⟨k, q, hk, rfl, rfl, HR⟩ := hrel
    by_cases hlt2 : k < n
    · obtain ⟨z, hz⟩ : ∃ z, zs.getD k 0 = z := ⟨_, rfl⟩
      have hcell : w.cell? ⟨b, off + k, none⟩ = some (.int .i64 z) := by rw [HC.out k hlt2, hz]
      have hs := riseTo_step zs k HR.out
      have hbad := fun h => riseTo_bad zs (k + 1) h (n - (k + 1))
      rw [show k + 1 + (n - (k + 1)) = n by omega] at hbad
      rw [hz] at hs
      by_cases ht : isTimeN z
      · have T := Lib.hid ht
        rw [if_neg (by simpa using ht)] at hs
        by_cases hk0 : k < 1
        · rw [if_neg (by omega)] at hs
          have HSS := Lib.hid hs
          have hgd : decide (0 < k) = false := by simp; omega
          clear hs hbad hz ht
          go_wp2_with fail
          refine (refTime_yes _ _ T.out).mono ?_; rintro e w' ⟨rfl, rfl⟩
          go_wp2_with fail
          go_quiet (fail)
          go_wp2_with fail
          go_roundw
          case rel => exact ⟨k + 1, q + nq, by omega, by go_num, rfl, HSS⟩
          case measure => simp [intOf]; omega
        · obtain ⟨j, rfl⟩ : ∃ j, k = j + 1 := ⟨k - 1, by omega⟩
          obtain ⟨y, hy⟩ : ∃ y, zs.getD j 0 = y := ⟨_, rfl⟩
          have hcell2 : w.cell? ⟨b, off + j, none⟩ = some (.int .i64 y) := by rw [HC.out j (by omega), hy]
          rw [Nat.add_sub_cancel, hy] at hs
          by_cases hzy : z < y
          · rw [if_pos ⟨by omega, hzy⟩] at hs
            have hf : riseF zs = 8 := by rw [HF.out, hbad (by omega), hs]
            obtain ⟨f1, f2⟩ := reg_rise zs step slack HS.out (by omega)
            rw [hf] at f1
            have F1 := Lib.hid f1
            have F2 := Lib.hid f2
            clear hs hbad hz ht hy hf f1 f2
            go_wp2_with fail
            refine (refTime_yes _ _ T.out).mono ?_; rintro e w' ⟨rfl, rfl⟩
            go_wp2_with fail
            go_quiet (fail)
            go_wp2_with fail
            go_ret2
            exact ⟨⟨_, ret2_vi rfl F1.out.symm, by rw [F2.out]; exact .nil _⟩, below_drewN (below_drewN (Below.refl _ _) _) _⟩
          · rw [if_neg (by omega)] at hs
            have HSS := Lib.hid hs
            clear hs hbad hz ht hy
            go_wp2_with fail
            refine (refTime_yes _ _ T.out).mono ?_; rintro e w' ⟨rfl, rfl⟩
            go_wp2_with fail
            go_quiet (fail)
            go_wp2_with fail
            go_roundw
            case rel => exact ⟨j + 1 + 1, q + nq, by omega, by go_num, rfl, HSS⟩
            case measure => simp [intOf]; omega
      · rw [if_pos ht] at hs
        have hf : riseF zs = 1 := by rw [HF.out, hbad (by omega), hs]
        obtain ⟨f1, f2⟩ := reg_rise zs step slack HS.out (by omega)
        rw [hf] at f1
        have F1 := Lib.hid f1
        have F2 := Lib.hid f2
        have T := Lib.hid ht
        clear hs hbad hz ht hf f1 f2
        go_wp2_with fail
        refine (refTime_no _ _ T.out).mono ?_; rintro e w' ⟨rfl, rfl⟩
        go_wp2_with fail
        go_ret2
        exact ⟨⟨_, ret2_vi rfl F1.out.symm, by rw [F2.out]; exact .nil _⟩, below_drewN (Below.refl _ _) _⟩
    · have hrt : riseTo zs n = 0 := by rw [show n = k by omega]; exact HR.out
      have HR0 := Lib.hid (HF.out.trans hrt)
      have HT := Lib.hid (riseTo_zero zs n hrt)
      have HB := Lib.hid (regTo_begin step slack zs n hrt)
      have hbel0 : Below w.heap.size w (w.drewN q) := below_drewN (Below.refl _ _) _
      clear hrt HR
      go_wp2_with fail
      go_loopw [9, 10, 11] (fun v g i wr => ∃ (k : Nat) (gg : Int) (ts : List Int), k ≤ n ∧ g = .int .i64 gg ∧ i = .int .i64 k ∧ wr.ownsRow w.heap.size 3 1 v k (ts.map (Value.int .i64)) ∧ Below w.heap.size w wr ∧ Hid (regTo step slack zs k = (ts, gg))) (fun _ _ i _ => n - (intOf i).toNat)
      case atStart => exact ⟨0, 0, [], Nat.zero_le _, rfl, rfl, World.ownsRow_nil _ _ _ _, hbel0, Lib.hid rfl⟩
      case round =>
        clear hbel0
        obtain ⟨k, gg, ts, hk, rfl, rfl, hown, hbel, HG⟩ := hrel
        have hl : ts.length = k := by have := regTo_len step slack zs k; rw [HG.out] at this; exact this
        have HL := Lib.hid hl
        have hsz := hbel.size
        by_cases hlt3 : k < n
        · obtain ⟨c, hz⟩ : ∃ z, zs.getD k 0 = z := ⟨_, rfl⟩
          have hcell : wr.cell? ⟨b, off + k, none⟩ = some (.int .i64 c) := by
            rw [hbel.cell (p := ⟨b, off + k, none⟩) hlt, HC.out k hlt3, hz]
          have htc : isTimeN c := by rw [← hz]; exact HT.out.1 k hlt3
          obtain ⟨t0, t1⟩ := htc
          by_cases hk1 : k < 1
          · have hnew := regTo_new step slack zs k (.inl (by omega))
            rw [HG.out, hz] at hnew
            have HNEW := Lib.hid hnew
            clear hnew hl hz
            go_wp2_with (at_builtin; refine wpList_append_own _ rfl _ _ 34 rfl w.heap.size 3 i0 (.int .i64 0) 1 8 Try.underlying34 hi hi0 hi1 hi2 rfl (by decide) _ _ _ rfl (hown.alloc _) ⟨wr.heap.size, 0, none⟩ 1 1 [.int .i64 c] rfl rfl ?c1b ?c2b ?c3b ?c4b ?c5b ?_)
            case c2b => simp [Value.oneCell']
            case c3b => unfold maxLen; omega
            case c4b => omega
            case c5b => first | omega | (simp; omega)
            intro v' w2 hown1 hgrow _
            have hb2 : Below w.heap.size w w2 := ((hbel.alloc (by omega) _).grown hgrow (by simp; omega) (fun q hq => (hown.lt q hq).1))
            clear hgrow hown hcell
            go_wp2_with fail
            go_roundw
            case rel =>
              refine ⟨k + 1, c, ts ++ [c], by omega, rfl, by go_num, ?_, hb2, Lib.hid (by rw [HNEW.out])⟩
              simpa using hown1
            case measure => simp [intOf]; omega
          · obtain ⟨j, rfl⟩ : ∃ j, k = j + 1 := ⟨k - 1, by omega⟩
            obtain ⟨hb1, hb2⟩ := HB.out j (by omega)
            rw [HG.out] at hb1 hb2
            have hle : gg ≤ c := by
              have := HT.out.2 (j + 1) (by omega) hlt3
              rw [Nat.add_sub_cancel, hz] at this
              exact Int.le_trans hb1 this
            obtain ⟨g0, g1⟩ := hb2
            obtain ⟨p, hp⟩ : ∃ p, ts.getD j 0 = p := ⟨_, rfl⟩
            obtain ⟨gb, cap2, hform, -, -⟩ := World.ownsRow.form hown (by omega)
            rw [hform] at hown ⊢
            have hprev : wr.cell? ⟨gb, j, none⟩ = some (.int .i64 p) := by
              rw [World.ownsRow.cellAt hown j (by omega), List.getElem?_map, List.getElem?_eq_getElem (by omega), ← hp, getD_eq_get _ _ (by omega)]
              rfl
            obtain ⟨q0, q1⟩ := near_bd gg step c s0 hle
            have hne := near_eq gg step c s0 hle
            have hnew := regTo_new step slack zs (j + 1)
            have hkeep := regTo_keep step slack zs (j + 1)
            rw [HG.out, hz, Nat.add_sub_cancel] at hnew hkeep
            simp only [hp] at hnew hkeep
            obtain ⟨x, hx⟩ : ∃ x, nearQ gg step c = x := ⟨_, rfl⟩
            rw [hx] at hnew hkeep q0 q1 hne
            have d0 : 0 ≤ (c - gg) / step := Int.ediv_nonneg (by omega) (by omega)
            have d1 : (c - gg) / step ≤ c - gg := Int.ediv_le_self _ (by omega)
            have d2 : 0 ≤ (c - gg) / step * step := Int.mul_nonneg d0 (by omega)
            have d3 : (c - gg) / step * step ≤ c - gg := Int.ediv_mul_le _ (by omega)
            have d4 : c - gg < (c - gg) / step * step + step := by
              have := Int.lt_ediv_add_one_mul_self (c - gg) (show 0 < step by omega)
              rw [Int.add_mul, Int.one_mul] at this
              exact this
            have HNEW := Lib.hid hnew
            have HKEEP := Lib.hid hkeep
            clear hnew hkeep hx hl hz hp hb1 hform
            by_cases hup : step ≤ 2 * (c - (gg + (c - gg) / step * step))
            · rw [if_pos hup] at hne
              have hside : c < x := by omega
              have HNE := Lib.hid hne
              by_cases hfar : slack < ((x - c).natAbs : Int)
              · have hmx : decide (max (x - c) (c - x) ≤ slack) = false := by simp only [decide_eq_false_iff_not]; omega
                clear hne
                go_upto_region 22 with fail
                rw [← HNE.out]
                go_wp2_with (at_builtin; refine wpList_append_own _ rfl _ _ 34 rfl w.heap.size 3 i0 (.int .i64 0) 1 8 Try.underlying34 hi hi0 hi1 hi2 rfl (by decide) _ _ _ rfl (hown.alloc _) ⟨wr.heap.size, 0, none⟩ 1 1 [.int .i64 c] rfl rfl ?c1c ?c2c ?c3c ?c4c ?c5c ?_)
                case c2c => simp [Value.oneCell']
                case c3c => unfold maxLen; omega
                case c4c => omega
                case c5c => first | omega | (simp; omega)
                intro v' w2 hown1 hgrow _
                have hb2 : Below w.heap.size w w2 := ((hbel.alloc (by omega) _).grown hgrow (by simp; omega) (fun q hq => (hown.lt q hq).1))
                clear hgrow hown hcell
                go_wp2_with fail
                go_roundw
                case rel =>
                  refine ⟨j + 1 + 1, c, ts ++ [c], by omega, rfl, by go_num, ?_, hb2, Lib.hid (by rw [HNEW.out (.inr (.inl hfar))])⟩
                  simpa using hown1
                case measure => simp [intOf]; omega
              · have hmx : decide (max (x - c) (c - x) ≤ slack) = true := by simp only [decide_eq_true_eq]; omega
                by_cases hlow : x ≤ p
                · have hd : decide (p < x) = false := by simp; omega
                  clear hne
                  go_upto_region 22 with fail
                  rw [← HNE.out]
                  go_wp2_with (at_builtin; refine wpList_append_own _ rfl _ _ 34 rfl w.heap.size 3 i0 (.int .i64 0) 1 8 Try.underlying34 hi hi0 hi1 hi2 rfl (by decide) _ _ _ rfl (hown.alloc _) ⟨wr.heap.size, 0, none⟩ 1 1 [.int .i64 c] rfl rfl ?c1d ?c2d ?c3d ?c4d ?c5d ?_)
                  case c2d => simp [Value.oneCell']
                  case c3d => unfold maxLen; omega
                  case c4d => omega
                  case c5d => first | omega | (simp; omega)
                  intro v' w2 hown1 hgrow _
                  have hb2 : Below w.heap.size w w2 := ((hbel.alloc (by omega) _).grown hgrow (by simp; omega) (fun q hq => (hown.lt q hq).1))
                  clear hgrow hown hcell
                  go_wp2_with fail
                  go_roundw
                  case rel =>
                    refine ⟨j + 1 + 1, c, ts ++ [c], by omega, rfl, by go_num, ?_, hb2, Lib.hid (by rw [HNEW.out (.inr (.inr hlow))])⟩
                    simpa using hown1
                  case measure => simp [intOf]; omega
                · have hno : ¬ (j + 1 = 0 ∨ slack < ((x - c).natAbs : Int) ∨ x ≤ p) := by omega
                  have HNO := Lib.hid hno
                  have hd : p < x := by omega
                  clear hno
                  clear hne
                  go_upto_region 22 with fail
                  rw [← HNE.out]
                  go_wp2_with (at_builtin; refine wpList_append_own _ rfl _ _ 34 rfl w.heap.size 3 i0 (.int .i64 0) 1 8 Try.underlying34 hi hi0 hi1 hi2 rfl (by decide) _ _ _ rfl (hown.alloc _) ⟨wr.heap.size, 0, none⟩ 1 1 [.int .i64 x] rfl rfl ?c1e ?c2e ?c3e ?c4e ?c5e ?_)
                  case c2e => simp [Value.oneCell']
                  case c3e => unfold maxLen; omega
                  case c4e => omega
                  case c5e => first | omega | (simp; omega)
                  intro v' w2 hown1 hgrow _
                  have hb2 : Below w.heap.size w w2 := ((hbel.alloc (by omega) _).grown hgrow (by simp; omega) (fun q hq => (hown.lt q hq).1))
                  clear hgrow hown hcell
                  go_wp2_with fail
                  go_roundw
                  case rel =>
                    refine ⟨j + 1 + 1, gg, ts ++ [x], by omega, rfl, by go_num, ?_, hb2, Lib.hid (by rw [HKEEP.out HNO.out])⟩
                    simpa using hown1
                  case measure => simp [intOf]; omega
            · rw [if_neg hup] at hne
              have hside : x ≤ c := by omega
              have HNE := Lib.hid hne
              by_cases hfar : slack < ((x - c).natAbs : Int)
              · have hmx : decide (max (x - c) (c - x) ≤ slack) = false := by simp only [decide_eq_false_iff_not]; omega
                clear hne
                go_upto_region 22 with fail
                rw [← HNE.out]
                go_wp2_with (at_builtin; refine wpList_append_own _ rfl _ _ 34 rfl w.heap.size 3 i0 (.int .i64 0) 1 8 Try.underlying34 hi hi0 hi1 hi2 rfl (by decide) _ _ _ rfl (hown.alloc _) ⟨wr.heap.size, 0, none⟩ 1 1 [.int .i64 c] rfl rfl ?c1f ?c2f ?c3f ?c4f ?c5f ?_)
                case c2f => simp [Value.oneCell']
                case c3f => unfold maxLen; omega
                case c4f => omega
                case c5f => first | omega | (simp; omega)
                intro v' w2 hown1 hgrow _
                have hb2 : Below w.heap.size w w2 := ((hbel.alloc (by omega) _).grown hgrow (by simp; omega) (fun q hq => (hown.lt q hq).1))
                clear hgrow hown hcell
                go_wp2_with fail
                go_roundw
                case rel =>
                  refine ⟨j + 1 + 1, c, ts ++ [c], by omega, rfl, by go_num, ?_, hb2, Lib.hid (by rw [HNEW.out (.inr (.inl hfar))])⟩
                  simpa using hown1
                case measure => simp [intOf]; omega
              · have hmx : decide (max (x - c) (c - x) ≤ slack) = true := by simp only [decide_eq_true_eq]; omega
                by_cases hlow : x ≤ p
                · have hd : decide (p < x) = false := by simp; omega
                  clear hne
                  go_upto_region 22 with fail
                  rw [← HNE.out]
                  go_wp2_with (at_builtin; refine wpList_append_own _ rfl _ _ 34 rfl w.heap.size 3 i0 (.int .i64 0) 1 8 Try.underlying34 hi hi0 hi1 hi2 rfl (by decide) _ _ _ rfl (hown.alloc _) ⟨wr.heap.size, 0, none⟩ 1 1 [.int .i64 c] rfl rfl ?c1g ?c2g ?c3g ?c4g ?c5g ?_)
                  case c2g => simp [Value.oneCell']
                  case c3g => unfold maxLen; omega
                  case c4g => omega
                  case c5g => first | omega | (simp; omega)
                  intro v' w2 hown1 hgrow _
                  have hb2 : Below w.heap.size w w2 := ((hbel.alloc (by omega) _).grown hgrow (by simp; omega) (fun q hq => (hown.lt q hq).1))
                  clear hgrow hown hcell
                  go_wp2_with fail
                  go_roundw
                  case rel =>
                    refine ⟨j + 1 + 1, c, ts ++ [c], by omega, rfl, by go_num, ?_, hb2, Lib.hid (by rw [HNEW.out (.inr (.inr hlow))])⟩
                    simpa using hown1
                  case measure => simp [intOf]; omega
                · have hno : ¬ (j + 1 = 0 ∨ slack < ((x - c).natAbs : Int) ∨ x ≤ p) := by omega
                  have HNO := Lib.hid hno
                  have hd : p < x := by omega
                  clear hno
                  clear hne
                  go_upto_region 22 with fail
                  rw [← HNE.out]
                  go_wp2_with (at_builtin; refine wpList_append_own _ rfl _ _ 34 rfl w.heap.size 3 i0 (.int .i64 0) 1 8 Try.underlying34 hi hi0 hi1 hi2 rfl (by decide) _ _ _ rfl (hown.alloc _) ⟨wr.heap.size, 0, none⟩ 1 1 [.int .i64 x] rfl rfl ?c1h ?c2h ?c3h ?c4h ?c5h ?_)
                  case c2h => simp [Value.oneCell']
                  case c3h => unfold maxLen; omega
                  case c4h => omega
                  case c5h => first | omega | (simp; omega)
                  intro v' w2 hown1 hgrow _
                  have hb2 : Below w.heap.size w w2 := ((hbel.alloc (by omega) _).grown hgrow (by simp; omega) (fun q hq => (hown.lt q hq).1))
                  clear hgrow hown hcell
                  go_wp2_with fail
                  go_roundw
                  case rel =>
                    refine ⟨j + 1 + 1, gg, ts ++ [x], by omega, rfl, by go_num, ?_, hb2, Lib.hid (by rw [HKEEP.out HNO.out])⟩
                    simpa using hown1
                  case measure => simp [intOf]; omega
        · have hkn : k = n := by omega
          have hG : regTo step slack zs n = (ts, gg) := by rw [← hkn]; exact HG.out
          have HGN := Lib.hid hG
          have hln : ts.length = n := by rw [hl, hkn]
          have HLN := Lib.hid hln
          rw [hkn] at hown
          obtain ⟨gb, cap2, hform, hgb, hgb2⟩ := World.ownsRow.form hown (by omega)
          rw [hform] at hown ⊢
          have HO := Lib.hid hown
          have HKN := Lib.hid hkn
          clear hG hln hl hkn hform hown
          go_wp2_with fail
          go_loop [14] (fun i => ∃ k2 : Nat, k2 ≤ n ∧ i = .int .i64 k2 ∧ Hid (∀ j, j < k2 → isTimeN (ts.getD j 0))) (fun i => n - (intOf i).toNat)
          case atStart => exact ⟨0, Nat.zero_le _, rfl, Lib.hid (fun j hj => by omega)⟩
          case round =>
            obtain ⟨k2, hk2, rfl, HJ⟩ := hrel
            by_cases hlt4 : k2 < n
            · obtain ⟨x, hx⟩ : ∃ x, ts.getD k2 0 = x := ⟨_, rfl⟩
              have hcx : wr.cell? ⟨gb, k2, none⟩ = some (.int .i64 x) := by
                rw [World.ownsRow.cellAt HO.out k2 (by omega), List.getElem?_map, List.getElem?_eq_getElem (by rw [HLN.out]; exact hlt4), ← hx, getD_eq_get _ _ (by rw [HLN.out]; exact hlt4)]
                rfl
              have HX := Lib.hid hx
              clear hx
              by_cases ht : isTimeN x
              · have T := Lib.hid ht
                clear ht
                go_wp2_with fail
                refine (refTime_yes _ _ T.out).mono ?_; rintro e w' ⟨rfl, rfl⟩
                go_wp2_with fail
                go_round
                case rel =>
                  refine ⟨k2 + 1, by omega, by go_num, Lib.hid (fun j hj => ?_)⟩
                  by_cases hjk : j = k2
                  · subst hjk; rw [HX.out]; exact T.out
                  · exact HJ.out j (by omega)
                case measure => simp [intOf]; omega
              · have hres := reg_bad zs step slack n n HZ.out HS.out HR0.out (Nat.le_refl _) x (by rw [HGN.out, ← HX.out, getD_eq_get _ _ (by rw [HLN.out]; exact hlt4)]; exact List.getElem_mem _) ht
                have F1 := Lib.hid hres.1
                have F2 := Lib.hid hres.2
                have T := Lib.hid ht
                clear hres ht
                go_wp2_with fail
                refine (refTime_no _ _ T.out).mono ?_; rintro e w' ⟨rfl, rfl⟩
                go_wp2_with fail
                go_ret2
                exact ⟨⟨_, ret2_vi rfl F1.out.symm, by rw [F2.out]; exact .nil _⟩, hbel⟩
            · obtain ⟨f1, f2⟩ := reg_good zs step slack n HZ.out HS.out HR0.out (by
                rw [HGN.out]
                intro t ht
                obtain ⟨j, hj, rfl⟩ := List.getElem_of_mem ht
                rw [← getD_eq_get _ _ hj]
                exact HJ.out j (by rw [HLN.out] at hj; omega))
              rw [HGN.out] at f2
              have F1 := Lib.hid f1
              have F2 := Lib.hid f2
              clear f1 f2
              go_wp2_with fail
              go_ret2
              refine ⟨⟨_, ret2_vi rfl F1.out.symm, ?_⟩, hbel⟩
              rw [F2.out]
              have h := HO.out
              rw [← HLN.out] at h
              exact Nums.ofOwn (base := w.heap.size) (e := 3) (by rw [HLN.out] at h ⊢; exact h)

end Go.Proofs.Ytgpiagdldcnijab
