/- tick.Regular returns what the plain functions say. -/
import Derived.Test.YtgpiagdldcnijabReg
import Derived.Laws.OwnMore
namespace Go.Proofs.Ytgpiagdldcnijab
set_option linter.unusedVariables false
set_option linter.unusedSimpArgs false
open Go.RowKit

/-- A row after the numbers so far. -/
def filled (ts : List Int) (n : Nat) : List Value := (ts ++ List.replicate (n - ts.length) 0).map (Value.int .i64)

theorem filled_zero (n : Nat) : filled [] n = List.replicate n (.int .i64 0) := by simp [filled]
theorem filled_all (ts : List Int) : filled ts ts.length = ts.map (Value.int .i64) := by simp [filled]
theorem filled_at (ts : List Int) (n : Nat) (h : ts.length < n) : (filled ts n)[ts.length]? = some (.int .i64 0) := by
  unfold filled
  rw [List.map_append, List.getElem?_append_right (by simp)]
  rw [List.length_map, Nat.sub_self, show n - ts.length = (n - (ts.length + 1)) + 1 by omega, List.replicate_succ]
  rfl
theorem filled_old (ts : List Int) (n j : Nat) (h : j < ts.length) : (filled ts n)[j]? = some (.int .i64 (ts.getD j 0)) := by
  unfold filled
  rw [List.map_append, List.getElem?_append_left (by simpa using h)]
  simp [List.getD_eq_getElem?_getD, h]
theorem filled_set (ts : List Int) (n : Nat) (x : Int) (h : ts.length < n) : (filled ts n).set ts.length (.int .i64 x) = filled (ts ++ [x]) n := by
  unfold filled
  rw [List.map_append, List.set_append_right _ _ (by simp), List.length_map, Nat.sub_self, show n - ts.length = (n - (ts.length + 1)) + 1 by omega, List.replicate_succ]
  simp

theorem regTo_new (step slack : Int) (zs : List Int) (k : Nat) (h : k = 0 ∨ slack < ((nearQ (regTo step slack zs k).2 step (zs.getD k 0) - zs.getD k 0).natAbs : Int) ∨ nearQ (regTo step slack zs k).2 step (zs.getD k 0) ≤ (regTo step slack zs k).1.getD (k - 1) 0) :
    regTo step slack zs (k + 1) = ((regTo step slack zs k).1 ++ [zs.getD k 0], zs.getD k 0) := by rw [regTo, if_pos h]
theorem regTo_keep (step slack : Int) (zs : List Int) (k : Nat) (h : ¬ (k = 0 ∨ slack < ((nearQ (regTo step slack zs k).2 step (zs.getD k 0) - zs.getD k 0).natAbs : Int) ∨ nearQ (regTo step slack zs k).2 step (zs.getD k 0) ≤ (regTo step slack zs k).1.getD (k - 1) 0)) :
    regTo step slack zs (k + 1) = ((regTo step slack zs k).1 ++ [nearQ (regTo step slack zs k).2 step (zs.getD k 0)], (regTo step slack zs k).2) := by rw [regTo, if_neg h]

theorem near_far (step n : Int) (hs : 1 ≤ step) (hs2 : step ≤ 1000000000000000) (hn : isTimeN n) : -1000000000000000 ≤ nearQ (-1000000000000000) step n ∧ nearQ (-1000000000000000) step n ≤ 1500000000000000 := by
  obtain ⟨h0, h1⟩ := hn
  have := near_bd (-1000000000000000) step n hs h0
  omega

set_option maxRecDepth 100000 in
set_option maxHeartbeats 4000000 in
theorem reg_walk (b off n cap : Nat) (zs : List Int) (step slack : Int) (w : World) (hz : zs.length = n) (hn0 : 0 < n) (hn : n ≤ 5000) (hs : stepOk step slack) (hr : riseF zs = 0) (hlt : b < w.heap.size)
    (hc : ∀ j, j < n → w.cell? ⟨b, off + j, none⟩ = some (.int .i64 (zs.getD j 0))) :
    Calls Try.prog 94 #[.slice (some ⟨b, off, none⟩) n cap, .int .i64 step, .int .i64 slack] w fun e w' => (∃ u, e = .returned (.tuple #[u, .int .i64 (regF zs step slack)]) ∧ Nums w' u (regL zs step slack)) ∧ Below w.heap.size w w' := by
  have hN : Nums w (.slice (some ⟨b, off, none⟩) n cap) zs := .inr ⟨b, off, cap, by rw [hz], fun h => by subst h; simp at hz; omega, hlt, by unfold maxLen; omega, by rw [hz]; exact hc⟩
  obtain ⟨i0, hi, hi0, hi1, hi2⟩ := info_parts Try.infoInt
  have hrt : riseTo zs n = 0 := by rw [← hr]; unfold riseF; rw [hz, if_neg (by omega)]
  have HT := Lib.hid (riseTo_zero zs n hrt)
  have HB := Lib.hid (regTo_begin step slack zs n hrt)
  have HS := Lib.hid hs
  obtain ⟨⟨s0, s1⟩, ⟨l0, l1⟩⟩ := hs
  have HR := Lib.hid hr
  have HZ := Lib.hid hz
  have HC := Lib.hid hc
  clear hz hr hc hrt
  go_enter Try.func94, Try.ntmps94
  go_wp2_with fail
  refine (within_yes _ _ _ _ (by omega) (by omega)).mono ?_; rintro e w' ⟨rfl, rfl⟩
  go_wp2_with fail
  refine (within_yes _ _ _ _ (by omega) (by omega)).mono ?_; rintro e w' ⟨rfl, rfl⟩
  go_wp2_with fail
  refine (rising_any _ zs _ hN).mono ?_; rintro e w' ⟨rfl, rfl⟩
  rw [HR.out]
  clear hN
  go_wp2_with (at_make; refine wpList_make_full _ rfl _ _ 34 rfl w.heap.size 3 i0 (.int .i64 0) 1 Try.underlying34 hi hi0 hi1 _ _ _ _ n rfl rfl rfl rfl ?c1 ?c2 ?c3 ?_)
  case c1 => rw [hi2]; omega
  case c2 => unfold maxLen; omega
  case c3 => exact Nat.le_refl _
  intro w1 hown hgrow
  have hbel : Below w.heap.size w w1 := (Below.refl _ _).grown hgrow (Nat.le_refl _) (by simp)
  have hown0 : w1.ownsRow w.heap.size 3 1 (.slice (some ⟨w.heap.size, 0, none⟩) n n) n (filled [] n) := by
    rw [filled_zero]
    have := toList_madeCells_one (.int .i64 0) n
    rw [this] at hown
    exact hown
  clear hown hgrow
  go_wp2_with fail
  go_loopw [10, 32] (fun g i wr => ∃ (k : Nat) (gg : Int) (ts : List Int), k ≤ n ∧ g = .int .i64 gg ∧ i = .int .i64 k ∧ wr.ownsRow w.heap.size 3 1 (.slice (some ⟨w.heap.size, 0, none⟩) n n) n (filled ts n) ∧ Below w.heap.size w wr ∧ Hid (regTo step slack zs k = (ts, if k = 0 then 0 else gg)) ∧ Hid (k = 0 → gg = -1000000000000000) ∧ Hid (∀ t ∈ ts, isTimeN t)) (fun _ i _ => n - (intOf i).toNat)
  case atStart => exact ⟨0, -1000000000000000, [], Nat.zero_le _, rfl, rfl, hown0, hbel, Lib.hid rfl, Lib.hid (fun _ => rfl), Lib.hid (by simp)⟩
  case round =>
    clear hown0 hbel
    obtain ⟨k, gg, ts, hk, rfl, rfl, hown, hbel, HG, HG0, HTS⟩ := hrel
    have hl : ts.length = k := by have := regTo_len step slack zs k; rw [HG.out] at this; exact this
    have HL := Lib.hid hl
    by_cases hlt2 : k < n
    · obtain ⟨c, hz⟩ : ∃ z, zs.getD k 0 = z := ⟨_, rfl⟩
      have HZK := Lib.hid hz
      have hcell : wr.cell? ⟨b, off + k, none⟩ = some (.int .i64 c) := by
        rw [hbel.cell (p := ⟨b, off + k, none⟩) hlt, HC.out k hlt2, hz]
      have hrow : wr.cell? ⟨w.heap.size, k, none⟩ = some (.int .i64 0) := by
        rw [World.ownsRow.cellAt hown k (by omega), ← hl, filled_at ts n (by omega)]
      have hfz := World.ownsRow.frozenAt hown k
      have HST := Lib.hid (fun u => (World.ownsRow.stored hown k u).1)
      have htc : isTimeN c := by rw [← hz]; exact HT.out.1 k hlt2
      have TC := Lib.hid htc
      obtain ⟨t0, t1⟩ := htc
      -- the row after a number is put into it
      have hput : Hid (∀ x, (wr.setCell ⟨w.heap.size, k, none⟩ (.int .i64 x)).ownsRow w.heap.size 3 1 (.slice (some ⟨w.heap.size, 0, none⟩) n n) n (filled (ts ++ [x]) n)) := Lib.hid (fun x => by
        rw [← filled_set _ _ _ (by omega), hl]; exact HST.out _)
      clear HST
      by_cases hk1 : k < 1
      · have hgg : gg = -1000000000000000 := HG0.out (by omega)
        subst hgg
        have hk0 : ((k : Int) == 0) = true := by simp; omega
        obtain ⟨m0, m1⟩ := near_far step c s0 s1 TC.out
        have hnew := regTo_new step slack zs k (.inl (by omega))
        rw [HG.out, hz] at hnew
        have HNEW := Lib.hid hnew
        clear hnew hl hz
        go_wp2_with fail
        refine (nearest_any _ _ _ _ (by omega) (by omega) (by omega) (by omega) (by omega)).mono ?_; rintro e w' ⟨rfl, rfl⟩
        go_wp2_with fail
        refine (isTime_yes _ _ TC.out).mono ?_; rintro e w' ⟨rfl, rfl⟩
        go_wp2_with fail
        go_roundw
        case rel =>
          refine ⟨k + 1, c, ts ++ [c], by omega, rfl, by go_num, hput.out c, hbel.setCell (Nat.le_refl _) _, Lib.hid (by rw [HNEW.out]; rfl), Lib.hid (fun h => by omega), Lib.hid (fun t ht => ?_)⟩
          rcases List.mem_append.1 ht with h | h
          · exact HTS.out t h
          · rw [List.mem_singleton.1 h]; exact TC.out
        case measure => simp [intOf]; omega
      · obtain ⟨j, rfl⟩ : ∃ j, k = j + 1 := ⟨k - 1, by omega⟩
        have hg := HG.out
        rw [if_neg (by omega)] at hg
        obtain ⟨hb1, hb2⟩ := HB.out j (by omega)
        rw [hg] at hb1 hb2
        have hle : gg ≤ c := by
          have := HT.out.2 (j + 1) (by omega) hlt2
          rw [Nat.add_sub_cancel, hz] at this
          exact Int.le_trans hb1 this
        obtain ⟨g0, g1⟩ := hb2
        obtain ⟨p, hp⟩ : ∃ p, ts.getD j 0 = p := ⟨_, rfl⟩
        have hprev : wr.cell? ⟨w.heap.size, j, none⟩ = some (.int .i64 p) := by
          rw [World.ownsRow.cellAt hown j (by omega), filled_old ts n j (by omega), hp]
        obtain ⟨q0, q1⟩ := near_bd gg step c s0 hle
        have hnew := regTo_new step slack zs (j + 1)
        have hkeep := regTo_keep step slack zs (j + 1)
        rw [hg, hz, Nat.add_sub_cancel] at hnew hkeep
        simp only [hp] at hnew hkeep
        obtain ⟨x, hx⟩ : ∃ x, nearQ gg step c = x := ⟨_, rfl⟩
        rw [hx] at hnew hkeep q0 q1
        have HX := Lib.hid hx
        have HNEW := Lib.hid hnew
        have HKEEP := Lib.hid hkeep
        clear hnew hkeep hx hl hz hp hg hb1
        by_cases hfar : slack < ((x - c).natAbs : Int)
        · go_wp2_with fail
          refine (nearest_any _ _ _ _ (by omega) (by omega) (by omega) (by omega) (by omega)).mono ?_; rintro e w' ⟨rfl, rfl⟩
          rw [HX.out]
          go_wp2_with fail
          refine (size_any _ _ (by omega) (by omega)).mono ?_; rintro e w' ⟨rfl, rfl⟩
          go_wp2_with fail
          refine (isTime_yes _ _ TC.out).mono ?_; rintro e w' ⟨rfl, rfl⟩
          go_wp2_with fail
          go_roundw
          case rel =>
            refine ⟨j + 1 + 1, c, ts ++ [c], by omega, rfl, by go_num, hput.out c, hbel.setCell (Nat.le_refl _) _, Lib.hid (by rw [HNEW.out (.inr (.inl hfar))]; rfl), Lib.hid (fun h => by omega), Lib.hid (fun t ht => ?_)⟩
            rcases List.mem_append.1 ht with h | h
            · exact HTS.out t h
            · rw [List.mem_singleton.1 h]; exact TC.out
          case measure => simp [intOf]; omega
        · by_cases hlow : x ≤ p
          · go_wp2_with fail
            refine (nearest_any _ _ _ _ (by omega) (by omega) (by omega) (by omega) (by omega)).mono ?_; rintro e w' ⟨rfl, rfl⟩
            rw [HX.out]
            go_wp2_with fail
            refine (size_any _ _ (by omega) (by omega)).mono ?_; rintro e w' ⟨rfl, rfl⟩
            go_wp2_with fail
            refine (isTime_yes _ _ TC.out).mono ?_; rintro e w' ⟨rfl, rfl⟩
            go_wp2_with fail
            go_roundw
            case rel =>
              refine ⟨j + 1 + 1, c, ts ++ [c], by omega, rfl, by go_num, hput.out c, hbel.setCell (Nat.le_refl _) _, Lib.hid (by rw [HNEW.out (.inr (.inr hlow))]; rfl), Lib.hid (fun h => by omega), Lib.hid (fun t ht => ?_)⟩
              rcases List.mem_append.1 ht with h | h
              · exact HTS.out t h
              · rw [List.mem_singleton.1 h]; exact TC.out
            case measure => simp [intOf]; omega
          · have d1 : decide (slack < ((x - c).natAbs : Int)) = false := by simp; omega
            have d2 : decide (x ≤ p) = false := by simp; omega
            have hno : ¬ (j + 1 = 0 ∨ slack < ((x - c).natAbs : Int) ∨ x ≤ p) := by omega
            by_cases htx : isTimeN x
            · have TX := Lib.hid htx
              have HNO := Lib.hid hno
              clear htx hno
              go_wp2_with fail
              refine (nearest_any _ _ _ _ (by omega) (by omega) (by omega) (by omega) (by omega)).mono ?_; rintro e w' ⟨rfl, rfl⟩
              rw [HX.out]
              go_wp2_with fail
              refine (size_any _ _ (by omega) (by omega)).mono ?_; rintro e w' ⟨rfl, rfl⟩
              go_wp2_with fail
              refine (isTime_yes _ _ TX.out).mono ?_; rintro e w' ⟨rfl, rfl⟩
              go_wp2_with fail
              go_roundw
              case rel =>
                refine ⟨j + 1 + 1, gg, ts ++ [x], by omega, rfl, by go_num, hput.out x, hbel.setCell (Nat.le_refl _) _, Lib.hid (by rw [HKEEP.out HNO.out]; rfl), Lib.hid (fun h => by omega), Lib.hid (fun t ht => ?_)⟩
                rcases List.mem_append.1 ht with h | h
                · exact HTS.out t h
                · rw [List.mem_singleton.1 h]; exact TX.out
              case measure => simp [intOf]; omega
            · have hres := reg_bad zs step slack n (j + 1 + 1) HZ.out HS.out HR.out (by omega) x (by rw [HKEEP.out hno]; simp) htx
              have F1 := Lib.hid hres.1
              have F2 := Lib.hid hres.2
              have TX := Lib.hid htx
              clear hres htx hno
              go_wp2_with fail
              refine (nearest_any _ _ _ _ (by omega) (by omega) (by omega) (by omega) (by omega)).mono ?_; rintro e w' ⟨rfl, rfl⟩
              rw [HX.out]
              go_wp2_with fail
              refine (size_any _ _ (by omega) (by omega)).mono ?_; rintro e w' ⟨rfl, rfl⟩
              go_wp2_with fail
              refine (isTime_no _ _ TX.out).mono ?_; rintro e w' ⟨rfl, rfl⟩
              go_wp2_with fail
              go_ret2
              exact ⟨⟨_, ret2_vi rfl F1.out.symm, by rw [F2.out]; exact .nil _⟩, hbel⟩
    · have hkn : k = n := by omega
      obtain ⟨f1, f2⟩ := reg_good zs step slack n HZ.out HS.out HR.out (by rw [← hkn, HG.out]; exact HTS.out)
      rw [← hkn, HG.out] at f2
      have F1 := Lib.hid f1
      have F2 := Lib.hid f2
      have HKN := Lib.hid hkn
      clear f1 f2 hkn hl
      go_wp2
      go_ret2
      refine ⟨⟨_, ret2_vi rfl F1.out.symm, ?_⟩, hbel⟩
      rw [F2.out]
      have e2 : ts.length = n := by rw [HL.out, HKN.out]
      rw [← e2, filled_all] at hown
      show Nums _ (.slice (some ⟨w.heap.size, 0, none⟩) n n) ts
      rw [← e2]
      exact Nums.ofOwn (base := w.heap.size) (e := 3) hown

end Go.Proofs.Ytgpiagdldcnijab
