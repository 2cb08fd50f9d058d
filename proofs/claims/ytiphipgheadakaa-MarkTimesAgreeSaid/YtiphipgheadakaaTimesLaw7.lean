/- MarkTimesAgree: whatever the input, the law returns true: the walk. -/
import Derived.Test.YtiphipgheadakaaRes
import Derived.Test.YtiphipgheadakaaSum
import Derived.Laws.OwnMore
import Derived.Deep.DeepCutAuto
namespace Go.Proofs.Ytiphipgheadakaa
set_option linter.unusedVariables false
set_option linter.unusedSimpArgs false
open Go.RowKit Go.Shelf Go.Deep

theorem adL_at (ps : List Prt) (n j : Nat) (hj : j < (adL ps n).length) (hn : n ≤ 1000) : (Lit.int .i64 ((adL ps n).getD j 0)).wf = true := by
  have hm : (adL ps n).getD j 0 ∈ adL ps n := by rw [List.getD_eq_getElem?_getD, List.getElem?_eq_getElem hj]; exact List.getElem_mem hj
  obtain ⟨i, h1, h2, h3⟩ := (adL_mem ps n _).1 hm
  rw [h3]
  exact WalkArith.wf_i64 (by omega)
theorem isEmpty_ne (l : List UInt8) : (!(l != [])) = l.isEmpty := by cases l <;> rfl
theorem pgB_true {ps : List Prt} {t : Int} (h : pgB ps t = true) : plF ps t = 0 ∧ isAd (ps.getD (plK ps t) prt0) = false := by
  unfold pgB at h
  simp only [Bool.and_eq_true, decide_eq_true_eq, Bool.not_eq_true'] at h
  exact h
theorem nums_one {w : World} {u : Value} {t : Int} (h : NumsC w u [t]) : ∃ g o c, u = .slice (some ⟨g, o, none⟩) 1 c ∧ g < w.heap.size ∧ w.cell? ⟨g, o, none⟩ = some (.int .i64 t) := by
  rcases h with ⟨a', c', hv, h1⟩ | ⟨g, o, c', hv, -, hl, -, -, hc⟩
  · cases h1
  · exact ⟨g, o, c', hv, hl, hc 0 (by simp)⟩
set_option maxRecDepth 100000 in
set_option maxHeartbeats 16000000 in
theorem timeslaw7 (v : Value) (ps : List Prt) (t : Int) (w : World) (hS : Prts w v ps) (hwf : ∀ y ∈ ps, y.ad.size ≤ maxLen) :
    Calls Try.prog 5 #[v, .int .i64 t] w fun e w' => e = .returned (.bool true) ∧ Below w.heap.size w w' := by
  obtain ⟨i0, hi, hi0, hi1, hi2⟩ := info_parts Try.infoInt8
  have HP := Lib.hid (Programme_any v ps t w hS hwf)
  by_cases hF : plF ps t = 0
  rotate_left
  · have e1 : pgV ps t = 0 := by unfold pgV; rw [if_neg hF]
    have e2 : pgB ps t = false := by unfold pgB; rw [decide_eq_false hF]; rfl
    rw [e1, e2] at HP
    obtain ⟨F, hF2⟩ : ∃ F, plF ps t = F := ⟨_, rfl⟩
    rw [hF2] at HP hF
    have r0 : (F == 0) = false := by simp; exact hF
    have r1 : (F != 0) = true := by simp; exact hF
    clear hS hwf e1 e2 hF2 hF
    go_enter Try.func5, Try.ntmps5
    go_wp2_with fail
    refine HP.out.mono ?_; rintro e w1 ⟨rfl, b1⟩
    go_wp2_with fail
    refine (awake7_any _).mono ?_; rintro e w4 ⟨rfl, b4⟩
    go_wp2_with fail
    go_ret
    exact ⟨rfl, b1.trans (b4.mono b1.size)⟩
  cases hB : pgB ps t
  · rw [hB, hF] at HP
    obtain ⟨P, hP⟩ : ∃ P, pgV ps t = P := ⟨_, rfl⟩
    rw [hP] at HP
    clear hS hwf hB hF hP
    go_enter Try.func5, Try.ntmps5
    go_wp2_with fail
    refine HP.out.mono ?_; rintro e w1 ⟨rfl, b1⟩
    go_wp2_with fail
    refine (awake7_any _).mono ?_; rintro e w4 ⟨rfl, b4⟩
    go_wp2_with fail
    go_ret
    exact ⟨rfl, b1.trans (b4.mono b1.size)⟩
  obtain ⟨-, hA⟩ := pgB_true hB
  obtain ⟨-, -, g1⟩ := agree_st hF hA
  have g2 := agree_stX hF hA
  obtain ⟨g3, g4⟩ := agree_all hF hA
  obtain ⟨g5, g6⟩ := agree_nil hF hA
  have hg := (atF_zero (plF_zero hF).1).1
  have hlen := hg.len
  obtain ⟨sa, cap, rfl⟩ := hS.parts
  rw [hB, hF] at HP
  have HS : Hid (∀ W, Below w.heap.size w W → Prts W (.slice sa ps.length cap) ps) := Lib.hid (fun W hb => hS.below hb (Nat.le_refl _))
  have HST : Hid (∀ W, Below w.heap.size w W → Calls Try.prog 21 #[.slice sa ps.length cap, .int .i64 (pgV ps t)] W fun e w' => (∃ u, e = .returned (.tuple #[u, .int .i64 0]) ∧ NumsC w' u [t]) ∧ Below W.heap.size W w') := Lib.hid (fun W hb => by
    have := Stitched_any _ ps (pgV ps t) W (HS.out W hb) hwf
    rw [g1, g2] at this
    exact this)
  have HRA : Hid (∀ W u, Below w.heap.size w W → NumsC W u (adL ps ps.length) → Calls Try.prog 22 #[.slice sa ps.length cap, u, .int .i64 (pgV ps t)] W fun e w' => e = .returned (.tuple #[.int .i64 t, .int .i64 0]) ∧ Below W.heap.size W w') := Lib.hid (fun W u hb hu => by
    have := Resume_any _ u ps (adL ps ps.length) (pgV ps t) W (HS.out W hb) hwf hu (fun j hj => adL_at ps _ j hj hlen)
    rw [g3, g4] at this
    exact this)
  obtain ⟨q, hq⟩ : ∃ q, rsV ps [] (pgV ps t) = q := ⟨_, rfl⟩
  rw [hq] at g6
  have HRN : Hid (∀ W, Below w.heap.size w W → Calls Try.prog 22 #[.slice sa ps.length cap, .slice none 0 0, .int .i64 (pgV ps t)] W fun e w' => e = .returned (.tuple #[.int .i64 q, .int .i64 0]) ∧ Below W.heap.size W w') := Lib.hid (fun W hb => by
    have := Resume_any _ (.slice none 0 0) ps [] (pgV ps t) W (HS.out W hb) hwf (.inl ⟨_, _, rfl, rfl⟩) (fun j hj => by simp at hj)
    rw [g5, hq] at this
    exact this)
  obtain ⟨P, hP⟩ : ∃ P, pgV ps t = P := ⟨_, rfl⟩
  obtain ⟨n, hn⟩ : ∃ n, ps.length = n := ⟨_, rfl⟩
  have HN := Lib.hid hn
  rw [hP] at HP HST HRA HRN
  rw [hn] at HP HS HST HRA HRN hlen
  rw [hn]
  clear hS hwf hF hB hA g1 g2 g3 g4 g5 hg hq hP hn
  go_enter Try.func5, Try.ntmps5
  go_wp2_with fail
  refine HP.out.mono ?_; rintro e w1 ⟨rfl, b1⟩
  go_wp2_with fail
  refine (HST.out _ b1).mono ?_; rintro e w2 ⟨⟨u, rfl, hu⟩, b2⟩
  have b1 := b1.trans (b2.mono b1.size)
  obtain ⟨gu, ou, cu, rfl, hul, c0⟩ := nums_one hu
  have R0 : w2.ownsRow w2.heap.size 3 1 (.slice none 0 0) (adL ps 0).length ((adL ps 0).map (Value.int .i64)) := World.ownsRow_nil _ _ _ _
  clear hu b2 HP HST
  go_wp2_with fail
  go_loopw [9, 10] (fun v9 v10 wr => ∃ k : Nat, k ≤ n ∧ v10 = .int .i64 k ∧ wr.ownsRow w2.heap.size 3 1 v9 (adL ps k).length ((adL ps k).map (Value.int .i64)) ∧ Below w2.heap.size w2 wr) (fun _ v10 _ => n - (intOf v10).toNat)
  case atStart => exact ⟨0, Nat.zero_le _, rfl, R0, Below.refl _ _⟩
  case round =>
    clear R0 c0
    obtain ⟨k, hk, rfl, hown, hbr⟩ := hrel
    obtain ⟨a9, c9, rfl⟩ := iown7_form hown
    have bw := b1.trans (hbr.mono b1.size)
    by_cases hk2 : k < n
    rotate_left
    · have hkn : k = n := by omega
      subst hkn
      have kD : decide ((k : Int) < (k : Int)) = false := by simp
      have kD2 : decide (k < k) = false := by simp
      have hfin : NumsC wr (.slice a9 (adL ps k).length c9) (adL ps k) := NumsC.ofOwn hown
      clear hown hk2
      go_wp2_with fail
      refine (HRA.out _ _ bw hfin).mono ?_; rintro e w5 ⟨rfl, b5⟩
      have bw := bw.trans (b5.mono bw.size)
      clear hfin
      go_wp2_with fail
      refine (HRN.out _ bw).mono ?_; rintro e w6 ⟨rfl, b6⟩
      have bw := bw.trans (b6.mono bw.size)
      have qd : decide (q ≤ t) = true := decide_eq_true g6
      go_wp2_with fail
      refine (awake7_any _).mono ?_; rintro e w4 ⟨rfl, b4⟩
      go_wp2_with fail
      go_ret
      exact ⟨rfl, bw.trans (b4.mono bw.size)⟩
    · have hSW := HS.out _ bw
      obtain ⟨b, off, cap', hv, hlt, -, -⟩ := hSW.spot (by rw [HN.out]; omega)
      simp only [Value.slice.injEq] at hv
      obtain ⟨rfl, -, rfl⟩ := hv
      obtain ⟨c0, -, -⟩ := hSW.cells k (by rw [HN.out]; exact hk2)
      have HSK : Hid (adL ps (k + 1) = if isAd (ps.getD k prt0) = true then adL ps k ++ [(k : Int)] else adL ps k) := Lib.hid rfl
      have hml := adL_len ps k
      obtain ⟨L, hL⟩ : ∃ L, adL ps k = L := ⟨_, rfl⟩
      obtain ⟨x, hx⟩ : ∃ x, ps.getD k prt0 = x := ⟨_, rfl⟩
      rw [hL] at hown HSK hml ⊢
      rw [hx] at c0 HSK
      have kI : (k : Int) < (n : Int) := by omega
      have k0 : (0 : Int) ≤ (k : Int) := by omega
      have hwI : IntKind.i64.wrap ((k : Int) + 1) = (k : Int) + 1 := IntWalk.i64_in _ ⟨by omega, by omega⟩
      have hq2 : (x.ad.toList != []) = isAd x := by
        have hq := isAd_eq x.ad x.fr x.ln
        rw [bne, hq, Bool.not_not]
      obtain ⟨IA, hIA⟩ : ∃ IA, isAd x = IA := ⟨_, rfl⟩
      rw [hIA] at hq2 HSK
      have HQ := Lib.hid hq2
      clear hSW hL hx hIA hq2
      cases IA
      · have HS2 : Hid (adL ps (k + 1) = L) := HSK
        have q1 : (x.ad.toList != []) = false := HQ.out
        have q2 : x.ad.toList.isEmpty = true := by rw [← isEmpty_ne, q1]; rfl
        clear HSK
        go_wp2_with fail
        go_roundw
        case rel => exact ⟨k + 1, by omega, by go_num, by rw [HS2.out]; exact hown, hbr⟩
        case measure => simp [intOf]; omega
      · have HS2 : Hid (adL ps (k + 1) = L ++ [(k : Int)]) := HSK
        have q1 : (x.ad.toList != []) = true := HQ.out
        have q2 : x.ad.toList.isEmpty = false := by rw [← isEmpty_ne, q1]; rfl
        clear HSK
        go_upto_region 12 with fail
        go_wp2_with (at_builtin; refine wpList_append_own _ rfl _ _ 40 rfl w2.heap.size 3 i0 (.int .i64 0) 1 8 Try.underlying40 hi hi0 hi1 hi2 rfl (by decide) _ _ _ rfl (hown.alloc _) ⟨wr.heap.size, 0, none⟩ 1 1 [.int .i64 (k : Int)] rfl rfl ?b1 ?b2 ?b3 ?b4 ?b5 ?_)
        case b1 =>
          have := World.news_of_block (cs := #[.int .i64 (k : Int)]) (t := 3) (fr := (0, 0)) (heap_alloc_new wr (.cells #[.int .i64 (k : Int)] 3))
          simpa using this
        case b2 => simp [Value.oneCell']
        case b3 => unfold maxLen; omega
        case b4 => omega
        case b5 => have := hbr.size; first | omega | (simp; omega)
        intro v' w4 hown1 hgrow _
        have hb2 : Below w2.heap.size w2 w4 := ((hbr.alloc hbr.size _).grown hgrow (by have := hbr.size; simp; omega) (fun q hq => (hown.lt q hq).1))
        have hown2 : w4.ownsRow w2.heap.size 3 1 v' (adL ps (k + 1)).length ((adL ps (k + 1)).map (Value.int .i64)) := by
          rw [HS2.out, List.map_append, List.length_append]; exact hown1
        clear hgrow hown hown1
        go_wp2_with fail
        go_roundw
        case rel => exact ⟨k + 1, by omega, by go_num, hown2, hb2⟩
        case measure => simp [intOf]; omega

end Go.Proofs.Ytiphipgheadakaa
