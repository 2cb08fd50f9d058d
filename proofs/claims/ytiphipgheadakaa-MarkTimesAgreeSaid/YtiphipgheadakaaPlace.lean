/- checkAt, Place, slices.IndexFunc at parts, placeFrom (program). -/
import Derived.Test.YtiphipgheadakaaPlacePlain
import Derived.Test.YtiphipgheadakaaDue0
import Derived.Deep.SlicePairs
import Derived.Deep.RegionHeld3
import Derived.BigQuiet
import Derived.Deep.QuietTactic
import Derived.Deep.DeepCutAuto
import Derived.Deep.CutBlock
namespace Go.Proofs.Ytiphipgheadakaa
set_option linter.unusedVariables false
set_option linter.unusedSimpArgs false
open Go.RowKit

theorem checkAt_any (v : Value) (ps : List Prt) (t : Int) (w : World) (hS : Prts w v ps) (hwf : ∀ y ∈ ps, y.ad.size ≤ maxLen) :
    Calls Try.prog 50 #[v, .int .i64 t] w fun e w' => e = .returned (.int .i64 (atF ps t)) ∧ Below w.heap.size w w' := by
  have HCP := Lib.hid (CheckParts_any v ps w hS hwf)
  obtain ⟨F0, hF0⟩ : ∃ F0, ptF ps = F0 := ⟨_, rfl⟩
  obtain ⟨T1, hT1⟩ : ∃ T1, inB t 0 1000000000000000 = T1 := ⟨_, rfl⟩
  have HSM := Lib.hid (at_sum F0 T1 ps t hF0 hT1)
  have HT1 : Hid (∀ W, Calls Try.prog 42 #[.int .i64 t] W fun e w' => e = .returned (.bool T1) ∧ W = w') := Lib.hid (fun W => by rw [← hT1]; exact tickP_any t W)
  obtain ⟨R, hR⟩ : ∃ R, atF ps t = R := ⟨_, rfl⟩
  rw [hR] at HSM ⊢
  rw [hF0] at HCP
  clear hF0 hT1 hR hS hwf
  go_enter Try.func50, Try.ntmps50
  go_wp2_with fail
  refine HCP.out.mono ?_; rintro e w1 ⟨rfl, b1⟩
  go_wp2_with fail
  refine (HT1.out _).mono ?_; rintro e w' ⟨rfl, rfl⟩
  go_wp2_with fail
  refine (bfaultIf_any _ _ _).mono ?_; rintro e w' ⟨rfl, rfl⟩
  go_wp2_with fail
  refine (lfirst2 _ _ _).mono ?_; rintro e w' ⟨rfl, rfl⟩
  rw [HSM.out]
  have b1 := b1.alloc (o := .cells #[.int .i64 F0, .int .i64 (fIf (!T1) 1)] 29) b1.size
  go_wp2_with fail
  go_ret
  exact ⟨rfl, b1⟩
set_option maxRecDepth 100000 in
set_option maxHeartbeats 8000000 in
theorem Place_any (v : Value) (ps : List Prt) (t : Int) (w : World) (hS : Prts w v ps) (hwf : ∀ y ∈ ps, y.ad.size ≤ maxLen) :
    Calls Try.prog 23 #[v, .int .i64 t] w fun e w' => e = .returned (.tuple #[.int .i64 (plI ps t), .int .i64 (plN ps t), .int .i64 (plF ps t)]) ∧ Below w.heap.size w w' := by
  obtain ⟨sa, cap, rfl⟩ := hS.parts
  have HCA := Lib.hid (checkAt_any _ ps t w hS hwf)
  have HS : Hid (∀ W, Below w.heap.size w W → Prts W (.slice sa ps.length cap) ps) := Lib.hid (fun W hb => hS.below hb (Nat.le_refl _))
  have HP1 : Hid (atF ps t ≠ 0 → plI ps t = 0 ∧ plN ps t = 0 ∧ plF ps t = atF ps t) := Lib.hid (fun h => by
    have e : plF ps t = atF ps t := by unfold plF; rw [if_neg h]
    refine ⟨?_, ?_, e⟩
    · unfold plI; rw [if_neg (by rw [e]; exact h)]
    · unfold plN; rw [if_neg (by rw [e]; exact h)])
  have HP2 : Hid (atF ps t = 0 → ∀ k, k < ps.length → (∀ j, j < k → alTo ps (j + 1) ≤ t) → t < alTo ps (k + 1) → plI ps t = k ∧ plN ps t = t - alTo ps k ∧ plF ps t = 0) := Lib.hid (fun h k hk hj ht => by
    have ek : plK ps t = k := frst_eq hk (by simp; exact ht) (fun j hj' => by have := hj j hj'; simp; exact this)
    have e : plF ps t = 0 := by unfold plF; rw [if_pos h, ek, if_pos hk]
    refine ⟨?_, ?_, e⟩
    · unfold plI; rw [if_pos e, ek]
    · unfold plN; rw [if_pos e, ek])
  have HP3 : Hid (atF ps t = 0 → (∀ j, j < ps.length → alTo ps (j + 1) ≤ t) → plI ps t = 0 ∧ plN ps t = 0 ∧ plF ps t = 9) := Lib.hid (fun h hj => by
    have ek : plK ps t = ps.length := frst_none (fun j hj' => by have := hj j hj'; simp; exact this)
    have e : plF ps t = 9 := by unfold plF; rw [if_pos h, ek, if_neg (by omega)]
    refine ⟨?_, ?_, e⟩
    · unfold plI; rw [if_neg (by rw [e]; decide)]
    · unfold plN; rw [if_neg (by rw [e]; decide)])
  have HAT : Hid (atF ps t = 0 → OkPs ps ∧ 0 ≤ t ∧ t ≤ 1000000000000000) := Lib.hid atF_zero
  obtain ⟨n, hn⟩ : ∃ n, ps.length = n := ⟨_, rfl⟩
  have HN := Lib.hid hn
  obtain ⟨F, hF⟩ : ∃ F, atF ps t = F := ⟨_, rfl⟩
  obtain ⟨QI, hQI⟩ : ∃ F, plI ps t = F := ⟨_, rfl⟩
  obtain ⟨QN, hQN⟩ : ∃ F, plN ps t = F := ⟨_, rfl⟩
  obtain ⟨QF, hQF⟩ : ∃ F, plF ps t = F := ⟨_, rfl⟩
  rw [hn, hF] at HCA
  rw [hn] at HS
  rw [hF, hQI, hQN, hQF] at HP1
  rw [hF, hn, hQI, hQN, hQF] at HP2 HP3
  rw [hF] at HAT
  rw [hn, hQI, hQN, hQF]
  clear hn hF hQI hQN hQF hS hwf
  go_enter Try.func23, Try.ntmps23
  go_wp2_with fail
  refine HCA.out.mono ?_; rintro e w1 ⟨rfl, b1⟩
  by_cases h0 : F = 0
  rotate_left
  · obtain ⟨rfl, rfl, rfl⟩ := HP1.out h0
    have r0 : (QF == 0) = false := by simp; exact h0
    have r1 : (QF != 0) = true := by simp; exact h0
    clear h0
    go_wp2_with fail
    go_ret3
    exact ⟨rfl, b1⟩
  · subst h0
    obtain ⟨g, ht0, ht1⟩ := HAT.out rfl
    have HG := Lib.hid g
    have hn5 : n ≤ 1000 := by have := g.len; have := HN.out; omega
    clear g HAT HP1 HCA
    go_wp2_with fail
    go_loopw [1, 18] (fun v1 v18 wr => ∃ k : Nat, k ≤ n ∧ v18 = .int .i64 (k : Int) ∧ v1 = .int .i64 (t - alTo ps k) ∧ Below w.heap.size w wr ∧ Hid (∀ j, j < k → alTo ps (j + 1) ≤ t)) (fun _ v18 _ => n - (intOf v18).toNat)
    case atStart => exact ⟨0, Nat.zero_le _, rfl, by simp [alTo], b1, Lib.hid (fun j hj => by omega)⟩
    case round =>
      clear b1
      obtain ⟨k, hk, rfl, rfl, hbr, HK⟩ := hrel
      by_cases hk2 : k < n
      rotate_left
      · have hkn : k = n := by omega
        obtain ⟨rfl, rfl, rfl⟩ := HP3.out (by first | rfl | trivial) (fun j hj => HK.out j (by omega))
        have kD : decide ((k : Int) < (n : Int)) = false := by simp; omega
        have kD2 : decide (k < n) = false := by simp; omega
        clear hkn HP2 HP3
        go_wp2_with fail
        go_ret3
        exact ⟨rfl, hbr⟩
      · have hSW := HS.out wr hbr
        rw [← HN.out] at hSW
        obtain ⟨b, off, cap', hv, hlt, -, -⟩ := hSW.spot (by rw [HN.out]; omega)
        simp only [Value.slice.injEq] at hv
        obtain ⟨rfl, -, rfl⟩ := hv
        obtain ⟨c0, c1, c2⟩ := hSW.cells k (by rw [HN.out]; exact hk2)
        have hb1 := (HG.out.bd k (by rw [HN.out]; omega)).2
        have hlk := (HG.out.ok k (by rw [HN.out]; exact hk2)).ln
        have hA : alTo ps (k + 1) = alTo ps k + (ps.getD k prt0).ln := rfl
        have H2 : Hid (t < alTo ps (k + 1) → QI = k ∧ QN = t - alTo ps k ∧ QF = 0) := Lib.hid (fun h => HP2.out (by first | rfl | trivial) k hk2 HK.out h)
        have HKN : Hid (alTo ps (k + 1) ≤ t → ∀ j, j < k + 1 → alTo ps (j + 1) ≤ t) := Lib.hid (fun h j hj => by
          by_cases e : j = k
          · subst e; exact h
          · exact HK.out j (by omega))
        obtain ⟨x, hx⟩ : ∃ x, ps.getD k prt0 = x := ⟨_, rfl⟩
        obtain ⟨al, hal⟩ : ∃ al, alTo ps k = al := ⟨_, rfl⟩
        rw [hx] at c0 c1 c2 hlk hA
        rw [hal] at hb1 hA H2 ⊢
        have HA := Lib.hid hA
        rw [hA] at H2 HKN
        obtain ⟨d, hd⟩ : ∃ d, t - al = d := ⟨_, rfl⟩
        rw [hd] at H2 ⊢
        have kI : (k : Int) < (n : Int) := by omega
        have hwI : IntKind.i64.wrap ((k : Int) + 1) = (k : Int) + 1 := IntWalk.i64_in _ ⟨by omega, by omega⟩
        have wD : IntKind.i64.wrap (d - x.ln) = d - x.ln := IntWalk.i64_in _ ⟨by omega, by omega⟩
        have PX := PBox.new wr x 44
        have hbr := hbr.alloc (o := .cells #[.string x.ad, .int .i64 x.fr, .int .i64 x.ln] 44) hbr.size
        have HE : Hid (d - x.ln = t - alTo ps (k + 1)) := Lib.hid (by rw [hA]; omega)
        have HD1 : Hid (d < x.ln → t < al + x.ln) := Lib.hid (fun h => by omega)
        have HD2 : Hid (¬ d < x.ln → al + x.ln ≤ t) := Lib.hid (fun h => by omega)
        clear hx hal hA hd hSW HK hb1 hlk
        go_upto_region 7 with fail
        generalize wr.alloc (.cells #[.string x.ad, .int .i64 x.fr, .int .i64 x.ln] 44) = W9 at *
        generalize wr.heap.size = X9 at *
        clear c0 c1 c2
        have y2 := PX.c2; have yl := PX.lt
        by_cases hdl : d < x.ln
        · obtain ⟨e1, e2, rfl⟩ := H2.out (HD1.out hdl)
          subst e1 e2
          go_wp2_with fail
          go_ret3
          exact ⟨rfl, hbr⟩
        · have hq : decide (d < x.ln) = false := decide_eq_false hdl
          have HN2 := Lib.hid (HKN.out (HD2.out hdl))
          clear hdl
          go_wp2_with fail
          go_roundw
          case rel => exact ⟨k + 1, by omega, by go_num, by rw [HE.out], hbr, HN2⟩
          case measure => simp [intOf]; omega
set_option maxRecDepth 100000 in
set_option maxHeartbeats 8000000 in
/-- slices.IndexFunc at parts, for a predicate that makes what it likes. -/
theorem pindex_any (a : Option Addr) (n cap : Nat) (ps : List Prt) (f : Prt → Bool) (N : Nat) (cb : Array Value) (eg : ∀ args w, (callFunc N args).run Try.prog w = .ok (.enter N args) w) (w : World) (hS : ∀ W, Below w.heap.size w W → Prts W (.slice a n cap) ps) (hn : ps.length = n) (hn5 : n ≤ 1000)
    (hf : ∀ W x, Below w.heap.size w W → Calls Try.prog N (#[.agg #[.string x.ad, .int .i64 x.fr, .int .i64 x.ln]] ++ cb) W fun e w' => e = .returned (.bool (f x)) ∧ Below W.heap.size W w') (R : Int) (hR1 : ∀ k, k < n → f (ps.getD k prt0) = true → (∀ j, j < k → f (ps.getD j prt0) = false) → R = k) (hR2 : (∀ k, k < n → f (ps.getD k prt0) = false) → R = -1) :
    Calls Try.prog 49 #[.slice a n cap, .func (.func N) #[] cb] w fun e w' => e = .returned (.int .i64 R) ∧ Below w.heap.size w w' := by
  have HS := Lib.hid hS; have HN := Lib.hid hn; have HF := Lib.hid hf; have HR1 := Lib.hid hR1; have HR2 := Lib.hid hR2
  have b0 : Below w.heap.size w w := Below.refl _ w
  clear hS hn hf hR1 hR2
  go_enter Try.func49, Try.ntmps49
  go_wp2_with fail
  go_loopw [8] (fun v wr => ∃ k : Nat, k ≤ n ∧ v = .int .i64 (k : Int) ∧ Below w.heap.size w wr ∧ Hid (∀ j, j < k → f (ps.getD j prt0) = false)) (fun v _ => n - (intOf v).toNat)
  case atStart => exact ⟨0, Nat.zero_le _, rfl, b0, Lib.hid (fun j hj => by omega)⟩
  case round =>
    clear b0
    obtain ⟨k, hk, rfl, hbr, HK⟩ := hrel
    by_cases hk2 : k < n
    rotate_left
    · have hkn : k = n := by omega
      have e1 : R = -1 := HR2.out (fun j hj => HK.out j (by omega))
      have kD : decide ((k : Int) < (n : Int)) = false := by simp; omega
      have kD2 : decide (k < n) = false := by simp; omega
      subst e1
      clear hkn
      go_wp2_with fail
      go_ret
      exact ⟨rfl, hbr⟩
    · have hSW := HS.out wr hbr
      obtain ⟨b, off, cap', hv, hlt, -, -⟩ := hSW.spot (by rw [HN.out]; omega)
      simp only [Value.slice.injEq] at hv
      obtain ⟨rfl, -, rfl⟩ := hv
      obtain ⟨c0, c1, c2⟩ := hSW.cells k (by rw [HN.out]; exact hk2)
      have H1 : Hid (f (ps.getD k prt0) = true → R = k) := Lib.hid (fun h => HR1.out k hk2 h HK.out)
      have HKN : Hid (f (ps.getD k prt0) = false → ∀ j, j < k + 1 → f (ps.getD j prt0) = false) := Lib.hid (fun h j hj => by
        by_cases e : j = k
        · subst e; exact h
        · exact HK.out j (by omega))
      obtain ⟨x, hx⟩ : ∃ x, ps.getD k prt0 = x := ⟨_, rfl⟩
      rw [hx] at c0 c1 c2 H1 HKN
      have hfx := HF.out wr x hbr
      obtain ⟨B, hB⟩ : ∃ B, f x = B := ⟨_, rfl⟩
      rw [hB] at hfx H1 HKN
      have HFX := Lib.hid hfx
      have kI : (k : Int) < (n : Int) := by omega
      have hwI : IntKind.i64.wrap ((k : Int) + 1) = (k : Int) + 1 := IntWalk.i64_in _ ⟨by omega, by omega⟩
      clear hx hB hSW HK hfx
      go_wp2_with fail
      refine HFX.out.mono ?_; rintro e w5 ⟨rfl, b5⟩
      have hbn := hbr.trans (b5.mono hbr.size)
      clear c0 c1 c2 hbr b5 HFX
      cases B
      · have HN2 := Lib.hid (HKN.out rfl)
        go_wp2_with fail
        go_roundw
        case rel => exact ⟨k + 1, by omega, by go_num, hbn, HN2⟩
        case measure => simp [intOf]; omega
      · have e1 := H1.out rfl
        subst e1
        go_wp2_with fail
        go_ret
        exact ⟨rfl, hbn⟩
/-- The closure of placeFrom. -/
theorem from1_any (x : Prt) (t : Int) (TB : Nat) (w : World) (hT : w.cell? ⟨TB, 0, none⟩ = some (.int .i64 t)) (hTl : TB < w.heap.size) :
    Calls Try.prog 73 #[.agg #[.string x.ad, .int .i64 x.fr, .int .i64 x.ln], .pointer (some ⟨TB, 0, none⟩)] w fun e w' => e = .returned (.bool (!isAd x && decide (t < IntKind.i64.wrap (x.fr + x.ln)))) ∧ Below w.heap.size w w' := by
  have FX := PBox.new w x 44
  have b1 : Below w.heap.size w (w.alloc (.cells #[.string x.ad, .int .i64 x.fr, .int .i64 x.ln] 44)) := (Below.refl _ w).alloc (Nat.le_refl _) _
  have t0 : (w.alloc (.cells #[.string x.ad, .int .i64 x.fr, .int .i64 x.ln] 44)).cell? ⟨TB, 0, none⟩ = some (.int .i64 t) := (World.cell?_alloc_old _ _ _ (Nat.ne_of_lt hTl)).trans hT
  have tl : TB < (w.alloc (.cells #[.string x.ad, .int .i64 x.fr, .int .i64 x.ln] 44)).heap.size := by simp; omega
  have HIP : Hid (∀ W, Calls Try.prog 48 #[.agg #[.string x.ad, .int .i64 x.fr, .int .i64 x.ln]] W fun e w' => e = .returned (.bool (!isAd x)) ∧ Below W.heap.size W w') := Lib.hid (fun W => isProg_any x.ad x.fr x.ln W)
  obtain ⟨B, hB⟩ : ∃ B, (!isAd x) = B := ⟨_, rfl⟩
  obtain ⟨S, hS⟩ : ∃ S, IntKind.i64.wrap (x.fr + x.ln) = S := ⟨_, rfl⟩
  have hS2 : wrap64 (x.fr + x.ln) = S := by rw [← IntWalk.i64_left]; exact hS
  rw [hB] at HIP ⊢
  rw [hS]
  clear hB hT hTl
  go_enter Try.func73, Try.ntmps73
  go_upto_region 1 with fail
  generalize w.alloc (.cells #[.string x.ad, .int .i64 x.fr, .int .i64 x.ln] 44) = W at *
  have k0 := FX.c0; have k1 := FX.c1; have k2 := FX.c2; have kl := FX.lt
  go_wp2_with fail
  refine (HIP.out _).mono ?_; rintro e w5 ⟨rfl, b5⟩
  have FX := FX.below b5 FX.lt
  have t0 := (b5.cell (p := ⟨TB, 0, none⟩) tl).trans t0
  have tl := Nat.lt_of_lt_of_le tl b5.size
  have b1 := b1.trans (b5.mono b1.size)
  clear k0 k1 k2 kl b5
  have k1 := FX.c1; have k2 := FX.c2; have kl := FX.lt
  cases B
  · go_wp2_with fail
    go_ret
    exact ⟨rfl, b1⟩
  · go_wp2_with fail
    go_ret
    exact ⟨rfl, b1⟩
/-- placeFrom. -/
theorem placeFrom_any (v : Value) (ps : List Prt) (t : Int) (w : World) (hS : Prts w v ps) (g : OkPs ps) :
    Calls Try.prog 51 #[v, .int .i64 t] w fun e w' => e = .returned (.int .i64 (if stK ps t < ps.length then (stK ps t : Int) else -1)) ∧ Below w.heap.size w w' := by
  obtain ⟨sa, cap, rfl⟩ := hS.parts
  have b1 : Below w.heap.size w (w.alloc (.cells #[.int .i64 t] 3)) := (Below.refl _ w).alloc (Nat.le_refl _) _
  have t0 : (w.alloc (.cells #[.int .i64 t] 3)).cell? ⟨w.heap.size, 0, none⟩ = some (.int .i64 t) := by rw [World.cell?_alloc_at _ _ _ _ (by simp)]; rfl
  have tl : w.heap.size < (w.alloc (.cells #[.int .i64 t] 3)).heap.size := by simp
  obtain ⟨R, hR⟩ : ∃ R, (if stK ps t < ps.length then (stK ps t : Int) else -1) = R := ⟨_, rfl⟩
  rw [hR]
  have hfe : ∀ j, j < ps.length → (!isAd (ps.getD j prt0) && decide (t < IntKind.i64.wrap ((ps.getD j prt0).fr + (ps.getD j prt0).ln))) = (!isAd (ps.getD j prt0) && decide (t < (ps.getD j prt0).fr + (ps.getD j prt0).ln)) := fun j hj => by
    have := g.ok j hj
    have h1 := this.fr; have h2 := this.ln
    rw [IntWalk.i64_in _ ⟨by omega, by omega⟩]
  have HI : Hid (∀ W, Below w.heap.size w W → W.cell? ⟨w.heap.size, 0, none⟩ = some (.int .i64 t) → w.heap.size < W.heap.size → Calls Try.prog 49 #[.slice sa ps.length cap, .func (.func 73) #[] #[.pointer (some ⟨w.heap.size, 0, none⟩)]] W fun e w' => e = .returned (.int .i64 R) ∧ Below W.heap.size W w') := Lib.hid (fun W hb h0 hl =>
    pindex_any sa ps.length cap ps (fun x => !isAd x && decide (t < IntKind.i64.wrap (x.fr + x.ln))) 73 #[.pointer (some ⟨w.heap.size, 0, none⟩)] (enters_of Try.func73 (by kernel_rfl) rfl) W (fun W' hb' => hS.below (hb.trans (hb'.mono hb.size)) (Nat.le_refl _)) rfl g.len
      (fun W' x hb' => from1_any x t w.heap.size W' ((hb'.cell (p := ⟨w.heap.size, 0, none⟩) hl).trans h0) (Nat.lt_of_lt_of_le hl hb'.size)) R
      (fun k hk h1 h2 => by
        have ek : stK ps t = k := frst_eq hk (by rw [← hfe k hk]; exact h1) (fun j hj => by rw [← hfe j (by omega)]; exact h2 j hj)
        rw [← hR, ek, if_pos hk])
      (fun h2 => by
        have ek : stK ps t = ps.length := frst_none (fun j hj => by rw [← hfe j hj]; exact h2 j hj)
        rw [← hR, ek, if_neg (by omega)]))
  clear hR hfe hS g
  obtain ⟨n, hn⟩ : ∃ n, ps.length = n := ⟨_, rfl⟩
  rw [hn] at HI ⊢
  clear hn
  go_enter Try.func51, Try.ntmps51
  go_upto_region 1 with fail
  generalize w.alloc (.cells #[.int .i64 t] 3) = W at *
  go_wp2_with fail
  refine (HI.out _ b1 t0 tl).mono ?_; rintro e w5 ⟨rfl, b5⟩
  have b1 := b1.trans (b5.mono b1.size)
  clear t0 tl
  go_wp2_with fail
  go_ret
  exact ⟨rfl, b1⟩

end Go.Proofs.Ytiphipgheadakaa
