/- TickKeptsAreClose: whatever the input, the law returns true. No conditions. -/
import Derived.Test.YtnjmjdbilblieabKeptPlain
namespace Go.Proofs.Ytnjmjdbilblieab
set_option linter.unusedVariables false
set_option linter.unusedSimpArgs false
open Go.RowKit

theorem scl_of {ps : List Pr} {scale : Int} (h : sclF ps scale = 0) : clkF ps = 0 ∧ isScaleN scale := by
  unfold sclF at h
  split at h
  · contradiction
  · split at h
    · exact ⟨by omega, by assumption⟩
    · omega

set_option maxHeartbeats 1000000 in
theorem kept_err (v : Value) (ps : List Pr) (scale slack : Int) (w : World) (h : Pairs w v ps) (hf : keptF ps scale slack ≠ 0) :
    Calls Try.prog 14 #[v, .int .i64 scale, .int .i64 slack] w fun e w' => e = .returned (.tuple #[.slice none 0 0, .int .i64 (keptF ps scale slack)]) ∧ Below w.heap.size w w' := by
  by_cases hs : sclF ps scale = 0
  · have hsl : ¬ isMilliN slack := fun h => hf (by simp [keptF, hs, h])
    have e1 : keptF ps scale slack = 1 := by simp [keptF, hs, hsl]
    have hsl' : slack < 0 ∨ 253402300799999 < slack := by unfold isMilliN at hsl; omega
    have HS := Lib.hid hs; have E1 := Lib.hid e1; have SL := Lib.hid hsl'
    clear hs hf hsl e1 hsl'
    go_enter Try.func14, Try.ntmps14
    go_wp2_with fail
    refine (scaled_any _ ps _ _ h).mono ?_; rintro e w1 ⟨rfl, b1⟩
    rw [HS.out]
    go_wp2_with fail
    refine (within_no _ _ _ _ SL.out).mono ?_; rintro e w' ⟨rfl, rfl⟩
    go_wp2_with fail
    go_ret2
    exact ⟨ret2_vi rfl E1.out.symm, b1⟩
  · obtain ⟨f, hff⟩ : ∃ f, sclF ps scale = f := ⟨_, rfl⟩
    have e1 : keptF ps scale slack = f := by simp [keptF, hff]; rw [hff] at hs; simp [hs]
    rw [hff] at hs
    have HS := Lib.hid hff; have E1 := Lib.hid e1
    have hb : (f == 0) = false := by simp [hs]
    have hb2 : (f != 0) = true := by simp [hs]
    clear hff hf e1
    go_enter Try.func14, Try.ntmps14
    go_wp2_with fail
    refine (scaled_any _ ps _ _ h).mono ?_; rintro e w1 ⟨rfl, b1⟩
    rw [HS.out]
    go_wp2_with fail
    go_ret2
    exact ⟨ret2_vi rfl E1.out.symm, b1⟩

set_option maxHeartbeats 1000000 in
theorem kepts_fail (v : Value) (ps : List Pr) (scale slack : Int) (w : World) (h : Pairs w v ps) (hf : keptF ps scale slack ≠ 0) :
    Calls Try.prog 6 #[v, .int .i64 scale, .int .i64 slack] w fun e w' => e = .returned (.bool true) ∧ Below w.heap.size w w' := by
  have hk := kept_err v ps scale slack w h hf
  obtain ⟨f, hff⟩ : ∃ f, keptF ps scale slack = f := ⟨_, rfl⟩
  rw [hff] at hk hf
  have HK := Lib.hid hk
  have hb : (f == 0) = false := by simp [hf]
  have hb2 : (f != 0) = true := by simp [hf]
  clear hff hk
  go_enter Try.func6, Try.ntmps6
  go_wp2_with fail
  refine HK.out.mono ?_; rintro e w1 ⟨rfl, b1⟩
  go_wp2_with fail
  refine (awake_any _).mono ?_; rintro e w' ⟨rfl, q3, rfl⟩
  go_wp2_with fail
  go_ret
  exact ⟨rfl, below_drewN b1 _⟩

set_option maxRecDepth 100000 in
set_option maxHeartbeats 4000000 in
theorem kepts_walk (b off n cap : Nat) (ps : List Pr) (scale slack : Int) (w : World) (hz : ps.length = n) (hlt : b < w.heap.size) (hcl : n ≤ cap) (hcm : cap ≤ maxLen) (hs : sclF ps scale = 0) (hsl : isMilliN slack)
    (hc : ∀ j, j < n → w.cell? ⟨b, off + j * 2, none⟩ = some (.int .i64 (ps.getD j (0, 0)).1) ∧ w.cell? ⟨b, off + j * 2 + 1, none⟩ = some (.int .i64 (ps.getD j (0, 0)).2)) :
    Calls Try.prog 6 #[.slice (some ⟨b, off, none⟩) n cap, .int .i64 scale, .int .i64 slack] w fun e w' => e = .returned (.bool true) ∧ Below w.heap.size w w' := by
  obtain ⟨hcf, hsc⟩ := scl_of hs
  obtain ⟨hclk, hp0, hp1⟩ := clk_of hcf
  rw [hz] at hp0 hp1
  have hinv := keep_inv scale slack ps hclk (by omega) (n - 1) (by omega)
  have hwh := keep_which scale slack ps hclk
  have hcs := keep_close scale slack ps (by have := hsc.1; omega) hsl.1
  have hkw := kept_walk b off n cap ps scale slack w hz hp0 hp1 hlt hcl hcm hs hsl (by rw [← hz]; exact hclk.valid) hsc hc
  rw [hz] at hwh
  obtain ⟨ts, hts⟩ : ∃ ts, (keepTo scale slack ps (n - 1)).1 = ts := ⟨_, rfl⟩
  rw [hts] at hinv hwh hkw
  have hts200 : ts.length ≤ 200 := by have := hinv.le; omega
  have hts0 := hinv.pos
  have hclt := hinv.clk
  have hst : sclF ts scale = 0 := by unfold sclF; rw [clkF_of hclt hts0 hts200]; simp [hsc]
  have HKW := Lib.hid hkw; have HWH := Lib.hid hwh; have HCS := Lib.hid hcs; have HCT := Lib.hid hclt; have HST := Lib.hid hst; have HSC := Lib.hid hsc; have HCLK := Lib.hid hclk; have HZ := Lib.hid hz; have HC := Lib.hid hc; have HFI := Lib.hid hinv.first
  obtain ⟨l0, l1⟩ := hsl
  clear hkw hwh hcs hclt hst hsc hclk hz hc hcf hs hinv hts
  go_enter Try.func6, Try.ntmps6
  go_wp2_with fail
  refine HKW.out.mono ?_; rintro e w1 ⟨⟨u, rfl, pu⟩, b1⟩
  rcases pu with ⟨a2, c2, rfl, hnil⟩ | ⟨b2, o2, c2, rfl, hne, hlt2, hl2, hm2, hc2⟩
  · rw [hnil] at hts0; simp at hts0
  · have HC1 : Hid (∀ j, j < n → w1.cell? ⟨b, off + j * 2, none⟩ = some (.int .i64 (ps.getD j (0, 0)).1) ∧ w1.cell? ⟨b, off + j * 2 + 1, none⟩ = some (.int .i64 (ps.getD j (0, 0)).2)) := Lib.hid (fun j hj => by
      rw [b1.cell (p := ⟨b, off + j * 2, none⟩) hlt, b1.cell (p := ⟨b, off + j * 2 + 1, none⟩) hlt]; exact HC.out j hj)
    have HC2 := Lib.hid hc2
    have hltb : b < w1.heap.size := Nat.lt_of_lt_of_le hlt b1.size
    obtain ⟨m, hm⟩ : ∃ m, ts.length = m := ⟨_, rfl⟩
    rw [hm] at HWH HC2 hl2 hts0 hts200 ⊢
    have HMM := Lib.hid hm
    have hcap63 : c2 ≤ 9223372036854775807 := by unfold maxLen at hm2; omega
    clear hc2 hne hm HKW HC
    go_wp2_with fail
    go_loopw [9] (fun i wr => ∃ k : Nat, k ≤ n ∧ i = .int .i64 k ∧ Below w1.heap.size w1 wr) (fun i _ => n - (intOf i).toNat)
    case atStart => exact ⟨0, Nat.zero_le _, rfl, Below.refl _ _⟩
    case round =>
      obtain ⟨k, hk, rfl, hbel⟩ := hrel
      by_cases hlt3 : k < n
      · obtain ⟨x, hx⟩ : ∃ x, (ps.getD k (0, 0)).1 = x := ⟨_, rfl⟩
        obtain ⟨y, hy⟩ : ∃ y, (ps.getD k (0, 0)).2 = y := ⟨_, rfl⟩
        have hcell := HC1.out k hlt3
        rw [hx, hy] at hcell
        have d0 : wr.cell? ⟨b, off + k * 2, none⟩ = some (.int .i64 x) := by rw [hbel.cell (p := ⟨b, off + k * 2, none⟩) hltb]; exact hcell.1
        have hwk := HWH.out k hlt3
        rw [hx] at hwk
        have hck := HCS.out k
        rw [hx, hy, ← hwk] at hck
        obtain ⟨M, hM⟩ : ∃ M, milQ (byWhich ts m x) scale x = M := ⟨_, rfl⟩
        rw [hM] at hck
        have hv := HCLK.out.valid k (by rw [HZ.out]; exact hlt3)
        have hvx : isTimeN x ∧ isMilliN y := by rw [← hx, ← hy]; exact hv
        have hcw : ∀ j, j < m → wr.cell? ⟨b2, o2 + j * 2, none⟩ = some (.int .i64 (ts.getD j (0, 0)).1) ∧ wr.cell? ⟨b2, o2 + j * 2 + 1, none⟩ = some (.int .i64 (ts.getD j (0, 0)).2) := fun j hj => by
          rw [hbel.cell (p := ⟨b2, o2 + j * 2, none⟩) hlt2, hbel.cell (p := ⟨b2, o2 + j * 2 + 1, none⟩) hlt2]; exact HC2.out j hj
        have hw := wall_walk b2 o2 m c2 ts scale x wr HMM.out hts0 hts200 (Nat.lt_of_lt_of_le hlt2 hbel.size) hl2 hm2 HST.out hvx.1 (by rw [← HMM.out]; exact HCT.out.valid) HSC.out (by rw [← HMM.out]; exact HCT.out.rises) hcw
        rw [hM] at hw
        have d1 := hcell.2
        obtain ⟨y0, y1⟩ := hvx.2
        have HW := Lib.hid hw
        have hsz := hbel.size
        clear hw hcw hv hM hwk hx hy hcell hvx
        have e0 : decide (slack < M - y) = false := by simp; omega
        have e1 : decide (M - y < -slack) = false := by simp; omega
        by_cases hmm : isMilliN M
        · obtain ⟨q0, q1⟩ := hmm
          go_wp2_with fail
          refine HW.out.mono ?_; rintro e w3 ⟨rfl, b3⟩
          rw [if_pos ⟨q0, q1⟩, if_pos ⟨q0, q1⟩]
          have d3 : w3.cell? ⟨b, off + k * 2 + 1, none⟩ = some (.int .i64 y) := by
            rw [b3.cell (p := ⟨b, off + k * 2 + 1, none⟩) (Nat.lt_of_lt_of_le hltb hsz), hbel.cell (p := ⟨b, off + k * 2 + 1, none⟩) hltb]; exact d1
          go_wp2_with fail
          go_roundw
          case rel => exact ⟨k + 1, by omega, by go_num, hbel.trans (b3.mono hsz)⟩
          case measure => simp [intOf]; omega
        · go_wp2_with fail
          refine HW.out.mono ?_; rintro e w3 ⟨rfl, b3⟩
          rw [if_neg hmm, if_neg hmm]
          have d3 : w3.cell? ⟨b, off + k * 2 + 1, none⟩ = some (.int .i64 y) := by
            rw [b3.cell (p := ⟨b, off + k * 2 + 1, none⟩) (Nat.lt_of_lt_of_le hltb hsz), hbel.cell (p := ⟨b, off + k * 2 + 1, none⟩) hltb]; exact d1
          go_wp2_with fail
          go_roundw
          case rel => exact ⟨k + 1, by omega, by go_num, hbel.trans (b3.mono hsz)⟩
          case measure => simp [intOf]; omega
      · obtain ⟨x0, hx0⟩ : ∃ x, (ps.getD 0 (0, 0)).1 = x := ⟨_, rfl⟩
        obtain ⟨y0, hy0⟩ : ∃ y, (ps.getD 0 (0, 0)).2 = y := ⟨_, rfl⟩
        obtain ⟨c0, c1⟩ := HC1.out 0 (by omega)
        obtain ⟨t0, t1⟩ := HC2.out 0 hts0
        rw [hx0, Nat.zero_mul, Nat.add_zero] at c0; rw [hy0, Nat.zero_mul, Nat.add_zero] at c1
        rw [HFI.out, hx0, Nat.zero_mul, Nat.add_zero] at t0; rw [HFI.out, hy0, Nat.zero_mul, Nat.add_zero] at t1
        have g0 : wr.cell? ⟨b, off, none⟩ = some (.int .i64 x0) := by rw [hbel.cell (p := ⟨b, off, none⟩) hltb]; exact c0
        have g1 : wr.cell? ⟨b, off + 1, none⟩ = some (.int .i64 y0) := by rw [hbel.cell (p := ⟨b, off + 1, none⟩) hltb]; exact c1
        have g2 : wr.cell? ⟨b2, o2, none⟩ = some (.int .i64 x0) := by rw [hbel.cell (p := ⟨b2, o2, none⟩) hlt2]; exact t0
        have g3 : wr.cell? ⟨b2, o2 + 1, none⟩ = some (.int .i64 y0) := by rw [hbel.cell (p := ⟨b2, o2 + 1, none⟩) hlt2]; exact t1
        have bel := b1.trans (hbel.mono b1.size)
        have m0 : (0 : Int) < (m : Int) := by omega
        have n0 : (0 : Int) < (n : Int) := by omega
        clear hx0 hy0 c0 c1 t0 t1 b1 hbel
        go_wp2_with fail
        go_quiet ((go_at_call 10; exact Calls.quiet_of (awake_any _)))
        go_wp2_with fail
        go_ret
        exact ⟨rfl, below_drewN bel _⟩

theorem kepts_any (v : Value) (ps : List Pr) (scale slack : Int) (w : World) (h : Pairs w v ps) :
    Calls Try.prog 6 #[v, .int .i64 scale, .int .i64 slack] w fun e w' => e = .returned (.bool true) ∧ Below w.heap.size w w' := by
  by_cases hf : keptF ps scale slack = 0
  · have hs : sclF ps scale = 0 := by
      unfold keptF at hf
      split at hf
      · contradiction
      · omega
    have hsl : isMilliN slack := by
      unfold keptF at hf
      rw [if_neg (by omega)] at hf
      split at hf
      · assumption
      · omega
    rcases h with ⟨a, c, rfl, rfl⟩ | ⟨b, o, c, rfl, hne, hlt, hl, hm, hc⟩
    · simp [sclF, clkF] at hs
    · exact kepts_walk b o _ c ps scale slack w rfl hlt hl hm hs hsl hc
  · exact kepts_fail v ps scale slack w h hf

end Go.Proofs.Ytnjmjdbilblieab
