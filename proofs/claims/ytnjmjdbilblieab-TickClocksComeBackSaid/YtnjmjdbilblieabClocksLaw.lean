/- TickClocksComeBack: whatever the input, the law returns true. No conditions. -/
import Derived.Test.YtnjmjdbilblieabSpans0
import Derived.Test.YtnjmjdbilblieabKeptLaw
namespace Go.Proofs.Ytnjmjdbilblieab
set_option linter.unusedVariables false
set_option linter.unusedSimpArgs false
open Go.RowKit

set_option maxHeartbeats 1000000 in
theorem wall_scaled (b off n cap : Nat) (a : Option Addr) (v : Value) (ps : List Pr) (scale t : Int) (w : World) (h : Pairs w v ps) (hf : sclF ps scale ≠ 0) :
    Calls Try.prog 11 #[v, .int .i64 scale, .int .i64 t] w fun e w' => e = .returned (.tuple #[.int .i64 0, .int .i64 (sclF ps scale)]) ∧ Below w.heap.size w w' := by
  obtain ⟨a, c, rfl, -⟩ := h.parts
  have hP2 := (h.below ((Below.refl w.heap.size w).alloc (Nat.le_refl _) (.cells #[.slice a ps.length c] 29)) (Nat.le_refl _)).below ((Below.refl _ _).alloc (Nat.le_refl _) (.cells #[.int .i64 t] 3)) (Nat.le_refl _)
  obtain ⟨f, hff⟩ : ∃ f, sclF ps scale = f := ⟨_, rfl⟩
  rw [hff] at hf ⊢
  have HS := Lib.hid hff; have HP2 := Lib.hid hP2
  have hb : (f == 0) = false := by simp [hf]
  have hb2 : (f != 0) = true := by simp [hf]
  clear hff hP2 h
  go_enter Try.func11, Try.ntmps11
  go_wp2_with fail
  refine (scaled_any _ ps _ _ HP2.out).mono ?_; rintro e w1 ⟨rfl, b1⟩
  rw [HS.out]
  have bel : Below w.heap.size w w1 := (((Below.refl _ _).alloc (Nat.le_refl _) _).alloc (by simp) _).trans (b1.mono (by simp; omega))
  clear b1
  go_wp2_with fail
  go_ret2
  exact ⟨rfl, bel⟩

set_option maxHeartbeats 1000000 in
theorem wall_late (v : Value) (ps : List Pr) (scale t : Int) (w : World) (h : Pairs w v ps) (hf : sclF ps scale = 0) (ht : ¬ isTimeN t) :
    Calls Try.prog 11 #[v, .int .i64 scale, .int .i64 t] w fun e w' => e = .returned (.tuple #[.int .i64 0, .int .i64 1]) ∧ Below w.heap.size w w' := by
  obtain ⟨a, c, rfl, -⟩ := h.parts
  have hP2 := (h.below ((Below.refl w.heap.size w).alloc (Nat.le_refl _) (.cells #[.slice a ps.length c] 29)) (Nat.le_refl _)).below ((Below.refl _ _).alloc (Nat.le_refl _) (.cells #[.int .i64 t] 3)) (Nat.le_refl _)
  have HS := Lib.hid hf; have HP2 := Lib.hid hP2; have HT := Lib.hid ht
  clear hf hP2 h ht
  go_enter Try.func11, Try.ntmps11
  go_wp2_with fail
  refine (scaled_any _ ps _ _ HP2.out).mono ?_; rintro e w1 ⟨rfl, b1⟩
  rw [HS.out]
  have s1 := b1.size
  simp only [World.size_alloc] at s1
  have e2 : w1.cell? ⟨w.heap.size + 1, 0, none⟩ = some (.int .i64 t) := by
    rw [b1.cell (p := ⟨w.heap.size + 1, 0, none⟩) (by simp), World.cell?_alloc_at _ _ _ _ (by simp)]; rfl
  have bel : Below w.heap.size w w1 := (((Below.refl _ _).alloc (Nat.le_refl _) _).alloc (by simp) _).trans (b1.mono (by simp; omega))
  clear b1
  go_wp2_with fail
  refine (isTime_no _ _ HT.out).mono ?_; rintro e w' ⟨rfl, rfl⟩
  go_wp2_with fail
  go_ret2
  exact ⟨rfl, bel⟩

set_option maxHeartbeats 1000000 in
theorem clocks_fail (v : Value) (scale t f : Int) (w : World) (hf : f ≠ 0)
    (hw : Calls Try.prog 11 #[v, .int .i64 scale, .int .i64 t] w fun e w' => e = .returned (.tuple #[.int .i64 0, .int .i64 f]) ∧ Below w.heap.size w w') :
    Calls Try.prog 5 #[v, .int .i64 scale, .int .i64 t] w fun e w' => e = .returned (.bool true) ∧ Below w.heap.size w w' := by
  have HW := Lib.hid hw
  have hb : (f == 0) = false := by simp [hf]
  have hb2 : (f != 0) = true := by simp [hf]
  clear hw
  go_enter Try.func5, Try.ntmps5
  go_wp2_with fail
  refine HW.out.mono ?_; rintro e w1 ⟨rfl, b1⟩
  go_wp2_with fail
  refine (awake_any _).mono ?_; rintro e w' ⟨rfl, q3, rfl⟩
  go_wp2_with fail
  go_ret
  exact ⟨rfl, below_drewN b1 _⟩

set_option maxHeartbeats 4000000 in
theorem clocks_walk (b off n cap : Nat) (ps : List Pr) (scale t M : Int) (w : World) (hz : ps.length = n) (hlt : b < w.heap.size) (hcl : n ≤ cap) (hcm : cap ≤ maxLen) (hs : sclF ps scale = 0) (ht : isTimeN t) (hM : milQ (byWhich ps n t) scale t = M) (hmm : isMilliN M)
    (hc : ∀ j, j < n → w.cell? ⟨b, off + j * 2, none⟩ = some (.int .i64 (ps.getD j (0, 0)).1) ∧ w.cell? ⟨b, off + j * 2 + 1, none⟩ = some (.int .i64 (ps.getD j (0, 0)).2)) :
    Calls Try.prog 5 #[.slice (some ⟨b, off, none⟩) n cap, .int .i64 scale, .int .i64 t] w fun e w' => e = .returned (.bool true) ∧ Below w.heap.size w w' := by
  obtain ⟨hcf, hsc⟩ := scl_of hs
  obtain ⟨hclk, hp0, hp1⟩ := clk_of hcf
  rw [hz] at hp0 hp1
  have hvalid := hclk.valid
  have hrises := hclk.rises
  rw [hz] at hvalid hrises
  have hw := wall_walk b off n cap ps scale t w hz hp0 hp1 hlt hcl hcm hs ht hvalid hsc hrises hc
  rw [hM, if_pos hmm, if_pos hmm] at hw
  have hhold := med_holds scale ps t hclk (by omega) hsc ht
  have hgood := med_good scale M ps hclk ps.length (Nat.le_refl _)
  rw [hz, hM] at hhold
  rw [hz] at hgood
  obtain ⟨hg, hlen⟩ := hgood
  have hg : Gs (medTo scale M ps n n) 1000000000000000 := by
    have e : bndQ ps n n = 1000000000000000 := by unfold bndQ; rw [if_neg (by omega), mostQ_last _ _ _ (by omega)]
    rw [e] at hg; exact hg
  have hmed := fun (w1 : World) (b1 : Below w.heap.size w w1) => media_walk b off n cap ps scale M w1 hz hp0 hp1 (Nat.lt_of_lt_of_le hlt b1.size) hcl hcm hs hmm hvalid hsc (fun j hj => by
    rw [b1.cell (p := ⟨b, off + j * 2, none⟩) hlt, b1.cell (p := ⟨b, off + j * 2 + 1, none⟩) hlt]; exact hc j hj)
  obtain ⟨ts, hts⟩ : ∃ ts, medTo scale M ps n n = ts := ⟨_, rfl⟩
  rw [hts] at hhold hg hlen
  simp only [hts] at hmed
  have HW := Lib.hid hw; have HH := Lib.hid hhold; have HG := Lib.hid hg; have HMED := Lib.hid hmed
  have hcap63 : cap ≤ 9223372036854775807 := by unfold maxLen at hcm; omega
  clear hw hhold hg hmed hvalid hrises hclk hcf hsc hs hc hM hts hz ht hmm
  go_enter Try.func5, Try.ntmps5
  go_wp2_with fail
  refine HW.out.mono ?_; rintro e w1 ⟨rfl, b1⟩
  go_wp2_with fail
  refine (HMED.out w1 b1).mono ?_; rintro e w2 ⟨⟨u, rfl, pu⟩, b2⟩
  have b12 : Below w.heap.size w w2 := b1.trans (b2.mono b1.size)
  have hsg := fun (wx : World) (hx : Pairs wx u ts) => spans_good u ts wx hx (by omega) HG.out
  clear b1 b2 HMED HG
  rcases pu with ⟨a2, c2, rfl, hnil⟩ | ⟨b2, o2, c2, rfl, hne, hlt2, hl2, hm2, hc2⟩
  · have ht : t = 1000000000000000 := by
      rcases HH.out with h | ⟨j, hj, -⟩
      · exact h
      · rw [hnil] at hj; simp at hj
    have HSG := Lib.hid (hsg w2 (.inl ⟨_, _, rfl, hnil⟩))
    have hq : decide (n < 0) = false := by simp
    clear hsg hnil HH
    subst ht
    go_wp2_with fail
    refine HSG.out.mono ?_; rintro e w3 ⟨rfl, b3⟩
    have bel := b12.trans (b3.mono b12.size)
    clear b12 b3 HSG
    go_wp2_with fail
    go_loopw [10] (fun i wr => i = .int .i64 0 ∧ Below w.heap.size w wr) (fun i _ => 0)
    case atStart => exact ⟨rfl, bel⟩
    case round =>
      obtain ⟨rfl, hbel⟩ := hrel
      go_wp2_with fail
      refine (awake_any _).mono ?_; rintro e w' ⟨rfl, q3, rfl⟩
      go_wp2_with fail
      go_ret
      exact ⟨rfl, below_drewN hbel _⟩
  · have HSG := Lib.hid (hsg w2 (.inr ⟨b2, o2, c2, rfl, hne, hlt2, hl2, hm2, hc2⟩))
    obtain ⟨m, hm⟩ : ∃ m, ts.length = m := ⟨_, rfl⟩
    have HHH := HH.out
    rw [hm] at hc2 hlen hl2 HHH
    rw [hm] at HSG ⊢
    have HC2 := Lib.hid hc2
    have HK := Lib.hid HHH
    have hq : decide (n < m) = false := by simp; omega
    have hcap64 : c2 ≤ 9223372036854775807 := by unfold maxLen at hm2; omega
    clear hsg hne hc2 HHH HH HW
    go_wp2_with fail
    refine HSG.out.mono ?_; rintro e w3 ⟨rfl, b3⟩
    have bel := b12.trans (b3.mono b12.size)
    have HC3 : Hid (∀ j, j < m → w3.cell? ⟨b2, o2 + j * 2, none⟩ = some (.int .i64 (ts.getD j (0, 0)).1) ∧ w3.cell? ⟨b2, o2 + j * 2 + 1, none⟩ = some (.int .i64 (ts.getD j (0, 0)).2)) := Lib.hid (fun j hj => by
      rw [b3.cell (p := ⟨b2, o2 + j * 2, none⟩) hlt2, b3.cell (p := ⟨b2, o2 + j * 2 + 1, none⟩) hlt2]; exact HC2.out j hj)
    have hlt3 : b2 < w3.heap.size := Nat.lt_of_lt_of_le hlt2 b3.size
    clear b12 b3 HSG HC2
    go_wp2_with fail
    go_loopw [10] (fun i wr => ∃ k : Nat, k ≤ m ∧ i = .int .i64 k ∧ Below w3.heap.size w3 wr ∧ Hid (∀ j, j < k → ¬ ((ts.getD j (0, 0)).1 ≤ t ∧ t < (ts.getD j (0, 0)).2))) (fun i _ => m - (intOf i).toNat)
    case atStart => exact ⟨0, Nat.zero_le _, rfl, Below.refl _ _, Lib.hid (fun j hj => by omega)⟩
    case round =>
      obtain ⟨k, hk, rfl, hbel, HN⟩ := hrel
      by_cases hlt4 : k < m
      · obtain ⟨x, hx⟩ : ∃ x, (ts.getD k (0, 0)).1 = x := ⟨_, rfl⟩
        obtain ⟨y, hy⟩ : ∃ y, (ts.getD k (0, 0)).2 = y := ⟨_, rfl⟩
        obtain ⟨c0, c1⟩ := HC3.out k hlt4
        rw [hx] at c0; rw [hy] at c1
        have d0 : wr.cell? ⟨b2, o2 + k * 2, none⟩ = some (.int .i64 x) := by rw [hbel.cell (p := ⟨b2, o2 + k * 2, none⟩) hlt3]; exact c0
        have d1 : wr.cell? ⟨b2, o2 + k * 2 + 1, none⟩ = some (.int .i64 y) := by rw [hbel.cell (p := ⟨b2, o2 + k * 2 + 1, none⟩) hlt3]; exact c1
        clear c0 c1
        by_cases hin : x ≤ t ∧ t < y
        · obtain ⟨i1, i2⟩ := hin
          clear hx hy
          go_wp2_with fail
          refine (awake_any _).mono ?_; rintro e w' ⟨rfl, q3, rfl⟩
          go_wp2_with fail
          go_ret
          exact ⟨rfl, below_drewN (bel.trans (hbel.mono bel.size)) _⟩
        · have HN2 : Hid (∀ j, j < k + 1 → ¬ ((ts.getD j (0, 0)).1 ≤ t ∧ t < (ts.getD j (0, 0)).2)) := Lib.hid (fun j hj => by
            by_cases hjk : j = k
            · rw [hjk, hx, hy]; exact hin
            · exact HN.out j (by omega))
          clear hx hy
          by_cases hxt : x ≤ t
          · have hty : decide (t < y) = false := by simp only [decide_eq_false_iff_not]; omega
            clear hin
            go_wp2_with fail
            go_roundw
            case rel => exact ⟨k + 1, by omega, by go_num, hbel, HN2⟩
            case measure => simp [intOf]; omega
          · have hxt2 : decide (x ≤ t) = false := by simp only [decide_eq_false_iff_not]; omega
            clear hin
            go_wp2_with fail
            go_roundw
            case rel => exact ⟨k + 1, by omega, by go_num, hbel, HN2⟩
            case measure => simp [intOf]; omega
      · have ht : t = 1000000000000000 := by
          rcases HK.out with h | ⟨j, hj, hj2⟩
          · exact h
          · exact absurd hj2 (HN.out j (by omega))
        subst ht
        go_wp2_with fail
        refine (awake_any _).mono ?_; rintro e w' ⟨rfl, q3, rfl⟩
        go_wp2_with fail
        go_ret
        exact ⟨rfl, below_drewN (bel.trans (hbel.mono bel.size)) _⟩

theorem clocks_any (v : Value) (ps : List Pr) (scale t : Int) (w : World) (h : Pairs w v ps) :
    Calls Try.prog 5 #[v, .int .i64 scale, .int .i64 t] w fun e w' => e = .returned (.bool true) ∧ Below w.heap.size w w' := by
  by_cases hs : sclF ps scale = 0
  · by_cases ht : isTimeN t
    · rcases h with ⟨a, c, rfl, rfl⟩ | ⟨b, o, c, rfl, hne, hlt, hl, hm, hc⟩
      · simp [sclF, clkF] at hs
      · by_cases hmm : isMilliN (milQ (byWhich ps ps.length t) scale t)
        · exact clocks_walk b o _ c ps scale t _ w rfl hlt hl hm hs ht rfl hmm hc
        · obtain ⟨hcf, hsc⟩ := scl_of hs
          obtain ⟨hclk, hp0, hp1⟩ := clk_of hcf
          have hw := wall_walk b o _ c ps scale t w rfl hp0 hp1 hlt hl hm hs ht hclk.valid hsc hclk.rises hc
          rw [if_neg hmm, if_neg hmm] at hw
          exact clocks_fail _ _ _ 1 _ (by decide) hw
    · exact clocks_fail _ _ _ 1 _ (by decide) (wall_late v ps scale t w h hs ht)
  · exact clocks_fail _ _ _ _ _ hs (wall_scaled 0 0 0 0 none v ps scale t w h hs)

end Go.Proofs.Ytnjmjdbilblieab
