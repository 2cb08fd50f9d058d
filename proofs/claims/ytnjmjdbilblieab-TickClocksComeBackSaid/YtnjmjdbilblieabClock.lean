/- tick.CheckClock, checkScaled and milliAt. -/
import Derived.Test.YtnjmjdbilblieabPairs
import Derived.Deep.RegionHeld3
import Derived.Deep.AppendLies
namespace Go.Proofs.Ytnjmjdbilblieab
set_option linter.unusedVariables false
set_option linter.unusedSimpArgs false
open Go.RowKit

def isMilliN (n : Int) : Prop := 0 ≤ n ∧ n ≤ 253402300799999
instance (n : Int) : Decidable (isMilliN n) := by unfold isMilliN; infer_instance

/-- The fault of the first k anchors. -/
def clkTo (ps : List Pr) : Nat → Int
  | 0 => 0
  | k + 1 => if clkTo ps k ≠ 0 then clkTo ps k else if ¬ (isTimeN (ps.getD k (0, 0)).1 ∧ isMilliN (ps.getD k (0, 0)).2) then 1 else if 0 < k ∧ (ps.getD k (0, 0)).1 ≤ (ps.getD (k - 1) (0, 0)).1 then 8 else 0
def clkF (ps : List Pr) : Int := if ps.length = 0 then 9 else if 200 < ps.length then 2 else clkTo ps ps.length
def sclF (ps : List Pr) (scale : Int) : Int := if clkF ps ≠ 0 then clkF ps else if isScaleN scale then 0 else 1

theorem clkTo_bad (ps : List Pr) (k : Nat) (h : clkTo ps k ≠ 0) : ∀ d, clkTo ps (k + d) = clkTo ps k
  | 0 => rfl
  | d + 1 => by
    have ih := clkTo_bad ps k h d
    rw [show k + (d + 1) = (k + d) + 1 by omega, clkTo, if_pos (by rw [ih]; exact h), ih]

theorem clkTo_step (ps : List Pr) (k : Nat) (h : clkTo ps k = 0) : clkTo ps (k + 1) = if ¬ (isTimeN (ps.getD k (0, 0)).1 ∧ isMilliN (ps.getD k (0, 0)).2) then 1 else if 0 < k ∧ (ps.getD k (0, 0)).1 ≤ (ps.getD (k - 1) (0, 0)).1 then 8 else 0 := by
  rw [clkTo, if_neg (by omega)]

theorem clkTo_zero (ps : List Pr) : ∀ (k : Nat), clkTo ps k = 0 → (∀ j, j < k → isTimeN (ps.getD j (0, 0)).1 ∧ isMilliN (ps.getD j (0, 0)).2) ∧ ∀ j, 0 < j → j < k → (ps.getD (j - 1) (0, 0)).1 < (ps.getD j (0, 0)).1
  | 0, _ => ⟨fun j hj => by omega, fun j _ hj => by omega⟩
  | k + 1, h => by
    unfold clkTo at h
    split at h
    · contradiction
    · rename_i h0
      obtain ⟨i1, i2⟩ := clkTo_zero ps k (by omega)
      split at h
      · omega
      · rename_i ht
        split at h
        · omega
        · rename_i hl
          constructor
          · intro j hj
            by_cases hjk : j = k
            · subst hjk; exact Decidable.byContradiction ht
            · exact i1 j (by omega)
          · intro j h1 hj
            by_cases hjk : j = k
            · subst hjk; omega
            · exact i2 j h1 (by omega)

set_option maxHeartbeats 2000000 in
theorem clock_walk (b off n cap : Nat) (ps : List Pr) (w : World) (hz : ps.length = n) (hn0 : 0 < n) (hn : n ≤ 200) (hlt : b < w.heap.size)
    (hc : ∀ j, j < n → w.cell? ⟨b, off + j * 2, none⟩ = some (.int .i64 (ps.getD j (0, 0)).1) ∧ w.cell? ⟨b, off + j * 2 + 1, none⟩ = some (.int .i64 (ps.getD j (0, 0)).2)) :
    Calls Try.prog 31 #[.slice (some ⟨b, off, none⟩) n cap] w fun e w' => e = .returned (.int .i64 (clkF ps)) ∧ Below w.heap.size w w' := by
  have hF : clkF ps = clkTo ps n := by unfold clkF; rw [hz, if_neg (by omega), if_neg (by omega)]
  have HF := Lib.hid hF; have HZ := Lib.hid hz; have HC := Lib.hid hc
  have hnz : ((n : Int) == 0) = false := by simp; omega
  clear hF hz hc
  go_enter Try.func31, Try.ntmps31
  go_wp2_with fail
  go_loopw [13] (fun i wr => ∃ k : Nat, k ≤ n ∧ i = .int .i64 k ∧ Below w.heap.size w wr ∧ Hid (clkTo ps k = 0)) (fun i _ => n - (intOf i).toNat)
  case atStart => exact ⟨0, Nat.zero_le _, rfl, Below.refl _ _, Lib.hid rfl⟩
  case round =>
    obtain ⟨k, hk, rfl, hbel, HR⟩ := hrel
    by_cases hlt2 : k < n
    · obtain ⟨x, hx⟩ : ∃ x, (ps.getD k (0, 0)).1 = x := ⟨_, rfl⟩
      obtain ⟨y, hy⟩ : ∃ y, (ps.getD k (0, 0)).2 = y := ⟨_, rfl⟩
      obtain ⟨c0, c1⟩ := HC.out k hlt2
      rw [hx] at c0; rw [hy] at c1
      have d0 : wr.cell? ⟨b, off + k * 2, none⟩ = some (.int .i64 x) := by rw [hbel.cell (p := ⟨b, off + k * 2, none⟩) hlt]; exact c0
      have d1 : wr.cell? ⟨b, off + k * 2 + 1, none⟩ = some (.int .i64 y) := by rw [hbel.cell (p := ⟨b, off + k * 2 + 1, none⟩) hlt]; exact c1
      have hsz := hbel.size
      have hs := clkTo_step ps k HR.out
      rw [hx, hy] at hs
      clear c0 c1
      have hbad := fun h => clkTo_bad ps (k + 1) h (n - (k + 1))
      rw [show k + 1 + (n - (k + 1)) = n by omega] at hbad
      have hblt : b < wr.heap.size := Nat.lt_of_lt_of_le hlt hsz
      by_cases ht : isTimeN x
      · have T := Lib.hid ht
        by_cases hm : isMilliN y
        · obtain ⟨y0, y1⟩ := hm
          rw [if_neg (by simp only [Decidable.not_not]; exact ⟨ht, y0, y1⟩)] at hs
          by_cases hk0 : k < 1
          · rw [if_neg (by omega)] at hs
            have hgd : decide (0 < k) = false := by simp; omega
            have HS := Lib.hid hs
            clear hs hbad ht hx hy
            go_wp2_with fail
            refine (isTime_yes _ _ T.out).mono ?_; rintro e w' ⟨rfl, rfl⟩
            go_wp2_with fail
            refine (within_yes _ _ _ _ (by omega) (by omega)).mono ?_; rintro e w' ⟨rfl, rfl⟩
            go_wp2_with fail
            go_quiet (fail)
            go_wp2_with fail
            go_roundw
            case rel => exact ⟨k + 1, by omega, by go_num, below_drewN (hbel.alloc (by omega) _) _, HS⟩
            case measure => simp [intOf]; omega
          · obtain ⟨j, rfl⟩ : ∃ j, k = j + 1 := ⟨k - 1, by omega⟩
            obtain ⟨z, hz⟩ : ∃ z, (ps.getD j (0, 0)).1 = z := ⟨_, rfl⟩
            have c2 := (HC.out j (by omega)).1
            rw [hz] at c2
            rw [Nat.add_sub_cancel, hz] at hs
            have d2 : wr.cell? ⟨b, off + j * 2, none⟩ = some (.int .i64 z) := by rw [hbel.cell (p := ⟨b, off + j * 2, none⟩) hlt]; exact c2
            have d3 : (wr.alloc (.cells #[.int .i64 x, .int .i64 y] 42)).cell? ⟨b, off + j * 2, none⟩ = some (.int .i64 z) := by rw [World.cell?_alloc_past _ _ _ hblt]; exact d2
            clear c2
            by_cases hzy : x ≤ z
            · rw [if_pos ⟨by omega, hzy⟩] at hs
              have hf : clkF ps = 8 := by rw [HF.out, hbad (by omega), hs]
              have HF8 := Lib.hid hf
              clear hs hbad ht hx hy hz hf
              go_wp2_with fail
              refine (isTime_yes _ _ T.out).mono ?_; rintro e w' ⟨rfl, rfl⟩
              go_wp2_with fail
              refine (within_yes _ _ _ _ (by omega) (by omega)).mono ?_; rintro e w' ⟨rfl, rfl⟩
              go_wp2_with fail
              go_quiet (fail)
              go_wp2_with fail
              go_ret
              exact ⟨ret_int HF8.out.symm, below_drewN (hbel.alloc (by omega) _) _⟩
            · rw [if_neg (by omega)] at hs
              have HS := Lib.hid hs
              clear hs hbad ht hx hy hz
              go_wp2_with fail
              refine (isTime_yes _ _ T.out).mono ?_; rintro e w' ⟨rfl, rfl⟩
              go_wp2_with fail
              refine (within_yes _ _ _ _ (by omega) (by omega)).mono ?_; rintro e w' ⟨rfl, rfl⟩
              go_wp2_with fail
              go_quiet (fail)
              go_wp2_with fail
              go_roundw
              case rel => exact ⟨j + 1 + 1, by omega, by go_num, below_drewN (hbel.alloc (by omega) _) _, HS⟩
              case measure => simp [intOf]; omega
        · have hm' : y < 0 ∨ 253402300799999 < y := by unfold isMilliN at hm; omega
          rw [if_pos (fun h => hm h.2)] at hs
          have hf : clkF ps = 1 := by rw [HF.out, hbad (by omega), hs]
          have HF1 := Lib.hid hf
          have M := Lib.hid hm'
          clear hs hbad ht hx hy hm hm' hf
          go_wp2_with fail
          refine (isTime_yes _ _ T.out).mono ?_; rintro e w' ⟨rfl, rfl⟩
          go_wp2_with fail
          refine (within_no _ _ _ _ M.out).mono ?_; rintro e w' ⟨rfl, rfl⟩
          go_wp2_with fail
          go_ret
          exact ⟨ret_int HF1.out.symm, hbel.alloc (by omega) _⟩
      · have T := Lib.hid ht
        rw [if_pos (fun h => ht h.1)] at hs
        have hf : clkF ps = 1 := by rw [HF.out, hbad (by omega), hs]
        have HF1 := Lib.hid hf
        clear hs hbad ht hx hy hf
        go_wp2_with fail
        refine (isTime_no _ _ T.out).mono ?_; rintro e w' ⟨rfl, rfl⟩
        go_wp2_with fail
        go_ret
        exact ⟨ret_int HF1.out.symm, hbel.alloc (by omega) _⟩
    · have hf : clkF ps = 0 := by rw [HF.out, show n = k by omega]; exact HR.out
      have HF0 := Lib.hid hf
      clear hf
      go_wp2
      go_ret
      exact ⟨ret_int HF0.out.symm, hbel⟩

set_option maxHeartbeats 1000000 in
theorem milliAt_any (m v scale t : Int) (w : World) (hm : isTimeN m) (hv : isMilliN v) (hs : isScaleN scale) (ht : isTimeN t) :
    Calls Try.prog 25 #[.agg #[.int .i64 m, .int .i64 v], .int .i64 scale, .int .i64 t] w fun e w' => e = .returned (.int .i64 (v + portQ (t - m) 1000 scale 1)) ∧ Below w.heap.size w w' := by
  obtain ⟨m0, m1⟩ := hm
  obtain ⟨v0, v1⟩ := hv
  obtain ⟨s0, s1⟩ := hs
  obtain ⟨t0, t1⟩ := ht
  have hb := portQ_bd (t - m) 1000 scale 1 (by omega) (by omega)
  go_enter Try.func25, Try.ntmps25
  go_wp2_with fail
  have hw1 : IntKind.i64.wrap (t - m) = t - m := IntWalk.i64_in _ ⟨by omega, by omega⟩
  have hw2 : IntKind.i64.wrap (v + portQ (t - m) 1000 scale 1) = v + portQ (t - m) 1000 scale 1 := IntWalk.i64_in _ ⟨by omega, by omega⟩
  go_quiet ((go_at_call 30; exact Calls.quiet_of (portion_any _ _ _ _ _ (by omega) (by omega) (by omega) (by omega) (by omega) (by omega))))
  go_wp2_with fail
  go_ret
  exact ⟨rfl, below_drewN ((Below.refl _ _).alloc (Nat.le_refl _) _) _⟩

theorem clock_none (a : Option Addr) (cap : Nat) (w : World) :
    Calls Try.prog 31 #[.slice a 0 cap] w fun e w' => e = .returned (.int .i64 9) ∧ w = w' := by
  go_enter Try.func31, Try.ntmps31
  go_wp2
  go_ret
  exact ⟨rfl, rfl⟩

theorem clock_large (a : Option Addr) (n cap : Nat) (w : World) (hn : 200 < n) (hm : n ≤ maxLen) :
    Calls Try.prog 31 #[.slice a n cap] w fun e w' => e = .returned (.int .i64 2) ∧ w = w' := by
  unfold maxLen at hm
  have e1 : ((n : Int) == 0) = false := by simp; omega
  go_enter Try.func31, Try.ntmps31
  go_wp2
  go_ret
  exact ⟨rfl, rfl⟩

theorem clock_any (v : Value) (ps : List Pr) (w : World) (h : Pairs w v ps) :
    Calls Try.prog 31 #[v] w fun e w' => e = .returned (.int .i64 (clkF ps)) ∧ Below w.heap.size w w' := by
  rcases h with ⟨a, c, rfl, rfl⟩ | ⟨b, o, c, rfl, hne, hlt, hl, hm, hc⟩
  · refine (clock_none a c w).mono ?_
    rintro e w' ⟨rfl, rfl⟩
    exact ⟨ret_int (by simp [clkF]), Below.refl _ _⟩
  · have hp := List.length_pos_iff.2 hne
    by_cases h5 : 200 < ps.length
    · refine (clock_large _ _ c w h5 (by omega)).mono ?_
      rintro e w' ⟨rfl, rfl⟩
      exact ⟨ret_int (by unfold clkF; rw [if_neg (by omega), if_pos h5]), Below.refl _ _⟩
    · exact clock_walk b o _ c ps w rfl hp (by omega) hlt hc

theorem scaled_any (v : Value) (ps : List Pr) (scale : Int) (w : World) (h : Pairs w v ps) :
    Calls Try.prog 22 #[v, .int .i64 scale] w fun e w' => e = .returned (.int .i64 (sclF ps scale)) ∧ Below w.heap.size w w' := by
  obtain ⟨f, hf⟩ : ∃ f, clkF ps = f := ⟨_, rfl⟩
  by_cases h0 : f = 0
  · subst h0
    by_cases hs : isScaleN scale
    · have e0 : sclF ps scale = 0 := by simp [sclF, hf, hs]
      have E0 := Lib.hid e0; have F := Lib.hid hf; have S := Lib.hid hs
      clear e0 hf hs
      go_enter Try.func22, Try.ntmps22
      go_wp2_with fail
      refine (clock_any _ ps _ h).mono ?_; rintro e w1 ⟨rfl, b1⟩
      rw [F.out]
      go_wp2_with fail
      refine (isScale_yes _ _ S.out).mono ?_; rintro e w' ⟨rfl, rfl⟩
      go_wp2_with fail
      go_ret
      exact ⟨ret_int E0.out.symm, b1⟩
    · have e0 : sclF ps scale = 1 := by simp [sclF, hf, hs]
      have E0 := Lib.hid e0; have F := Lib.hid hf; have S := Lib.hid hs
      clear e0 hf hs
      go_enter Try.func22, Try.ntmps22
      go_wp2_with fail
      refine (clock_any _ ps _ h).mono ?_; rintro e w1 ⟨rfl, b1⟩
      rw [F.out]
      go_wp2_with fail
      refine (isScale_no _ _ S.out).mono ?_; rintro e w' ⟨rfl, rfl⟩
      go_wp2_with fail
      go_ret
      exact ⟨ret_int E0.out.symm, b1⟩
  · have e0 : sclF ps scale = f := by simp [sclF, hf, h0]
    have E0 := Lib.hid e0; have F := Lib.hid hf
    have hb : (f == 0) = false := by simp [h0]
    clear e0 hf
    go_enter Try.func22, Try.ntmps22
    go_wp2_with fail
    refine (clock_any _ ps _ h).mono ?_; rintro e w1 ⟨rfl, b1⟩
    rw [F.out]
    go_wp2_with fail
    go_ret
    exact ⟨ret_int E0.out.symm, b1⟩

end Go.Proofs.Ytnjmjdbilblieab
