/- tick.CheckSpans on good spans. -/
import Derived.Test.YtnjmjdbilblieabMediaPlain
namespace Go.Proofs.Ytnjmjdbilblieab
set_option linter.unusedVariables false
set_option linter.unusedSimpArgs false
open Go.RowKit

theorem spans_empty (a : Option Addr) (cap : Nat) (w : World) :
    Calls Try.prog 13 #[.slice a 0 cap] w fun e w' => e = .returned (.int .i64 0) ∧ Below w.heap.size w w' := by
  go_enter Try.func13, Try.ntmps13
  go_wp2_with fail
  go_loopw [10] (fun i wr => i = .int .i64 0 ∧ Below w.heap.size w wr) (fun i _ => 0)
  case atStart => exact ⟨rfl, Below.refl _ _⟩
  case round =>
    obtain ⟨rfl, hbel⟩ := hrel
    go_wp2_with fail
    go_ret
    exact ⟨rfl, hbel⟩

set_option maxHeartbeats 2000000 in
theorem spans_walk (b off n cap : Nat) (ts : List Pr) (w : World) (hz : ts.length = n) (hn : n ≤ 1000) (hlt : b < w.heap.size) (hg : Gs ts 1000000000000000)
    (hc : ∀ j, j < n → w.cell? ⟨b, off + j * 2, none⟩ = some (.int .i64 (ts.getD j (0, 0)).1) ∧ w.cell? ⟨b, off + j * 2 + 1, none⟩ = some (.int .i64 (ts.getD j (0, 0)).2)) :
    Calls Try.prog 13 #[.slice (some ⟨b, off, none⟩) n cap] w fun e w' => e = .returned (.int .i64 0) ∧ Below w.heap.size w w' := by
  have HZ := Lib.hid hz; have HC := Lib.hid hc; have HG := Lib.hid hg
  clear hz hc hg
  go_enter Try.func13, Try.ntmps13
  go_wp2_with fail
  go_loopw [10] (fun i wr => ∃ k : Nat, k ≤ n ∧ i = .int .i64 k ∧ Below w.heap.size w wr) (fun i _ => n - (intOf i).toNat)
  case atStart => exact ⟨0, Nat.zero_le _, rfl, Below.refl _ _⟩
  case round =>
    obtain ⟨k, hk, rfl, hbel⟩ := hrel
    by_cases hlt2 : k < n
    · obtain ⟨x, hx⟩ : ∃ x, (ts.getD k (0, 0)).1 = x := ⟨_, rfl⟩
      obtain ⟨y, hy⟩ : ∃ y, (ts.getD k (0, 0)).2 = y := ⟨_, rfl⟩
      obtain ⟨c0, c1⟩ := HC.out k hlt2
      rw [hx] at c0; rw [hy] at c1
      have d0 : wr.cell? ⟨b, off + k * 2, none⟩ = some (.int .i64 x) := by rw [hbel.cell (p := ⟨b, off + k * 2, none⟩) hlt]; exact c0
      have d1 : wr.cell? ⟨b, off + k * 2 + 1, none⟩ = some (.int .i64 y) := by rw [hbel.cell (p := ⟨b, off + k * 2 + 1, none⟩) hlt]; exact c1
      have hsz := hbel.size
      have hv := HG.out.valid k (by rw [HZ.out]; exact hlt2)
      rw [hx, hy] at hv
      obtain ⟨v0, v1, v2⟩ := hv
      have T1 : Hid (isTimeN x) := Lib.hid ⟨by omega, by omega⟩
      have T2 : Hid (isTimeN y) := Lib.hid ⟨by omega, by omega⟩
      have hyx : decide (y ≤ x) = false := by simp only [decide_eq_false_iff_not]; omega
      clear c0 c1 v2
      have hblt : b < wr.heap.size := Nat.lt_of_lt_of_le hlt hsz
      by_cases hk0 : k < 1
      · have hgd : decide (0 < k) = false := by simp; omega
        clear hx hy
        go_wp2_with fail
        refine (isTime_yes _ _ T1.out).mono ?_; rintro e w' ⟨rfl, rfl⟩
        go_wp2_with fail
        refine (isTime_yes _ _ T2.out).mono ?_; rintro e w' ⟨rfl, rfl⟩
        go_wp2_with fail
        go_quiet (fail)
        go_wp2_with fail
        go_roundw
        case rel => exact ⟨k + 1, by omega, by go_num, below_drewN (hbel.alloc (by omega) _) _⟩
        case measure => simp [intOf]; omega
      · obtain ⟨j, rfl⟩ : ∃ j, k = j + 1 := ⟨k - 1, by omega⟩
        obtain ⟨z, hz⟩ : ∃ z, (ts.getD j (0, 0)).2 = z := ⟨_, rfl⟩
        have c2 := (HC.out j (by omega)).2
        rw [hz] at c2
        have hr := HG.out.rises (j + 1) (by omega) (by rw [HZ.out]; exact hlt2)
        rw [Nat.add_sub_cancel, hz, hx] at hr
        have d2 : wr.cell? ⟨b, off + j * 2 + 1, none⟩ = some (.int .i64 z) := by rw [hbel.cell (p := ⟨b, off + j * 2 + 1, none⟩) hlt]; exact c2
        have d3 : (wr.alloc (.cells #[.int .i64 x, .int .i64 y] 37)).cell? ⟨b, off + j * 2 + 1, none⟩ = some (.int .i64 z) := by rw [World.cell?_alloc_past _ _ _ hblt]; exact d2
        have hxz : decide (x ≤ z) = false := by simp only [decide_eq_false_iff_not]; omega
        clear c2 hx hy hz
        go_wp2_with fail
        refine (isTime_yes _ _ T1.out).mono ?_; rintro e w' ⟨rfl, rfl⟩
        go_wp2_with fail
        refine (isTime_yes _ _ T2.out).mono ?_; rintro e w' ⟨rfl, rfl⟩
        go_wp2_with fail
        go_quiet (fail)
        go_wp2_with fail
        go_roundw
        case rel => exact ⟨j + 1 + 1, by omega, by go_num, below_drewN (hbel.alloc (by omega) _) _⟩
        case measure => simp [intOf]; omega
    · go_wp2
      go_ret
      exact ⟨rfl, hbel⟩

theorem spans_good (v : Value) (ts : List Pr) (w : World) (h : Pairs w v ts) (hn : ts.length ≤ 1000) (hg : Gs ts 1000000000000000) :
    Calls Try.prog 13 #[v] w fun e w' => e = .returned (.int .i64 0) ∧ Below w.heap.size w w' := by
  rcases h with ⟨a, c, rfl, rfl⟩ | ⟨b, o, c, rfl, hne, hlt, hl, hm, hc⟩
  · exact spans_empty a c w
  · exact spans_walk b o _ c ts w rfl hn hlt hg hc

end Go.Proofs.Ytnjmjdbilblieab
