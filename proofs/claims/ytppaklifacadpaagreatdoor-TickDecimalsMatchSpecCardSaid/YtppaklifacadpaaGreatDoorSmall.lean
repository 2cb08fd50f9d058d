/- The reference's small. -/
import Derived.Test.YtppaklifacadpaaGreatDoorTimes
namespace Go.Proofs.YtppaklifacadpaaGreatDoor
set_option linter.unusedVariables false
set_option linter.unusedSimpArgs false
open Go.RowKit

theorem digs_one (n : Int) (h0 : 0 ≤ n) (h1 : n < 10000) : Digs [n] := Digs.nil.snoc h0 h1
theorem lval_one (n : Int) : lval [n] = n := by simp [lval]

set_option maxHeartbeats 1000000 in
theorem small_any (u : Value) (xs : List Int) (n : Int) (w : World) (hu : Lim w u xs) (da : Digs xs) (hn : xs.length ≤ 1000) (h0 : 0 ≤ n) (h1 : n < 10000) :
    Calls Tryz.prog 65 #[u, .int .i64 n] w fun e w' => (∃ r, e = .returned r ∧ ∃ zs, Lim w' r zs ∧ Canon zs ∧ lval zs = lval xs * n ∧ zs.length ≤ xs.length + 1) ∧ Below w.heap.size w w' := by
  have bel := (Below.refl w.heap.size w).alloc (Nat.le_refl _) (.cells #[.int .i64 n] 3)
  have hl1 : Lim (w.alloc (.cells #[.int .i64 n] 3)) (.slice (some ⟨w.heap.size, 0, none⟩) 1 1) [n] := by
    refine .inr ⟨w.heap.size, 0, 1, rfl, by simp, by simp, by simp, by unfold maxLen; omega, fun j hj => ?_⟩
    have : j = 0 := by simpa using hj
    subst this
    simp
  have hl2 := hu.below bel (Nat.le_refl _)
  have HL1 := Lib.hid hl1; have HL2 := Lib.hid hl2; have DA := Lib.hid da; have HB := Lib.hid bel
  clear hl1 hl2 hu da bel
  go_enter Tryz.func65, Tryz.ntmps65
  go_wp2_with fail
  refine (trim_any _ [n] _ HL1.out).mono ?_
  rintro e w' ⟨⟨r, rfl, hr⟩, rfl⟩
  have hlen : (trimL [n]).length ≤ 1 := by rw [trimL_len]; exact trimN_le _ _
  have HR := Lib.hid hr
  clear hr
  go_wp2_with fail
  refine (times_any _ _ xs (trimL [n]) _ HL2.out HR.out DA.out (trimL_canon _ (digs_one n h0 h1)).1 hn (by omega)).mono ?_
  rintro e w2 ⟨⟨r2, rfl, zs, g1, g2, g3, g4⟩, b2⟩
  rw [trimL_val, lval_one] at g3
  go_wp2_with fail
  go_ret
  exact ⟨⟨_, rfl, zs, g1, g2, g3, by omega⟩, HB.out.trans (b2.mono (by simp))⟩

end Go.Proofs.YtppaklifacadpaaGreatDoor
