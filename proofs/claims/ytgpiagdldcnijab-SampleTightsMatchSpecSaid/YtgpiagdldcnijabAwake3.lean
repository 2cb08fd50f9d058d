/- The law's own awake of package sample's laws. -/
import Derived.Test.YtgpiagdldcnijabPres
namespace Go.Proofs.Ytgpiagdldcnijab
set_option linter.unusedVariables false
set_option linter.unusedSimpArgs false
open Go.RowKit Go.Deep

def aw3 : List Smp := [⟨3, 1, 4, 0, false⟩]
theorem aw3_chk : chkF aw3 = 0 := by decide +kernel
theorem aw3_pres : presR aw3 = [7] := by decide +kernel
set_option maxHeartbeats 1000000 in
theorem awake3_any (w : World) :
    Calls Try.prog 32 #[] w fun e w' => e = .returned (.bool true) ∧ Below w.heap.size w w' := by
  have hS : Smps (w.alloc (.cells #[.int .i64 3, .int .i64 1, .int .i64 4, .int .i64 0, .bool false] 50)) (.slice (some ⟨w.heap.size, 0, none⟩) 1 1) aw3 := by
    refine .inr ⟨w.heap.size, 0, 1, rfl, by simp [aw3], by simp, by simp [aw3], by unfold maxLen; omega, fun j hj c hc => ?_⟩
    have : j = 0 := by simp [aw3] at hj; exact hj
    subst this
    rw [World.cell?_alloc_at _ _ _ _ (by simp)]
    have : c = 0 ∨ c = 1 ∨ c = 2 ∨ c = 3 ∨ c = 4 := by omega
    rcases this with rfl | rfl | rfl | rfl | rfl <;> rfl
  have hb : Below w.heap.size w (w.alloc (.cells #[.int .i64 3, .int .i64 1, .int .i64 4, .int .i64 0, .bool false] 50)) := (Below.refl _ _).alloc (Nat.le_refl _) _
  have HS := Lib.hid hS
  clear hS
  go_enter Try.func32, Try.ntmps32
  go_wp2_with fail
  refine (presents_any _ aw3 _ HS.out).mono ?_; rintro e w1 ⟨⟨u, rfl, n1⟩, b1⟩
  rw [aw3_chk]; rw [aw3_pres] at n1
  rcases n1 with ⟨a, c, rfl, h⟩ | ⟨g, o, c, rfl, hne, hlt, hm, hc⟩
  · simp at h
  · have c0 := hc 0 (by simp)
    simp at c0
    have bel := hb.trans (b1.mono hb.size)
    clear hc
    go_wp2_with fail
    go_ret
    exact ⟨rfl, bel⟩

end Go.Proofs.Ytgpiagdldcnijab
