/- The reference's Regular, whatever the input. -/
import Derived.Test.YtgpiagdldcnijabRegRef
namespace Go.Proofs.Ytgpiagdldcnijab
set_option linter.unusedVariables false
set_option linter.unusedSimpArgs false
open Go.RowKit

set_option maxRecDepth 100000 in
set_option maxHeartbeats 1000000 in
theorem rreg_badstep (a : Option Addr) (n cap : Nat) (step slack : Int) (w : World) (hs : ¬ stepOk step slack) :
    Calls Try.prog 98 #[.slice a n cap, .int .i64 step, .int .i64 slack] w fun e w' => (∃ u, e = .returned (.tuple #[u, .int .i64 1]) ∧ Nums w' u []) ∧ Below w.heap.size w w' := by
  by_cases h1 : step < 1
  · clear hs
    go_enter Try.func98, Try.ntmps98
    go_wp2_with fail
    go_ret2
    exact ⟨⟨_, ret2_vi rfl rfl, .nil _⟩, Below.refl _ _⟩
  · by_cases h2 : 1000000000000000 < step
    · clear hs
      go_enter Try.func98, Try.ntmps98
      go_wp2_with fail
      go_ret2
      exact ⟨⟨_, ret2_vi rfl rfl, .nil _⟩, Below.refl _ _⟩
    · by_cases h3 : slack < 0
      · clear hs
        go_enter Try.func98, Try.ntmps98
        go_wp2_with fail
        go_ret2
        exact ⟨⟨_, ret2_vi rfl rfl, .nil _⟩, Below.refl _ _⟩
      · have h4 : 1000000000000000 < slack := by unfold stepOk at hs; omega
        clear hs
        go_enter Try.func98, Try.ntmps98
        go_wp2_with fail
        go_ret2
        exact ⟨⟨_, ret2_vi rfl rfl, .nil _⟩, Below.refl _ _⟩

set_option maxRecDepth 100000 in
set_option maxHeartbeats 1000000 in
theorem rreg_large (a : Option Addr) (n cap : Nat) (step slack : Int) (w : World) (hs : stepOk step slack) (hn : 5000 < n) (hm : n ≤ maxLen) :
    Calls Try.prog 98 #[.slice a n cap, .int .i64 step, .int .i64 slack] w fun e w' => (∃ u, e = .returned (.tuple #[u, .int .i64 2]) ∧ Nums w' u []) ∧ Below w.heap.size w w' := by
  unfold maxLen at hm
  obtain ⟨⟨s0, s1⟩, ⟨l0, l1⟩⟩ := hs
  go_enter Try.func98, Try.ntmps98
  go_wp2_with fail
  go_ret2
  exact ⟨⟨_, ret2_vi rfl rfl, .nil _⟩, Below.refl _ _⟩

set_option maxRecDepth 100000 in
set_option maxHeartbeats 1000000 in
theorem rreg_empty (a : Option Addr) (cap : Nat) (step slack : Int) (w : World) (hs : stepOk step slack) :
    Calls Try.prog 98 #[.slice a 0 cap, .int .i64 step, .int .i64 slack] w fun e w' => (∃ u, e = .returned (.tuple #[u, .int .i64 0]) ∧ Nums w' u []) ∧ Below w.heap.size w w' := by
  obtain ⟨⟨s0, s1⟩, ⟨l0, l1⟩⟩ := hs
  go_enter Try.func98, Try.ntmps98
  go_wp2_with fail
  refine wp_loop_rounds 1 ?_
  rw [rounds_succ]
  go_wp2_with fail
  refine wp_loop_rounds 1 ?_
  rw [rounds_succ]
  go_wp2_with fail
  refine wp_loop_rounds 1 ?_
  rw [rounds_succ]
  go_wp2_with fail
  go_ret2
  exact ⟨⟨_, ret2_vi rfl rfl, .nil _⟩, Below.refl _ _⟩

/-- The reference's Regular, whatever the input. -/
theorem rreg_any (v : Value) (zs : List Int) (step slack : Int) (w : World) (h : Nums w v zs) :
    Calls Try.prog 98 #[v, .int .i64 step, .int .i64 slack] w fun e w' => (∃ u, e = .returned (.tuple #[u, .int .i64 (regF zs step slack)]) ∧ Nums w' u (regL zs step slack)) ∧ Below w.heap.size w w' := by
  by_cases hs : stepOk step slack
  · rcases h with ⟨a, c, rfl, rfl⟩ | ⟨b, o, c, rfl, hne, hlt, hm, hc⟩
    · rw [(reg_none step slack hs).1, (reg_none step slack hs).2]
      exact rreg_empty a c step slack w hs
    · by_cases h5 : 5000 < zs.length
      · have hr : riseF zs = 2 := by simp [riseF, h5]
        rw [(reg_rise zs step slack hs (by omega)).1, (reg_rise zs step slack hs (by omega)).2, hr]
        exact rreg_large _ _ _ step slack w hs h5 hm
      · exact rreg_walk b o _ c zs step slack w rfl (List.length_pos_iff.2 hne) (by omega) hs hlt hc
  · rw [(reg_step zs step slack hs).1, (reg_step zs step slack hs).2]
    obtain ⟨a, c, rfl, -⟩ := h.parts
    exact rreg_badstep a _ c step slack w hs


end Go.Proofs.Ytgpiagdldcnijab
