/- TickRegularsMatchSpec and TickRegularsStayClose: whatever the input, the law returns true. No conditions. -/
import Derived.Test.YtnjmjdbilblieabRegRef
namespace Go.Proofs.Ytnjmjdbilblieab
set_option linter.unusedVariables false
set_option linter.unusedSimpArgs false
open Go.RowKit

theorem Nums.parts {w : World} {v : Value} {zs : List Int} (h : Nums w v zs) : ∃ a cap, v = .slice a zs.length cap ∧ zs.length ≤ maxLen := by
  rcases h with ⟨a, c, rfl, rfl⟩ | ⟨b, o, c, rfl, -, -, hm, -⟩
  · exact ⟨a, c, rfl, by simp [maxLen]⟩
  · exact ⟨_, c, rfl, hm⟩

set_option maxHeartbeats 1000000 in
theorem reg_badstep (v : Value) (step slack : Int) (w : World) (hs : ¬ stepOk step slack) :
    Calls Try.prog 7 #[v, .int .i64 step, .int .i64 slack] w fun e w' => (∃ u, e = .returned (.tuple #[u, .int .i64 1]) ∧ Nums w' u []) ∧ Below w.heap.size w w' := by
  by_cases h1 : 1 ≤ step ∧ step ≤ 1000000000000000
  · have h2 : slack < 0 ∨ 1000000000000000 < slack := by unfold stepOk at hs; omega
    have H2 := Lib.hid h2
    obtain ⟨s0, s1⟩ := h1
    clear hs h2
    go_enter Try.func7, Try.ntmps7
    go_wp2_with fail
    refine (within_yes _ _ _ _ (by omega) (by omega)).mono ?_; rintro e w' ⟨rfl, rfl⟩
    go_wp2_with fail
    refine (within_no _ _ _ _ H2.out).mono ?_; rintro e w' ⟨rfl, rfl⟩
    go_wp2_with fail
    go_ret2
    exact ⟨⟨_, ret2_vi rfl rfl, .nil _⟩, Below.refl _ _⟩
  · have h2 : step < 1 ∨ 1000000000000000 < step := by omega
    have H2 := Lib.hid h2
    clear hs h1 h2
    go_enter Try.func7, Try.ntmps7
    go_wp2_with fail
    refine (within_no _ _ _ _ H2.out).mono ?_; rintro e w' ⟨rfl, rfl⟩
    go_wp2_with fail
    go_ret2
    exact ⟨⟨_, ret2_vi rfl rfl, .nil _⟩, Below.refl _ _⟩

set_option maxHeartbeats 1000000 in
theorem reg_badrise (v : Value) (zs : List Int) (step slack : Int) (w : World) (hN : Nums w v zs) (hs : stepOk step slack) (hr : riseF zs ≠ 0) :
    Calls Try.prog 7 #[v, .int .i64 step, .int .i64 slack] w fun e w' => (∃ u, e = .returned (.tuple #[u, .int .i64 (riseF zs)]) ∧ Nums w' u []) ∧ Below w.heap.size w w' := by
  obtain ⟨⟨s0, s1⟩, ⟨l0, l1⟩⟩ := hs
  obtain ⟨f, hf⟩ : ∃ f, riseF zs = f := ⟨_, rfl⟩
  rw [hf] at hr
  have HF := Lib.hid hf
  have hb : (f == 0) = false := by simp [hr]
  clear hf
  go_enter Try.func7, Try.ntmps7
  go_wp2_with fail
  refine (within_yes _ _ _ _ (by omega) (by omega)).mono ?_; rintro e w' ⟨rfl, rfl⟩
  go_wp2_with fail
  refine (within_yes _ _ _ _ (by omega) (by omega)).mono ?_; rintro e w' ⟨rfl, rfl⟩
  go_wp2_with fail
  refine (rising_any _ zs _ hN).mono ?_; rintro e w' ⟨rfl, rfl⟩
  rw [HF.out]
  go_wp2_with fail
  go_ret2
  exact ⟨⟨_, ret2_vi rfl HF.out.symm, .nil _⟩, Below.refl _ _⟩

set_option maxHeartbeats 1000000 in
theorem reg_empty (a : Option Addr) (cap : Nat) (step slack : Int) (w : World) (hs : stepOk step slack) :
    Calls Try.prog 7 #[.slice a 0 cap, .int .i64 step, .int .i64 slack] w fun e w' => (∃ u, e = .returned (.tuple #[u, .int .i64 0]) ∧ Nums w' u []) ∧ Below w.heap.size w w' := by
  obtain ⟨i0, hi, hi0, hi1, hi2⟩ := info_parts Try.infoInt
  obtain ⟨⟨s0, s1⟩, ⟨l0, l1⟩⟩ := hs
  go_enter Try.func7, Try.ntmps7
  go_wp2_with fail
  refine (within_yes _ _ _ _ (by omega) (by omega)).mono ?_; rintro e w' ⟨rfl, rfl⟩
  go_wp2_with fail
  refine (within_yes _ _ _ _ (by omega) (by omega)).mono ?_; rintro e w' ⟨rfl, rfl⟩
  go_wp2_with fail
  refine (rising_empty _ _ _).mono ?_; rintro e w' ⟨rfl, rfl⟩
  go_wp2_with (at_make; refine wpList_make_full _ rfl _ _ 22 rfl w.heap.size 3 i0 (.int .i64 0) 1 Try.underlying22 hi hi0 hi1 _ _ _ _ 0 rfl rfl rfl rfl ?c1 ?c2 ?c3 ?_)
  case c1 => rw [hi2]; omega
  case c2 => unfold maxLen; omega
  case c3 => exact Nat.le_refl _
  intro w1 hown hgrow
  have hbel : Below w.heap.size w w1 := (Below.refl _ _).grown hgrow (Nat.le_refl _) (by simp)
  clear hown hgrow
  go_wp2_with fail
  refine wp_loop_rounds 1 ?_
  rw [rounds_succ]
  go_wp2_with fail
  go_ret2
  exact ⟨⟨_, ret2_vi rfl rfl, .inl ⟨_, _, rfl, rfl⟩⟩, hbel⟩

theorem reg_none (step slack : Int) (hs : stepOk step slack) : regF [] step slack = 0 ∧ regL [] step slack = [] := by
  have e : regF [] step slack = 0 := by
    unfold regF
    rw [if_neg (by simpa using hs), if_neg (by simp [riseF, riseTo]), if_pos (by simp [regTo])]
  exact ⟨e, by simp [regL, regTo]⟩

theorem rise_small (zs : List Int) (h : riseF zs = 0) : zs.length ≤ 5000 := by
  unfold riseF at h
  split at h <;> omega

/-- tick.Regular, whatever the input. -/
theorem reg_any (v : Value) (zs : List Int) (step slack : Int) (w : World) (h : Nums w v zs) :
    Calls Try.prog 7 #[v, .int .i64 step, .int .i64 slack] w fun e w' => (∃ u, e = .returned (.tuple #[u, .int .i64 (regF zs step slack)]) ∧ Nums w' u (regL zs step slack)) ∧ Below w.heap.size w w' := by
  by_cases hs : stepOk step slack
  · by_cases hr : riseF zs = 0
    · rcases h with ⟨a, c, rfl, rfl⟩ | ⟨b, o, c, rfl, hne, hlt, hm, hc⟩
      · rw [(reg_none step slack hs).1, (reg_none step slack hs).2]
        exact reg_empty a c step slack w hs
      · exact reg_walk b o _ c zs step slack w rfl (List.length_pos_iff.2 hne) (rise_small zs hr) hs hr hlt hc
    · rw [(reg_rise zs step slack hs hr).1, (reg_rise zs step slack hs hr).2]
      exact reg_badrise v zs step slack w h hs hr
  · rw [(reg_step zs step slack hs).1, (reg_step zs step slack hs).2]
    exact reg_badstep v step slack w hs

set_option maxRecDepth 100000 in
set_option maxHeartbeats 1000000 in
theorem rreg_badstep (a : Option Addr) (n cap : Nat) (step slack : Int) (w : World) (hs : ¬ stepOk step slack) :
    Calls Try.prog 8 #[.slice a n cap, .int .i64 step, .int .i64 slack] w fun e w' => (∃ u, e = .returned (.tuple #[u, .int .i64 1]) ∧ Nums w' u []) ∧ Below w.heap.size w w' := by
  by_cases h1 : step < 1
  · clear hs
    go_enter Try.func8, Try.ntmps8
    go_wp2_with fail
    go_ret2
    exact ⟨⟨_, ret2_vi rfl rfl, .nil _⟩, Below.refl _ _⟩
  · by_cases h2 : 1000000000000000 < step
    · clear hs
      go_enter Try.func8, Try.ntmps8
      go_wp2_with fail
      go_ret2
      exact ⟨⟨_, ret2_vi rfl rfl, .nil _⟩, Below.refl _ _⟩
    · by_cases h3 : slack < 0
      · clear hs
        go_enter Try.func8, Try.ntmps8
        go_wp2_with fail
        go_ret2
        exact ⟨⟨_, ret2_vi rfl rfl, .nil _⟩, Below.refl _ _⟩
      · have h4 : 1000000000000000 < slack := by unfold stepOk at hs; omega
        clear hs
        go_enter Try.func8, Try.ntmps8
        go_wp2_with fail
        go_ret2
        exact ⟨⟨_, ret2_vi rfl rfl, .nil _⟩, Below.refl _ _⟩

set_option maxRecDepth 100000 in
set_option maxHeartbeats 1000000 in
theorem rreg_large (a : Option Addr) (n cap : Nat) (step slack : Int) (w : World) (hs : stepOk step slack) (hn : 5000 < n) (hm : n ≤ maxLen) :
    Calls Try.prog 8 #[.slice a n cap, .int .i64 step, .int .i64 slack] w fun e w' => (∃ u, e = .returned (.tuple #[u, .int .i64 2]) ∧ Nums w' u []) ∧ Below w.heap.size w w' := by
  unfold maxLen at hm
  obtain ⟨⟨s0, s1⟩, ⟨l0, l1⟩⟩ := hs
  go_enter Try.func8, Try.ntmps8
  go_wp2_with fail
  go_ret2
  exact ⟨⟨_, ret2_vi rfl rfl, .nil _⟩, Below.refl _ _⟩

set_option maxRecDepth 100000 in
set_option maxHeartbeats 1000000 in
theorem rreg_empty (a : Option Addr) (cap : Nat) (step slack : Int) (w : World) (hs : stepOk step slack) :
    Calls Try.prog 8 #[.slice a 0 cap, .int .i64 step, .int .i64 slack] w fun e w' => (∃ u, e = .returned (.tuple #[u, .int .i64 0]) ∧ Nums w' u []) ∧ Below w.heap.size w w' := by
  obtain ⟨⟨s0, s1⟩, ⟨l0, l1⟩⟩ := hs
  go_enter Try.func8, Try.ntmps8
  go_wp2_with fail
  refine wp_loop_rounds 1 ?_
  rw [rounds_succ]
  go_wp2_with fail
  refine wp_loop_rounds 1 ?_
  rw [rounds_succ]
  go_wp2_with fail
  refine wp_loop_rounds 1 ?_
  rw [rounds_succ]
  go_wp2_with fail
  go_ret2
  exact ⟨⟨_, ret2_vi rfl rfl, .nil _⟩, Below.refl _ _⟩

/-- The reference's Regular, whatever the input. -/
theorem rreg_any (v : Value) (zs : List Int) (step slack : Int) (w : World) (h : Nums w v zs) :
    Calls Try.prog 8 #[v, .int .i64 step, .int .i64 slack] w fun e w' => (∃ u, e = .returned (.tuple #[u, .int .i64 (regF zs step slack)]) ∧ Nums w' u (regL zs step slack)) ∧ Below w.heap.size w w' := by
  by_cases hs : stepOk step slack
  · rcases h with ⟨a, c, rfl, rfl⟩ | ⟨b, o, c, rfl, hne, hlt, hm, hc⟩
    · rw [(reg_none step slack hs).1, (reg_none step slack hs).2]
      exact rreg_empty a c step slack w hs
    · by_cases h5 : 5000 < zs.length
      · have hr : riseF zs = 2 := by simp [riseF, h5]
        rw [(reg_rise zs step slack hs (by omega)).1, (reg_rise zs step slack hs (by omega)).2, hr]
        exact rreg_large _ _ _ step slack w hs h5 hm
      · exact rreg_walk b o _ c zs step slack w rfl (List.length_pos_iff.2 hne) (by omega) hs hlt hc
  · rw [(reg_step zs step slack hs).1, (reg_step zs step slack hs).2]
    obtain ⟨a, c, rfl, -⟩ := h.parts
    exact rreg_badstep a _ c step slack w hs

theorem beq_refl_list (l : List Int) : (l == l) = true := by simp

set_option maxHeartbeats 1000000 in
theorem regs_match (v : Value) (zs : List Int) (step slack : Int) (w : World) (h : Nums w v zs) :
    Calls Try.prog 3 #[v, .int .i64 step, .int .i64 slack] w fun e w' => e = .returned (.bool true) ∧ Below w.heap.size w w' := by
  go_enter Try.func3, Try.ntmps3
  go_wp2_with fail
  refine (reg_any _ zs _ _ _ h).mono ?_; rintro e w1 ⟨⟨u1, rfl, n1⟩, b1⟩
  go_wp2_with fail
  have h1 := h.below b1 (Nat.le_refl _)
  refine (rreg_any _ zs _ _ _ h1).mono ?_; rintro e w2 ⟨⟨u2, rfl, n2⟩, b2⟩
  have n1' := n1.below b2 (Nat.le_refl _)
  have bel : Below w.heap.size w w2 := b1.trans (b2.mono b1.size)
  clear h h1 n1 b1 b2
  go_wp2_with fail
  refine (equal_any _ _ _ _ _ n1' n2).mono ?_; rintro e w' ⟨rfl, q1, rfl⟩
  rw [beq_refl_list]
  go_wp2_with fail
  refine (awake_any _).mono ?_; rintro e w' ⟨rfl, q3, rfl⟩
  go_wp2_with fail
  go_ret
  exact ⟨rfl, by repeat (first | exact bel | apply below_drewN)⟩

end Go.Proofs.Ytnjmjdbilblieab
