/- tick.Regular, whatever the input. -/
import Derived.Test.YtgpiagdldcnijabRegTick
namespace Go.Proofs.Ytgpiagdldcnijab
set_option linter.unusedVariables false
set_option linter.unusedSimpArgs false
open Go.RowKit

theorem reg_rise (zs : List Int) (step slack : Int) (hs : stepOk step slack) (hr : riseF zs ≠ 0) : regF zs step slack = riseF zs ∧ regL zs step slack = [] := by
  have e : regF zs step slack = riseF zs := by unfold regF; rw [if_neg (by simpa using hs), if_pos hr]
  exact ⟨e, by rw [regL, if_neg (by omega)]⟩
theorem reg_step (zs : List Int) (step slack : Int) (hs : ¬ stepOk step slack) : regF zs step slack = 1 ∧ regL zs step slack = [] := by
  have e : regF zs step slack = 1 := by unfold regF; rw [if_pos hs]
  exact ⟨e, by rw [regL, if_neg (by omega)]⟩

theorem Nums.parts {w : World} {v : Value} {zs : List Int} (h : Nums w v zs) : ∃ a cap, v = .slice a zs.length cap ∧ zs.length ≤ maxLen := by
  rcases h with ⟨a, c, rfl, rfl⟩ | ⟨b, o, c, rfl, -, -, hm, -⟩
  · exact ⟨a, c, rfl, by simp [maxLen]⟩
  · exact ⟨_, c, rfl, hm⟩

set_option maxHeartbeats 1000000 in
theorem reg_badstep (v : Value) (step slack : Int) (w : World) (hs : ¬ stepOk step slack) :
    Calls Try.prog 94 #[v, .int .i64 step, .int .i64 slack] w fun e w' => (∃ u, e = .returned (.tuple #[u, .int .i64 1]) ∧ Nums w' u []) ∧ Below w.heap.size w w' := by
  by_cases h1 : 1 ≤ step ∧ step ≤ 1000000000000000
  · have h2 : slack < 0 ∨ 1000000000000000 < slack := by unfold stepOk at hs; omega
    have H2 := Lib.hid h2
    obtain ⟨s0, s1⟩ := h1
    clear hs h2
    go_enter Try.func94, Try.ntmps94
    go_wp2_with fail
    refine (within_yes _ _ _ _ (by omega) (by omega)).mono ?_; rintro e w' ⟨rfl, rfl⟩
    go_wp2_with fail
    refine (within_no _ _ _ _ H2.out).mono ?_; rintro e w' ⟨rfl, rfl⟩
    go_wp2_with fail
    go_ret2
    exact ⟨⟨_, ret2_vi rfl rfl, .nil _⟩, Below.refl _ _⟩
  · have h2 : step < 1 ∨ 1000000000000000 < step := by omega
    have H2 := Lib.hid h2
    clear hs h1 h2
    go_enter Try.func94, Try.ntmps94
    go_wp2_with fail
    refine (within_no _ _ _ _ H2.out).mono ?_; rintro e w' ⟨rfl, rfl⟩
    go_wp2_with fail
    go_ret2
    exact ⟨⟨_, ret2_vi rfl rfl, .nil _⟩, Below.refl _ _⟩

set_option maxHeartbeats 1000000 in
theorem reg_badrise (v : Value) (zs : List Int) (step slack : Int) (w : World) (hN : Nums w v zs) (hs : stepOk step slack) (hr : riseF zs ≠ 0) :
    Calls Try.prog 94 #[v, .int .i64 step, .int .i64 slack] w fun e w' => (∃ u, e = .returned (.tuple #[u, .int .i64 (riseF zs)]) ∧ Nums w' u []) ∧ Below w.heap.size w w' := by
  obtain ⟨⟨s0, s1⟩, ⟨l0, l1⟩⟩ := hs
  obtain ⟨f, hf⟩ : ∃ f, riseF zs = f := ⟨_, rfl⟩
  rw [hf] at hr
  have HF := Lib.hid hf
  have hb : (f == 0) = false := by simp [hr]
  clear hf
  go_enter Try.func94, Try.ntmps94
  go_wp2_with fail
  refine (within_yes _ _ _ _ (by omega) (by omega)).mono ?_; rintro e w' ⟨rfl, rfl⟩
  go_wp2_with fail
  refine (within_yes _ _ _ _ (by omega) (by omega)).mono ?_; rintro e w' ⟨rfl, rfl⟩
  go_wp2_with fail
  refine (rising_any _ zs _ hN).mono ?_; rintro e w' ⟨rfl, rfl⟩
  rw [HF.out]
  go_wp2_with fail
  go_ret2
  exact ⟨⟨_, ret2_vi rfl HF.out.symm, .nil _⟩, Below.refl _ _⟩

set_option maxHeartbeats 1000000 in
theorem reg_empty (a : Option Addr) (cap : Nat) (step slack : Int) (w : World) (hs : stepOk step slack) :
    Calls Try.prog 94 #[.slice a 0 cap, .int .i64 step, .int .i64 slack] w fun e w' => (∃ u, e = .returned (.tuple #[u, .int .i64 0]) ∧ Nums w' u []) ∧ Below w.heap.size w w' := by
  obtain ⟨i0, hi, hi0, hi1, hi2⟩ := info_parts Try.infoInt
  obtain ⟨⟨s0, s1⟩, ⟨l0, l1⟩⟩ := hs
  go_enter Try.func94, Try.ntmps94
  go_wp2_with fail
  refine (within_yes _ _ _ _ (by omega) (by omega)).mono ?_; rintro e w' ⟨rfl, rfl⟩
  go_wp2_with fail
  refine (within_yes _ _ _ _ (by omega) (by omega)).mono ?_; rintro e w' ⟨rfl, rfl⟩
  go_wp2_with fail
  refine (rising_empty _ _ _).mono ?_; rintro e w' ⟨rfl, rfl⟩
  go_wp2_with (at_make; refine wpList_make_full _ rfl _ _ 34 rfl w.heap.size 3 i0 (.int .i64 0) 1 Try.underlying34 hi hi0 hi1 _ _ _ _ 0 rfl rfl rfl rfl ?c1 ?c2 ?c3 ?_)
  case c1 => rw [hi2]; omega
  case c2 => unfold maxLen; omega
  case c3 => exact Nat.le_refl _
  intro w1 hown hgrow
  have hbel : Below w.heap.size w w1 := (Below.refl _ _).grown hgrow (Nat.le_refl _) (by simp)
  clear hown hgrow
  go_wp2_with fail
  refine wp_loop_rounds 1 ?_
  rw [rounds_succ]
  go_wp2_with fail
  go_ret2
  exact ⟨⟨_, ret2_vi rfl rfl, .inl ⟨_, _, rfl, rfl⟩⟩, hbel⟩

theorem reg_none (step slack : Int) (hs : stepOk step slack) : regF [] step slack = 0 ∧ regL [] step slack = [] := by
  have e : regF [] step slack = 0 := by
    unfold regF
    rw [if_neg (by simpa using hs), if_neg (by simp [riseF, riseTo]), if_pos (by simp [regTo])]
  exact ⟨e, by simp [regL, regTo]⟩

theorem rise_small (zs : List Int) (h : riseF zs = 0) : zs.length ≤ 5000 := by
  unfold riseF at h
  split at h <;> omega

/-- tick.Regular, whatever the input. -/
theorem reg_any (v : Value) (zs : List Int) (step slack : Int) (w : World) (h : Nums w v zs) :
    Calls Try.prog 94 #[v, .int .i64 step, .int .i64 slack] w fun e w' => (∃ u, e = .returned (.tuple #[u, .int .i64 (regF zs step slack)]) ∧ Nums w' u (regL zs step slack)) ∧ Below w.heap.size w w' := by
  by_cases hs : stepOk step slack
  · by_cases hr : riseF zs = 0
    · rcases h with ⟨a, c, rfl, rfl⟩ | ⟨b, o, c, rfl, hne, hlt, hm, hc⟩
      · rw [(reg_none step slack hs).1, (reg_none step slack hs).2]
        exact reg_empty a c step slack w hs
      · exact reg_walk b o _ c zs step slack w rfl (List.length_pos_iff.2 hne) (rise_small zs hr) hs hr hlt hc
    · rw [(reg_rise zs step slack hs hr).1, (reg_rise zs step slack hs hr).2]
      exact reg_badrise v zs step slack w h hs hr
  · rw [(reg_step zs step slack hs).1, (reg_step zs step slack hs).2]
    exact reg_badstep v step slack w hs


theorem reg_form {zs : List Int} {step slack : Int} (h : regF zs step slack = 0) : stepOk step slack ∧ riseF zs = 0 ∧ regL zs step slack = (regTo step slack zs zs.length).1 ∧ ∀ t ∈ (regTo step slack zs zs.length).1, isTimeN t := by
  have hl : regL zs step slack = (regTo step slack zs zs.length).1 := by rw [regL, if_pos h]
  unfold regF at h
  split at h
  · omega
  · rename_i h1
    split at h
    · omega
    · split at h
      · exact ⟨Decidable.byContradiction h1, by omega, hl, by assumption⟩
      · omega

end Go.Proofs.Ytgpiagdldcnijab
