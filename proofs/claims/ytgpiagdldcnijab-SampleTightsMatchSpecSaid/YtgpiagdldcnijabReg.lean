/- tick.Regular: what it returns, by plain functions. -/
import Derived.Test.YtgpiagdldcnijabInts
namespace Go.Proofs.Ytgpiagdldcnijab
set_option linter.unusedVariables false
set_option linter.unusedSimpArgs false
open Go.RowKit

theorem Try.infoInt : (Try.prog.info? 3).map (fun i => (i.zero, i.size, i.bytes)) = some (some (.int .i64 0), 1, 8) := by kernel_rfl

/-- The fault of the first k times: one that is none, or less than the one before it. -/
def riseTo (zs : List Int) : Nat → Int
  | 0 => 0
  | k + 1 => if riseTo zs k ≠ 0 then riseTo zs k else if ¬ isTimeN (zs.getD k 0) then 1 else if 0 < k ∧ zs.getD k 0 < zs.getD (k - 1) 0 then 8 else 0
def riseF (zs : List Int) : Int := if 5000 < zs.length then 2 else riseTo zs zs.length

theorem riseTo_bad (zs : List Int) (k : Nat) (h : riseTo zs k ≠ 0) : ∀ d, riseTo zs (k + d) = riseTo zs k
  | 0 => rfl
  | d + 1 => by
    have ih := riseTo_bad zs k h d
    rw [show k + (d + 1) = (k + d) + 1 by omega, riseTo, if_pos (by rw [ih]; exact h), ih]

theorem riseTo_zero (zs : List Int) : ∀ (k : Nat), riseTo zs k = 0 → (∀ j, j < k → isTimeN (zs.getD j 0)) ∧ ∀ j, 0 < j → j < k → zs.getD (j - 1) 0 ≤ zs.getD j 0
  | 0, _ => ⟨fun j hj => by omega, fun j _ hj => by omega⟩
  | k + 1, h => by
    unfold riseTo at h
    split at h
    · contradiction
    · rename_i h0
      obtain ⟨i1, i2⟩ := riseTo_zero zs k (by omega)
      split at h
      · omega
      · rename_i ht
        split at h
        · omega
        · rename_i hl
          constructor
          · intro j hj
            by_cases hjk : j = k
            · subst hjk; exact Decidable.byContradiction ht
            · exact i1 j (by omega)
          · intro j h1 hj
            by_cases hjk : j = k
            · subst hjk; omega
            · exact i2 j h1 (by omega)

theorem riseTo_step (zs : List Int) (k : Nat) (h : riseTo zs k = 0) : riseTo zs (k + 1) = if ¬ isTimeN (zs.getD k 0) then 1 else if 0 < k ∧ zs.getD k 0 < zs.getD (k - 1) 0 then 8 else 0 := by
  rw [riseTo, if_neg (by omega)]

/-- The time on a grid that is nearest to n. -/
def nearQ (g step n : Int) : Int := g + (n - g + step / 2) / step * step

theorem near_bd (g step n : Int) (hs : 1 ≤ step) (hg : g ≤ n) : g ≤ nearQ g step n ∧ nearQ g step n ≤ n + step / 2 := by
  have h1 := Int.mul_ediv_add_emod (n - g + step / 2) step
  have h2 := Int.emod_nonneg (n - g + step / 2) (show step ≠ 0 by omega)
  have h3 : 0 ≤ (n - g + step / 2) / step * step := Int.mul_nonneg (Int.ediv_nonneg (by omega) (by omega)) (by omega)
  unfold nearQ
  rw [Int.mul_comm] at h1
  omega

theorem near_eq (g step n : Int) (hs : 1 ≤ step) (hg : g ≤ n) : nearQ g step n = if step ≤ 2 * (n - (g + (n - g) / step * step)) then g + (n - g) / step * step + step else g + (n - g) / step * step := by
  have h1 := Int.mul_ediv_add_emod (n - g) step
  have h2 := Int.emod_nonneg (n - g) (show step ≠ 0 by omega)
  have h3 := Int.emod_lt_of_pos (n - g) (show 0 < step by omega)
  have e : n - g + step / 2 = ((n - g) % step + step / 2) + step * ((n - g) / step) := by omega
  unfold nearQ
  rw [e, Int.add_mul_ediv_left _ _ (by omega), Int.add_mul, Int.mul_comm step] at *
  generalize (n - g) / step * step = q at *
  generalize (n - g) % step = r at *
  by_cases hr : step ≤ 2 * r
  · have : (r + step / 2) / step = 1 := by
      rw [show r + step / 2 = (r + step / 2 - step) + step * 1 by omega, Int.add_mul_ediv_left _ _ (by omega), Int.ediv_eq_zero_of_lt (by omega) (by omega)]
      rfl
    rw [this, if_pos (by omega)]
    omega
  · rw [Int.ediv_eq_zero_of_lt (by omega) (by omega), if_neg (by omega)]
    omega

/-- The results of the first k times, and the beginning of the grid. -/
def regTo (step slack : Int) (zs : List Int) : Nat → List Int × Int
  | 0 => ([], 0)
  | k + 1 =>
    if k = 0 ∨ slack < ((nearQ (regTo step slack zs k).2 step (zs.getD k 0) - zs.getD k 0).natAbs : Int) ∨ nearQ (regTo step slack zs k).2 step (zs.getD k 0) ≤ (regTo step slack zs k).1.getD (k - 1) 0
    then ((regTo step slack zs k).1 ++ [zs.getD k 0], zs.getD k 0)
    else ((regTo step slack zs k).1 ++ [nearQ (regTo step slack zs k).2 step (zs.getD k 0)], (regTo step slack zs k).2)

theorem regTo_len (step slack : Int) (zs : List Int) : ∀ k, (regTo step slack zs k).1.length = k
  | 0 => rfl
  | k + 1 => by
    have := regTo_len step slack zs k
    unfold regTo
    split <;> simp [this]

theorem regTo_begin (step slack : Int) (zs : List Int) (n : Nat) (h : riseTo zs n = 0) : ∀ k, k + 1 ≤ n → (regTo step slack zs (k + 1)).2 ≤ zs.getD k 0 ∧ isTimeN (regTo step slack zs (k + 1)).2
  | 0, hk => by
    obtain ⟨h1, h2⟩ := riseTo_zero zs n h
    rw [regTo, if_pos (.inl rfl)]
    exact ⟨Int.le_refl _, h1 0 (by omega)⟩
  | k + 1, hk => by
    obtain ⟨h1, h2⟩ := riseTo_zero zs n h
    obtain ⟨i1, i2⟩ := regTo_begin step slack zs n h k (by omega)
    rw [regTo]
    split
    · exact ⟨Int.le_refl _, h1 (k + 1) (by omega)⟩
    · have := h2 (k + 1) (by omega) (by omega)
      rw [Nat.add_sub_cancel] at this
      exact ⟨by show (regTo step slack zs (k + 1)).2 ≤ _; omega, i2⟩

def stepOk (step slack : Int) : Prop := (1 ≤ step ∧ step ≤ 1000000000000000) ∧ (0 ≤ slack ∧ slack ≤ 1000000000000000)
instance (a b : Int) : Decidable (stepOk a b) := by unfold stepOk; infer_instance

def regF (zs : List Int) (step slack : Int) : Int := if ¬ stepOk step slack then 1 else if riseF zs ≠ 0 then riseF zs else if ∀ t ∈ (regTo step slack zs zs.length).1, isTimeN t then 0 else 1
def regL (zs : List Int) (step slack : Int) : List Int := if regF zs step slack = 0 then (regTo step slack zs zs.length).1 else []

theorem regTo_mem (step slack : Int) (zs : List Int) (k : Nat) : ∀ d, ∀ t ∈ (regTo step slack zs k).1, t ∈ (regTo step slack zs (k + d)).1
  | 0, t, h => h
  | d + 1, t, h => by
    have ih := regTo_mem step slack zs k d t h
    rw [show k + (d + 1) = (k + d) + 1 by omega, regTo]
    split <;> exact List.mem_append_left _ ih

theorem reg_bad (zs : List Int) (step slack : Int) (n k : Nat) (hz : zs.length = n) (hs : stepOk step slack) (hr : riseF zs = 0) (hk : k ≤ n) (t : Int) (h : t ∈ (regTo step slack zs k).1) (ht : ¬ isTimeN t) :
    regF zs step slack = 1 ∧ regL zs step slack = [] := by
  have e : regF zs step slack = 1 := by
    unfold regF
    rw [if_neg (by simpa using hs), if_neg (by omega), if_neg]
    intro h2
    have := regTo_mem step slack zs k (n - k) t h
    rw [show k + (n - k) = n by omega, ← hz] at this
    exact ht (h2 t this)
  exact ⟨e, by rw [regL, if_neg (by omega)]⟩

theorem reg_good (zs : List Int) (step slack : Int) (n : Nat) (hz : zs.length = n) (hs : stepOk step slack) (hr : riseF zs = 0) (h : ∀ t ∈ (regTo step slack zs n).1, isTimeN t) :
    regF zs step slack = 0 ∧ regL zs step slack = (regTo step slack zs n).1 := by
  have e : regF zs step slack = 0 := by
    unfold regF
    rw [if_neg (by simpa using hs), if_neg (by omega), hz, if_pos h]
  exact ⟨e, by rw [regL, if_pos e, hz]⟩

set_option maxHeartbeats 400000 in
theorem nearest_any (g step n : Int) (w : World) (hs : 1 ≤ step) (hs2 : step ≤ 1000000000000000) (hg : g ≤ n) (hg0 : -1000000000000000 ≤ g) (hn : n ≤ 1000000000000000) :
    Calls Try.prog 144 #[.int .i64 g, .int .i64 step, .int .i64 n] w fun e w' => e = .returned (.int .i64 (nearQ g step n)) ∧ w = w' := by
  obtain ⟨b1, b2⟩ := near_bd g step n hs hg
  have e1 : (step == 0) = false := by simp; omega
  have b3 : 0 ≤ (n - g + step / 2) / step := Int.ediv_nonneg (by omega) (by omega)
  have b4 : 0 ≤ (n - g + step / 2) / step * step := Int.mul_nonneg b3 (by omega)
  have b5 : (n - g + step / 2) / step * step ≤ n - g + step / 2 := Int.ediv_mul_le _ (by omega)
  have b6 : (n - g + step / 2) / step ≤ n - g + step / 2 := Int.ediv_le_self _ (by omega)
  unfold nearQ at b1 b2
  have E : Hid (nearQ g step n = g + (n - g + step / 2) / step * step) := Lib.hid rfl
  go_enter Try.func144, Try.ntmps144
  go_wp2
  go_ret
  exact ⟨ret_int E.out.symm, rfl⟩

set_option maxHeartbeats 1000000 in
theorem rising_walk (b off n cap : Nat) (zs : List Int) (w : World) (hz : zs.length = n) (hn : n ≤ 5000)
    (hc : ∀ j, j < n → w.cell? ⟨b, off + j, none⟩ = some (.int .i64 (zs.getD j 0))) :
    Calls Try.prog 143 #[.slice (some ⟨b, off, none⟩) n cap] w fun e w' => e = .returned (.int .i64 (riseF zs)) ∧ w = w' := by
  have hF : riseF zs = riseTo zs n := by unfold riseF; rw [hz, if_neg (by omega)]
  have HF := Lib.hid hF; have HZ := Lib.hid hz; have HC := Lib.hid hc
  clear hF hz hc
  go_enter Try.func143, Try.ntmps143
  go_wp2_with fail
  go_loop [10] (fun i => ∃ k : Nat, k ≤ n ∧ i = .int .i64 k ∧ Hid (riseTo zs k = 0)) (fun i => n - (intOf i).toNat)
  case atStart => exact ⟨0, Nat.zero_le _, rfl, Lib.hid rfl⟩
  case round =>
    obtain ⟨k, hk, rfl, HR⟩ := hrel
    by_cases hlt : k < n
    · obtain ⟨z, hz⟩ : ∃ z, zs.getD k 0 = z := ⟨_, rfl⟩
      have hcell : w.cell? ⟨b, off + k, none⟩ = some (.int .i64 z) := by rw [HC.out k hlt, hz]
      have hs := riseTo_step zs k HR.out
      have hbad := fun h => riseTo_bad zs (k + 1) h (n - (k + 1))
      rw [show k + 1 + (n - (k + 1)) = n by omega] at hbad
      rw [hz] at hs
      by_cases ht : isTimeN z
      · have T := Lib.hid ht
        rw [if_neg (by simpa using ht)] at hs
        by_cases hk0 : k < 1
        · rw [if_neg (by omega)] at hs
          have HS := Lib.hid hs
          clear hs hbad hz ht
          go_wp2_with (go_at_call 63; refine (isTime_yes _ _ T.out).mono ?_; rintro e w' ⟨rfl, rfl⟩)
          go_round
          case rel => exact ⟨k + 1, by omega, by go_num, HS⟩
          case measure => simp [intOf]; omega
        · obtain ⟨j, rfl⟩ : ∃ j, k = j + 1 := ⟨k - 1, by omega⟩
          obtain ⟨y, hy⟩ : ∃ y, zs.getD j 0 = y := ⟨_, rfl⟩
          have hcell2 : w.cell? ⟨b, off + j, none⟩ = some (.int .i64 y) := by rw [HC.out j (by omega), hy]
          rw [Nat.add_sub_cancel, hy] at hs
          by_cases hzy : z < y
          · rw [if_pos ⟨by omega, hzy⟩] at hs
            have hf : riseF zs = 8 := by rw [HF.out, hbad (by omega), hs]
            have HF8 := Lib.hid hf
            clear hs hbad hz ht hy hf
            go_wp2_with (go_at_call 63; refine (isTime_yes _ _ T.out).mono ?_; rintro e w' ⟨rfl, rfl⟩)
            go_ret
            exact ⟨ret_int HF8.out.symm, rfl⟩
          · rw [if_neg (by omega)] at hs
            have HS := Lib.hid hs
            clear hs hbad hz ht hy
            go_wp2_with (go_at_call 63; refine (isTime_yes _ _ T.out).mono ?_; rintro e w' ⟨rfl, rfl⟩)
            go_round
            case rel => exact ⟨j + 1 + 1, by omega, by go_num, HS⟩
            case measure => simp [intOf]; omega
      · rw [if_pos ht] at hs
        have hf : riseF zs = 1 := by rw [HF.out, hbad (by omega), hs]
        have HF1 := Lib.hid hf
        have T := Lib.hid ht
        clear hs hbad hz ht hf
        go_wp2_with (go_at_call 63; refine (isTime_no _ _ T.out).mono ?_; rintro e w' ⟨rfl, rfl⟩)
        go_ret
        exact ⟨ret_int HF1.out.symm, rfl⟩
    · have hf : riseF zs = 0 := by rw [HF.out, show n = k by omega]; exact HR.out
      have HF0 := Lib.hid hf
      clear hf
      go_wp2
      go_ret
      exact ⟨ret_int HF0.out.symm, rfl⟩

theorem rising_large (a : Option Addr) (n cap : Nat) (w : World) (hn : 5000 < n) (hm : n ≤ maxLen) :
    Calls Try.prog 143 #[.slice a n cap] w fun e w' => e = .returned (.int .i64 2) ∧ w = w' := by
  unfold maxLen at hm
  go_enter Try.func143, Try.ntmps143
  go_wp2
  go_ret
  exact ⟨rfl, rfl⟩

theorem rising_empty (a : Option Addr) (cap : Nat) (w : World) :
    Calls Try.prog 143 #[.slice a 0 cap] w fun e w' => e = .returned (.int .i64 0) ∧ w = w' := by
  go_enter Try.func143, Try.ntmps143
  go_wp2_with fail
  refine wp_loop_rounds 1 ?_
  rw [rounds_succ]
  go_wp2
  go_ret
  exact ⟨rfl, rfl⟩

theorem rising_any (v : Value) (zs : List Int) (w : World) (h : Nums w v zs) :
    Calls Try.prog 143 #[v] w fun e w' => e = .returned (.int .i64 (riseF zs)) ∧ w = w' := by
  rcases h with ⟨a, c, rfl, rfl⟩ | ⟨b, o, c, rfl, hne, hlt, hm, hc⟩
  · have : riseF [] = 0 := by simp [riseF, riseTo]
    rw [this]
    exact rising_empty a c w
  · by_cases h5 : 5000 < zs.length
    · have : riseF zs = 2 := by simp [riseF, h5]
      rw [this]
      exact rising_large _ _ _ w h5 hm
    · exact rising_walk b o _ c zs w rfl (by omega) hc

end Go.Proofs.Ytgpiagdldcnijab
