/- Small functions of package box: within, isTime, faultIf. -/
import Derived.Test.YtiphipgheadakaaRows
import Derived.WalkKit
import Derived.WalkSpells
import Derived.WalkLawsBesides
import Derived.Handy
import Derived.Lib.Hide
import Derived.Test.YtiphipgheadakaaBoxPlain
namespace Go.Proofs.Ytiphipgheadakaa
set_option linter.unusedVariables false
set_option linter.unusedSimpArgs false
open Go.RowKit

theorem bret_bool {a b : Bool} (h : a = b) : Ending.returned (.bool a) = .returned (.bool b) := by rw [h]
theorem bret_int {k : IntKind} {a b : Int} (h : a = b) : Ending.returned (.int k a) = .returned (.int k b) := by rw [h]

theorem bwithin_any (n a b : Int) (w : World) :
    Calls Try.prog 47 #[.int .i64 n, .int .i64 a, .int .i64 b] w fun e w' => e = .returned (.bool (inB n a b)) ∧ w = w' := by
  by_cases h1 : a ≤ n
  · by_cases h2 : n ≤ b
    · have e : inB n a b = true := by simp [inB, h1, h2]
      have E := Lib.hid e
      clear e
      go_enter Try.func47, Try.ntmps47
      go_wp2
      go_ret
      exact ⟨bret_bool (by rw [E.out]; try simp; try omega), rfl⟩
    · have e : inB n a b = false := by simp [inB, h2]
      have d : decide (n ≤ b) = false := by simp only [decide_eq_false_iff_not]; exact h2
      have E := Lib.hid e
      clear e
      go_enter Try.func47, Try.ntmps47
      go_wp2
      go_ret
      exact ⟨bret_bool (by rw [E.out]; try simp; try omega), rfl⟩
  · have e : inB n a b = false := by simp [inB, h1]
    have d : decide (a ≤ n) = false := by simp only [decide_eq_false_iff_not]; exact h1
    have E := Lib.hid e
    clear e
    go_enter Try.func47, Try.ntmps47
    go_wp2
    go_ret
    exact ⟨bret_bool (by rw [E.out]; try simp; try omega), rfl⟩
theorem bfaultIf_any (b : Bool) (f : Int) (w : World) :
    Calls Try.prog 41 #[.bool b, .int .i64 f] w fun e w' => e = .returned (.int .i64 (fIf b f)) ∧ w = w' := by
  cases b
  all_goals
    go_enter Try.func41, Try.ntmps41
    go_wp2
    go_ret
    exact ⟨rfl, rfl⟩

set_option maxHeartbeats 1000000 in
theorem bfirst_any (g off n cap : Nat) (zs : List Int) (w : World) (hz : zs.length = n) (hn : n ≤ 1000) (hc : ∀ j, j < n → w.cell? ⟨g, off + j, none⟩ = some (.int .i64 (zs.getD j 0))) :
    Calls Try.prog 40 #[.slice (some ⟨g, off, none⟩) n cap] w fun e w' => e = .returned (.int .i64 (fstF zs)) ∧ w = w' := by
  have HZ := Lib.hid hz; have HC := Lib.hid hc
  clear hz hc
  go_enter Try.func40, Try.ntmps40
  go_wp2_with fail
  go_loopw [7] (fun v wr => ∃ k : Nat, k ≤ n ∧ v = .int .i64 k ∧ Hid (fstF (zs.drop k) = fstF zs) ∧ w = wr) (fun v _ => n - (intOf v).toNat)
  case atStart => exact ⟨0, Nat.zero_le _, rfl, Lib.hid rfl, rfl⟩
  case round =>
    obtain ⟨k, hk, rfl, HK, rfl⟩ := hrel
    by_cases hlt : k < n
    · have hck := HC.out k hlt
      have hst := fstF_drop zs k (by rw [HZ.out]; exact hlt)
      rw [HK.out] at hst
      obtain ⟨x, hx⟩ : ∃ x, zs.getD k 0 = x := ⟨_, rfl⟩
      rw [hx] at hck hst
      clear hx
      by_cases h0 : x = 0
      · rw [if_pos h0] at hst
        have HST := Lib.hid hst.symm
        subst h0
        clear hst
        go_wp2_with fail
        go_roundw
        case rel => exact ⟨k + 1, by omega, by go_num, HST, trivial⟩
        case measure => simp [intOf]; omega
      · rw [if_neg h0] at hst
        have HST := Lib.hid hst
        have hne : (x == 0) = false := by simp; exact h0
        have hne2 : (x != 0) = true := by simp; exact h0
        clear hst h0
        go_wp2_with fail
        go_ret
        exact ⟨bret_int HST.out.symm, rfl⟩
    · have hkn : k = n := by omega
      have hfin : fstF zs = 0 := by rw [← HK.out, List.drop_of_length_le (by have := HZ.out; omega)]; rfl
      have HFIN := Lib.hid hfin
      have hlt' : decide (k < n) = false := by simp only [decide_eq_false_iff_not]; exact hlt
      clear hfin hlt hkn
      go_wp2_with fail
      go_ret
      exact ⟨bret_int HFIN.out.symm, rfl⟩

end Go.Proofs.Ytiphipgheadakaa
