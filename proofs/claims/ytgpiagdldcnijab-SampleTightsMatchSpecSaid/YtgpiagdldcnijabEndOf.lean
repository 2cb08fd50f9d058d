/- endOf of package box. -/
import Derived.Test.YtgpiagdldcnijabSmps
import Derived.Below
namespace Go.Proofs.Ytgpiagdldcnijab
set_option linter.unusedVariables false
set_option linter.unusedSimpArgs false
open Go.RowKit Go.Deep

set_option maxRecDepth 100000 in
set_option maxHeartbeats 1000000 in
theorem endOf_any (a : Option Addr) (n cap : Nat) (ss : List Smp) (w : World) (hv : Smps w (.slice a n cap) ss) (hn : ss.length = n) (hm : n ≤ 1000000)
    (hb : 0 < n → -2000000000000000 ≤ (ss.getD (n - 1) smp0).t ∧ (ss.getD (n - 1) smp0).t ≤ 2000000000000000 ∧ -2000000000000000 ≤ (ss.getD (n - 1) smp0).s ∧ (ss.getD (n - 1) smp0).s ≤ 2000000000000000) :
    Calls Try.prog 132 #[.slice a n cap] w fun e w' => e = .returned (.int .i64 (endV ss)) ∧ Below w.heap.size w w' := by
  by_cases h0 : n = 0
  · subst h0
    have he : endV ss = 0 := by unfold endV; rw [if_pos hn]
    have HE := Lib.hid he
    clear he hn hv hb
    go_enter Try.func132, Try.ntmps132
    go_wp2_with fail
    go_ret
    exact ⟨bret_int HE.out.symm, Below.refl _ _⟩
  · obtain ⟨b0, b1, b2, b3⟩ := hb (by omega)
    have he : endV ss = (ss.getD (n - 1) smp0).t + (ss.getD (n - 1) smp0).s := by unfold endV; rw [if_neg (by omega), hn]
    have hcells : ∃ b off, a = some ⟨b, off, none⟩ := by
      rcases hv with ⟨a', c', hv, h1⟩ | ⟨b', off', cap', hv, -⟩
      · omega
      · simp only [Value.slice.injEq] at hv; exact ⟨_, _, hv.1⟩
    obtain ⟨b, off, rfl⟩ := hcells
    obtain ⟨k0, k1, k2, k3, k4⟩ := hv.cells (n - 1) (by omega)
    have hlt : b < w.heap.size := World.block_lt_of_cell? w _ k0
    generalize ss.getD (n - 1) smp0 = y at *
    obtain ⟨t, s, h, z, k⟩ := y
    simp only at b0 b1 b2 b3 he k0 k1 k2 k3 k4
    obtain ⟨m, hmn⟩ : ∃ m, n - 1 = m := ⟨_, rfl⟩
    rw [hmn] at k0 k1 k2 k3 k4
    have hn1 : IntKind.i64.wrap ((n : Int) - 1) = (m : Int) := by rw [show (n : Int) - 1 = (m : Int) by omega]; exact IntWalk.i64_in _ ⟨by omega, by omega⟩
    have hn2 : ((n : Int) == 0) = false := by simp; omega
    have hm0 : m < n := by omega
    have HE := Lib.hid he
    clear he hn hv hmn h0 hb
    go_enter Try.func132, Try.ntmps132
    go_wp2_with fail
    go_ret
    exact ⟨bret_int HE.out.symm, (Below.refl _ _).alloc (Nat.le_refl _) _⟩

end Go.Proofs.Ytgpiagdldcnijab
