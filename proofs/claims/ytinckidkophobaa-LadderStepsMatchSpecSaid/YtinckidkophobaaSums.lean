/- Sums of numbers (program and reference). -/
import Derived.Test.YtinckidkophobaaBox0
import Derived.Test.YtinckidkophobaaInts
import Derived.Test.YtinckidkophobaaRowPlain
import Derived.Deep.QuietTactic
import Derived.BigQuiet
import Derived.Deep.SlicePairs
namespace Go.Proofs.Ytinckidkophobaa
set_option linter.unusedVariables false
set_option linter.unusedSimpArgs false
open Go.RowKit Go.Deep

theorem psum_in {f : Nat → Int} {n k : Nat} (hn : n ≤ 500) (hf : ∀ j, j < n → 0 ≤ f j ∧ f j ≤ 1000000000) (hk : k ≤ n) : 0 ≤ psum f k ∧ psum f k ≤ 500000000000 := by
  have h := psum_bd (f := f) (a := 0) (c := 1000000000) k (fun j hj => hf j (by omega))
  omega
set_option maxHeartbeats 1000000 in
theorem sum_walk (b off n cap : Nat) (f : Nat → Int) (w : World) (hn : n ≤ 500) (hf : ∀ j, j < n → 0 ≤ f j ∧ f j ≤ 1000000000) (hc : ∀ j, j < n → w.cell? ⟨b, off + j, none⟩ = some (.int .i64 (f j))) :
    Calls Try.prog 63 #[.slice (some ⟨b, off, none⟩) n cap] w fun e w' => e = .returned (.int .i64 (psum f n)) ∧ w = w' := by
  have HC := Lib.hid hc
  have HF := Lib.hid hf
  clear hc hf
  go_enter Try.func63, Try.ntmps63
  go_wp2_with fail
  go_loopw [3, 8] (fun v3 v wr => ∃ (k : Nat) (S : Int), k ≤ n ∧ v = .int .i64 k ∧ v3 = .int .i64 S ∧ Hid (psum f k = S) ∧ w = wr) (fun _ v _ => n - (intOf v).toNat)
  case atStart => exact ⟨0, 0, by omega, rfl, rfl, Lib.hid rfl, rfl⟩
  case round =>
    obtain ⟨k, S, hk, rfl, rfl, HS, rfl⟩ := hrel
    by_cases hlt : k < n
    · have d0 := HC.out k hlt
      obtain ⟨x, hx⟩ : ∃ x, f k = x := ⟨_, rfl⟩
      have h1 := psum_in hn HF.out (show k + 1 ≤ n by omega)
      have e1 : psum f (k + 1) = S + x := by rw [psum, HS.out, hx]
      rw [e1] at h1
      rw [hx] at d0
      have E1 := Lib.hid e1
      have hw : IntKind.i64.wrap (S + x) = S + x := IntWalk.i64_in _ ⟨by omega, by omega⟩
      clear hx e1
      go_wp2_with fail
      go_roundw
      case rel => exact ⟨k + 1, S + x, by omega, by go_num, rfl, E1, trivial⟩
      case measure => simp [intOf]; omega
    · have hkn : k = n := by omega
      subst hkn
      have hlt' : decide (k < k) = false := by simp
      clear hlt
      go_wp2_with fail
      go_ret
      exact ⟨bret_int HS.out.symm, rfl⟩
theorem sum_zero (a : Option Addr) (cap : Nat) (w : World) : Calls Try.prog 63 #[.slice a 0 cap] w fun e w' => e = .returned (.int .i64 0) ∧ w = w' := by
  go_enter Try.func63, Try.ntmps63
  go_wp2_with fail
  refine wp_loop_rounds 1 ?_
  rw [rounds_succ]
  go_wp2_with fail
  go_ret
  exact ⟨rfl, rfl⟩
theorem sum_any (v : Value) (zs : List Int) (w : World) (h : Nums w v zs) (hn : zs.length ≤ 500) (hf : ∀ j, j < zs.length → 0 ≤ zs.getD j 0 ∧ zs.getD j 0 ≤ 1000000000) :
    Calls Try.prog 63 #[v] w fun e w' => e = .returned (.int .i64 (psum (fun j => zs.getD j 0) zs.length)) ∧ w = w' := by
  rcases h with ⟨a, cap, rfl, rfl⟩ | ⟨b, off, cap, rfl, hne, hlt, hm, hc⟩
  · exact sum_zero a cap w
  · exact sum_walk b off _ cap _ w hn hf hc

end Go.Proofs.Ytinckidkophobaa
