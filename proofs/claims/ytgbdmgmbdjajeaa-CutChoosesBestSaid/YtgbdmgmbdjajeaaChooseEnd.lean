/- cut.checkEnd. -/
import Derived.Test.YtgbdmgmbdjajeaaPlansOf
import Derived.Test.YtgbdmgmbdjajeaaChoosePlain
namespace Go.Proofs.Ytgbdmgmbdjajeaa
set_option linter.unusedVariables false
set_option linter.unusedSimpArgs false
open Go.RowKit Go.Deep

set_option maxRecDepth 100000 in
set_option maxHeartbeats 4000000 in
theorem endck_walk (b off n cap : Nat) (zs : List Int) (en : Int) (w : World) (hz : zs.length = n) (hn0 : 0 < n) (hn : n ≤ 1000) (hlt : b < w.heap.size) (hc : ∀ j, j < n → w.cell? ⟨b, off + j, none⟩ = some (.int .i64 (zs.getD j 0))) :
    Calls Try.prog 42 #[.slice (some ⟨b, off, none⟩) n cap, .int .i64 en] w fun e w' => e = .returned (.int .i64 (endF zs en)) ∧ Below w.heap.size w w' := by
  obtain ⟨p, hp⟩ : ∃ p, zs.getD 0 0 = p := ⟨_, rfl⟩
  obtain ⟨l, hl⟩ : ∃ l, zs.getD (n - 1) 0 = l := ⟨_, rfl⟩
  have d0 : w.cell? ⟨b, off, none⟩ = some (.int .i64 p) := by rw [← hp]; exact hc 0 hn0
  have d1 : w.cell? ⟨b, off + (n - 1), none⟩ = some (.int .i64 l) := by rw [← hl]; exact hc (n - 1) (by omega)
  obtain ⟨q, hq⟩ : ∃ q, IntKind.i64.wrap (en - p) = q := ⟨_, rfl⟩
  have HE : Hid (fstF [fIf (!inB en (-1000000000000000) 1000000000000000) 1, fIf (decide (en ≤ l)) 8, fIf (decide (1000000000000 < q)) 1] = endF zs en) := Lib.hid (by rw [endF, hz, hp, hl, hq])
  have i0 : (0 : Int) ≤ (n : Int) - 1 := by omega
  have i1 : (n : Int) - 1 < (n : Int) := by omega
  have i2 : ((n : Int) - 1).toNat = n - 1 := by omega
  have i3 : (1 : Int) ≤ (n : Int) := by omega
  have i4 : IntKind.i64.wrap ((n : Int) - 1) = (n : Int) - 1 := IntWalk.i64_in _ ⟨by omega, by omega⟩
  clear hz hc hp hl
  go_enter Try.func42, Try.ntmps42
  go_upto_region 1 with fail
  refine region_still_tail 20 (by kernel_rfl) (by kernel_rfl) ?_
  simp only [List.take_succ_cons, List.take_zero, List.drop_succ_cons, List.drop_zero]
  refine St.step (fun K hK => ?_); go_simp; refine hK.out _ ?_; clear hK K
  refine St.step (fun K hK => ?_); go_simp; refine ⟨_, (st_of (btime_any _ _)), ?_⟩; refine hK.out _ ?_; clear hK K
  refine St.step (fun K hK => ?_); go_simp; refine hK.out _ ?_; clear hK K
  refine St.step (fun K hK => ?_); go_simp; refine ⟨_, (st_of (bfaultIf_any _ _ _)), ?_⟩; refine hK.out _ ?_; clear hK K
  refine St.step (fun K hK => ?_); go_simp; refine hK.out _ ?_; clear hK K
  refine St.step (fun K hK => ?_); go_simp; refine hK.out _ ?_; clear hK K
  refine St.step (fun K hK => ?_); go_simp; refine hK.out _ ?_; clear hK K
  refine St.step (fun K hK => ?_); go_simp; refine hK.out _ ?_; clear hK K
  refine St.step (fun K hK => ?_); go_simp; refine hK.out _ ?_; clear hK K
  refine St.step (fun K hK => ?_); go_simp; refine hK.out _ ?_; clear hK K
  refine St.step (fun K hK => ?_); go_simp; refine hK.out _ ?_; clear hK K
  refine St.step (fun K hK => ?_); go_simp; refine hK.out _ ?_; clear hK K
  refine St.step (fun K hK => ?_); go_simp; refine ⟨_, (st_of (bfaultIf_any _ _ _)), ?_⟩; refine hK.out _ ?_; clear hK K
  refine St.step (fun K hK => ?_); go_simp; refine hK.out _ ?_; clear hK K
  refine St.step (fun K hK => ?_); go_simp; refine hK.out _ ?_; clear hK K
  refine St.step (fun K hK => ?_); go_simp; refine hK.out _ ?_; clear hK K
  refine St.step (fun K hK => ?_); go_simp; refine hK.out _ ?_; clear hK K
  refine St.step (fun K hK => ?_); go_simp; refine hK.out _ ?_; clear hK K
  refine St.step (fun K hK => ?_); go_simp; refine hK.out _ ?_; clear hK K
  refine St.step (fun K hK => ?_); go_simp; refine ⟨_, (st_of (bfaultIf_any _ _ _)), ?_⟩; refine hK.out _ ?_; clear hK K
  refine St.nil ?_
  have hWd : Below w.heap.size w w.drew := (Below.refl _ _).drew
  generalize w.drew = w2 at *
  go_wp2_with fail
  refine (bfirst3 _ _ _ _).mono ?_; rintro e w' ⟨rfl, rfl⟩
  rw [HE.out]
  go_wp2_with fail
  go_ret
  exact ⟨rfl, hWd.alloc hWd.size _⟩

end Go.Proofs.Ytgbdmgmbdjajeaa
