/- isAbove, staysCorner (program). -/
import Derived.Test.YtfjgpafcdkodmaaChkR
import Derived.Test.YtfjgpafcdkodmaaHullPlain
import Derived.Test.YtfjgpafcdkodmaaIntsC
import Derived.Deep.AppendLies
namespace Go.Proofs.Ytfjgpafcdkodmaa
set_option linter.unusedVariables false
set_option linter.unusedSimpArgs false
open Go.RowKit Go.Shelf Go.Deep

theorem mul_bd {x y : Int} (h1 : -1000000 ≤ x) (h2 : x ≤ 1000000) (h3 : -1000000000 ≤ y) (h4 : y ≤ 1000000000) : -1000000000000000 ≤ x * y ∧ x * y ≤ 1000000000000000 := by
  have e : (x * y).natAbs ≤ 1000000 * 1000000000 := by rw [Int.natAbs_mul]; exact Nat.mul_le_mul (by omega) (by omega)
  omega
set_option maxRecDepth 100000 in
set_option maxHeartbeats 4000000 in
theorem isAbove_any (r lo hi : Rung) (w : World) (hr : OkR r) (hl : OkR lo) (hh : OkR hi) :
    Calls Try.prog 114 #[.agg #[.string r.nm, .int .i64 r.ra, .int .i64 r.he, .int .i64 r.qu], .agg #[.string lo.nm, .int .i64 lo.ra, .int .i64 lo.he, .int .i64 lo.qu], .agg #[.string hi.nm, .int .i64 hi.ra, .int .i64 hi.he, .int .i64 hi.qu]] w fun e w' => e = .returned (.bool (aboveB r lo hi)) ∧ Below w.heap.size w w' := by
  obtain ⟨-, ⟨ra0, ra1⟩, -, ⟨rq0, rq1⟩⟩ := hr
  obtain ⟨-, ⟨la0, la1⟩, -, ⟨lq0, lq1⟩⟩ := hl
  obtain ⟨-, ⟨ha0, ha1⟩, -, ⟨hq0, hq1⟩⟩ := hh
  obtain ⟨M1, hM1⟩ : ∃ M1, (r.qu - lo.qu) * (hi.ra - lo.ra) = M1 := ⟨_, rfl⟩
  obtain ⟨M2, hM2⟩ : ∃ M2, (hi.qu - lo.qu) * (r.ra - lo.ra) = M2 := ⟨_, rfl⟩
  have b1 := mul_bd (x := r.qu - lo.qu) (y := hi.ra - lo.ra) (by omega) (by omega) (by omega) (by omega)
  have b2 := mul_bd (x := hi.qu - lo.qu) (y := r.ra - lo.ra) (by omega) (by omega) (by omega) (by omega)
  rw [hM1] at b1
  rw [hM2] at b2
  obtain ⟨m0, m1⟩ := b1
  obtain ⟨m2, m3⟩ := b2
  have w1 : IntKind.i64.wrap ((r.qu - lo.qu) * (hi.ra - lo.ra)) = M1 := by rw [hM1]; exact IntWalk.i64_in _ ⟨by omega, by omega⟩
  have w2 : IntKind.i64.wrap ((hi.qu - lo.qu) * (r.ra - lo.ra)) = M2 := by rw [hM2]; exact IntWalk.i64_in _ ⟨by omega, by omega⟩
  have HA : Hid (decide (M2 < M1) = aboveB r lo hi) := Lib.hid (by rw [← hM1, ← hM2]; rfl)
  obtain ⟨R, hR⟩ : ∃ R, aboveB r lo hi = R := ⟨_, rfl⟩
  rw [hR] at HA ⊢
  have A0 := ((Four.new w r 37).alloc (.cells #[.string lo.nm, .int .i64 lo.ra, .int .i64 lo.he, .int .i64 lo.qu] 37)).alloc (.cells #[.string hi.nm, .int .i64 hi.ra, .int .i64 hi.he, .int .i64 hi.qu] 37)
  have B0 := (Four.new (w.alloc (.cells #[.string r.nm, .int .i64 r.ra, .int .i64 r.he, .int .i64 r.qu] 37)) lo 37).alloc (.cells #[.string hi.nm, .int .i64 hi.ra, .int .i64 hi.he, .int .i64 hi.qu] 37)
  have C0 := Four.new ((w.alloc (.cells #[.string r.nm, .int .i64 r.ra, .int .i64 r.he, .int .i64 r.qu] 37)).alloc (.cells #[.string lo.nm, .int .i64 lo.ra, .int .i64 lo.he, .int .i64 lo.qu] 37)) hi 37
  have hb : Below w.heap.size w (((w.alloc (.cells #[.string r.nm, .int .i64 r.ra, .int .i64 r.he, .int .i64 r.qu] 37)).alloc (.cells #[.string lo.nm, .int .i64 lo.ra, .int .i64 lo.he, .int .i64 lo.qu] 37)).alloc (.cells #[.string hi.nm, .int .i64 hi.ra, .int .i64 hi.he, .int .i64 hi.qu] 37)) := (((Below.refl _ w).alloc (Nat.le_refl _) _).alloc (by simp) _).alloc (by simp; omega) _
  have hs : (w.alloc (.cells #[.string r.nm, .int .i64 r.ra, .int .i64 r.he, .int .i64 r.qu] 37)).heap.size = w.heap.size + 1 := by simp
  have hs2 : ((w.alloc (.cells #[.string r.nm, .int .i64 r.ra, .int .i64 r.he, .int .i64 r.qu] 37)).alloc (.cells #[.string lo.nm, .int .i64 lo.ra, .int .i64 lo.he, .int .i64 lo.qu] 37)).heap.size = w.heap.size + 2 := by simp
  rw [hs] at B0
  rw [hs2] at C0
  clear hR hM1 hM2
  go_enter Try.func114, Try.ntmps114
  go_upto_region 1 with fail
  clear hs hs2
  generalize ((w.alloc (.cells #[.string r.nm, .int .i64 r.ra, .int .i64 r.he, .int .i64 r.qu] 37)).alloc (.cells #[.string lo.nm, .int .i64 lo.ra, .int .i64 lo.he, .int .i64 lo.qu] 37)).alloc (.cells #[.string hi.nm, .int .i64 hi.ra, .int .i64 hi.he, .int .i64 hi.qu] 37) = W at *
  have x1 := A0.c1; have x3 := A0.c3; have y1 := B0.c1; have y3 := B0.c3; have z1 := C0.c1; have z3 := C0.c3
  clear A0 B0 C0
  go_wp2_with fail
  go_ret
  exact ⟨bret_bool HA.out, hb⟩

end Go.Proofs.Ytfjgpafcdkodmaa
