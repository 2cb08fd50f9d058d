/- isGap, gapBefore, checkStep (program). -/
import Derived.Test.YtinckidkophobaaStepPlain
import Derived.Test.YtinckidkophobaaPeak0
import Derived.Test.YtinckidkophobaaHullW
import Derived.Test.YtinckidkophobaaWorth
namespace Go.Proofs.Ytinckidkophobaa
set_option linter.unusedVariables false
set_option linter.unusedSimpArgs false
open Go.RowKit Go.Shelf Go.Deep

theorem mul_big {x y : Int} (h1 : 0 ≤ x) (h2 : x ≤ 1000000000) (h3 : 0 ≤ y) (h4 : y ≤ 1000000000) : 0 ≤ x * y ∧ x * y ≤ 1000000000000000000 := mul_range h1 h2 h3 h4
set_option maxRecDepth 100000 in
set_option maxHeartbeats 4000000 in
theorem isGap_any (a r : Rung) (p q : Int) (w : World) (ha : OkR a) (hr : OkR r) (hp : 1 ≤ p ∧ p ≤ 1000000000) (hq : 1 ≤ q ∧ q ≤ 1000000000) :
    Calls Try.prog 55 #[.agg #[.string a.nm, .int .i64 a.ra, .int .i64 a.he, .int .i64 a.qu], .agg #[.string r.nm, .int .i64 r.ra, .int .i64 r.he, .int .i64 r.qu], .agg #[.int .i64 p, .int .i64 q]] w fun e w' => e = .returned (.bool (gapB a r p q)) ∧ Below w.heap.size w w' := by
  obtain ⟨-, ⟨ra0, ra1⟩, -, -⟩ := hr
  obtain ⟨-, ⟨la0, la1⟩, -, -⟩ := ha
  obtain ⟨hp0, hp1⟩ := hp
  obtain ⟨hq0, hq1⟩ := hq
  obtain ⟨M1, hM1⟩ : ∃ M1, r.ra * q = M1 := ⟨_, rfl⟩
  obtain ⟨M2, hM2⟩ : ∃ M2, a.ra * p = M2 := ⟨_, rfl⟩
  have b1 := mul_big (x := r.ra) (y := q) (by omega) (by omega) (by omega) (by omega)
  have b2 := mul_big (x := a.ra) (y := p) (by omega) (by omega) (by omega) (by omega)
  rw [hM1] at b1
  rw [hM2] at b2
  obtain ⟨m0, m1⟩ := b1
  obtain ⟨m2, m3⟩ := b2
  have w1 : IntKind.i64.wrap (r.ra * q) = M1 := by rw [hM1]; exact IntWalk.i64_in _ ⟨by omega, by omega⟩
  have w2 : IntKind.i64.wrap (a.ra * p) = M2 := by rw [hM2]; exact IntWalk.i64_in _ ⟨by omega, by omega⟩
  have HA : Hid (decide (M2 < M1) = gapB a r p q) := Lib.hid (by rw [← hM1, ← hM2]; rfl)
  obtain ⟨R, hR⟩ : ∃ R, gapB a r p q = R := ⟨_, rfl⟩
  rw [hR] at HA ⊢
  have A0 := ((Four.new w a 56).alloc (.cells #[.string r.nm, .int .i64 r.ra, .int .i64 r.he, .int .i64 r.qu] 56)).alloc (.cells #[.int .i64 p, .int .i64 q] 24)
  have B0 := (Four.new (w.alloc (.cells #[.string a.nm, .int .i64 a.ra, .int .i64 a.he, .int .i64 a.qu] 56)) r 56).alloc (.cells #[.int .i64 p, .int .i64 q] 24)
  have C0 := Two.new ((w.alloc (.cells #[.string a.nm, .int .i64 a.ra, .int .i64 a.he, .int .i64 a.qu] 56)).alloc (.cells #[.string r.nm, .int .i64 r.ra, .int .i64 r.he, .int .i64 r.qu] 56)) p q 24
  have hb : Below w.heap.size w (((w.alloc (.cells #[.string a.nm, .int .i64 a.ra, .int .i64 a.he, .int .i64 a.qu] 56)).alloc (.cells #[.string r.nm, .int .i64 r.ra, .int .i64 r.he, .int .i64 r.qu] 56)).alloc (.cells #[.int .i64 p, .int .i64 q] 24)) := (((Below.refl _ w).alloc (Nat.le_refl _) _).alloc (by simp) _).alloc (by simp; omega) _
  have hs : (w.alloc (.cells #[.string a.nm, .int .i64 a.ra, .int .i64 a.he, .int .i64 a.qu] 56)).heap.size = w.heap.size + 1 := by simp
  have hs2 : ((w.alloc (.cells #[.string a.nm, .int .i64 a.ra, .int .i64 a.he, .int .i64 a.qu] 56)).alloc (.cells #[.string r.nm, .int .i64 r.ra, .int .i64 r.he, .int .i64 r.qu] 56)).heap.size = w.heap.size + 2 := by simp
  rw [hs] at B0
  rw [hs2] at C0
  clear hR hM1 hM2
  go_enter Try.func55, Try.ntmps55
  go_upto_region 1 with fail
  clear hs hs2
  generalize ((w.alloc (.cells #[.string a.nm, .int .i64 a.ra, .int .i64 a.he, .int .i64 a.qu] 56)).alloc (.cells #[.string r.nm, .int .i64 r.ra, .int .i64 r.he, .int .i64 r.qu] 56)).alloc (.cells #[.int .i64 p, .int .i64 q] 24) = W at *
  have x1 := A0.c1; have y1 := B0.c1; have z0 := C0.c0; have z1 := C0.c1
  clear A0 B0 C0
  go_wp2_with fail
  go_ret
  exact ⟨bret_bool HA.out, hb⟩
theorem gapZ_any (v : Value) (p q : Int) (w : World) : Calls Try.prog 21 #[v, .int .i64 0, .agg #[.int .i64 p, .int .i64 q]] w fun e w' => e = .returned (.bool false) ∧ Below w.heap.size w w' := by
  have b1 : Below w.heap.size w (w.alloc (.cells #[.int .i64 p, .int .i64 q] 24)) := (Below.refl _ w).alloc (Nat.le_refl _) _
  have g0 : decide ((0 : Int) < 0) = false := by decide
  go_enter Try.func21, Try.ntmps21
  go_upto_region 1 with fail
  generalize w.alloc (.cells #[.int .i64 p, .int .i64 q] 24) = W at *
  go_quiet (fail)
  go_wp2_with fail
  go_ret
  exact ⟨rfl, below_drewN b1 nq⟩
set_option maxRecDepth 100000 in
set_option maxHeartbeats 4000000 in
theorem gap_walk (b off n cap i : Nat) (rs : List Rung) (p q : Int) (a r : Rung) (w : World) (hz : rs.length = n) (hn : n ≤ 100) (hi : i < n) (h0 : 0 < i) (hlt : b < w.heap.size) (hS : Rungs w (.slice (some ⟨b, off, none⟩) n cap) rs) (ha : rs.getD (i - 1) rung0 = a) (hr : rs.getD i rung0 = r) (oka : OkR a) (okr : OkR r) (hp : 1 ≤ p ∧ p ≤ 1000000000) (hq : 1 ≤ q ∧ q ≤ 1000000000) :
    Calls Try.prog 21 #[.slice (some ⟨b, off, none⟩) n cap, .int .i64 (i : Int), .agg #[.int .i64 p, .int .i64 q]] w fun e w' => e = .returned (.bool (gapB a r p q)) ∧ Below w.heap.size w w' := by
  have HG := Lib.hid (fun W => isGap_any a r p q W oka okr hp hq)
  obtain ⟨R, hR⟩ : ∃ R, gapB a r p q = R := ⟨_, rfl⟩
  rw [hR] at HG ⊢
  obtain ⟨c0, c1, c2, c3⟩ := hS.cells (i - 1) (by omega)
  obtain ⟨f0, f1, f2, f3⟩ := hS.cells i (by omega)
  rw [ha] at c0 c1 c2 c3
  rw [hr] at f0 f1 f2 f3
  have b1 : Below w.heap.size w (w.alloc (.cells #[.int .i64 p, .int .i64 q] 24)) := (Below.refl _ w).alloc (Nat.le_refl _) _
  have T1 := Two.new w p q 24
  rw [← b1.cell (p := ⟨b, off + (i - 1) * 4, none⟩) hlt] at c0
  rw [← b1.cell (p := ⟨b, off + (i - 1) * 4 + 1, none⟩) hlt] at c1
  rw [← b1.cell (p := ⟨b, off + (i - 1) * 4 + 2, none⟩) hlt] at c2
  rw [← b1.cell (p := ⟨b, off + (i - 1) * 4 + 3, none⟩) hlt] at c3
  rw [← b1.cell (p := ⟨b, off + i * 4, none⟩) hlt] at f0
  rw [← b1.cell (p := ⟨b, off + i * 4 + 1, none⟩) hlt] at f1
  rw [← b1.cell (p := ⟨b, off + i * 4 + 2, none⟩) hlt] at f2
  rw [← b1.cell (p := ⟨b, off + i * 4 + 3, none⟩) hlt] at f3
  have i1 : (i : Int) < (n : Int) := by omega
  have g1 : decide ((0 : Int) < (i : Int)) = true := by simp; omega
  have j2 : (0 : Int) ≤ (i : Int) - 1 := by omega
  have j3 : (i : Int) - 1 < (n : Int) := by omega
  have j6 : (1 : Int) ≤ (i : Int) := by omega
  have j4 : ((i : Int) - 1).toNat = i - 1 := by omega
  have j5 : IntKind.i64.wrap ((i : Int) - 1) = (i : Int) - 1 := IntWalk.i64_in _ ⟨by omega, by omega⟩
  have hb1 : b < (w.alloc (.cells #[.int .i64 p, .int .i64 q] 24)).heap.size := Nat.lt_of_lt_of_le hlt b1.size
  clear hS hz hR ha hr oka okr
  go_enter Try.func21, Try.ntmps21
  go_upto_region 1 with fail
  generalize w.alloc (.cells #[.int .i64 p, .int .i64 q] 24) = W at *
  have k0 := T1.c0; have k1 := T1.c1; have kl := T1.lt
  clear T1
  refine wp_region_noPanic ?_
  refine wp_region_held_drew (S := fun w' => Below W.heap.size W w') (by kernel_rfl) ?hS0 (fun hHeld => ?_)
  case hS0 => exact (Below.refl _ W).drew
  have hS : Below W.heap.size W W.drew := (Below.refl _ W).drew
  clear hHeld
  generalize W.drew = wd at *
  refine wpAnyH_take (i := 0) (v := ?_) rfl (by kernel_rfl) (by kernel_rfl) (by kernel_rfl) (fun _ _ _ h => h) (Or.inl ⟨by kernel_rfl, ?hy⟩) (by assumption) ?_
  case hy => (intro wq hSw; have q0 := (hSw.cell (p := ⟨w.heap.size, 0, none⟩) kl).trans k0; have q1 := (hSw.cell (p := ⟨w.heap.size, 1, none⟩) kl).trans k1; have u0 := (hSw.cell (p := ⟨b, off + (i - 1) * 4, none⟩) hb1).trans c0; have u1 := (hSw.cell (p := ⟨b, off + (i - 1) * 4 + 1, none⟩) hb1).trans c1; have u2 := (hSw.cell (p := ⟨b, off + (i - 1) * 4 + 2, none⟩) hb1).trans c2; have u3 := (hSw.cell (p := ⟨b, off + (i - 1) * 4 + 3, none⟩) hb1).trans c3; have v0 := (hSw.cell (p := ⟨b, off + i * 4, none⟩) hb1).trans f0; have v1 := (hSw.cell (p := ⟨b, off + i * 4 + 1, none⟩) hb1).trans f1; have v2 := (hSw.cell (p := ⟨b, off + i * 4 + 2, none⟩) hb1).trans f2; have v3 := (hSw.cell (p := ⟨b, off + i * 4 + 3, none⟩) hb1).trans f3; have s1 := Nat.lt_of_lt_of_le kl hSw.size; have s2 := Nat.lt_of_lt_of_le hb1 hSw.size; go_simp; try (with_reducible rfl))
  try simp only [Act.put, List.setIfInBounds_toArray, List.set_cons_zero, List.set_cons_succ]
  refine wpAnyH_take (i := 1) (v := ?_) rfl (by kernel_rfl) (by kernel_rfl) (by kernel_rfl) (fun _ _ _ h => h) (Or.inl ⟨by kernel_rfl, ?hy⟩) (by assumption) ?_
  case hy => (intro wq hSw; have q0 := (hSw.cell (p := ⟨w.heap.size, 0, none⟩) kl).trans k0; have q1 := (hSw.cell (p := ⟨w.heap.size, 1, none⟩) kl).trans k1; have u0 := (hSw.cell (p := ⟨b, off + (i - 1) * 4, none⟩) hb1).trans c0; have u1 := (hSw.cell (p := ⟨b, off + (i - 1) * 4 + 1, none⟩) hb1).trans c1; have u2 := (hSw.cell (p := ⟨b, off + (i - 1) * 4 + 2, none⟩) hb1).trans c2; have u3 := (hSw.cell (p := ⟨b, off + (i - 1) * 4 + 3, none⟩) hb1).trans c3; have v0 := (hSw.cell (p := ⟨b, off + i * 4, none⟩) hb1).trans f0; have v1 := (hSw.cell (p := ⟨b, off + i * 4 + 1, none⟩) hb1).trans f1; have v2 := (hSw.cell (p := ⟨b, off + i * 4 + 2, none⟩) hb1).trans f2; have v3 := (hSw.cell (p := ⟨b, off + i * 4 + 3, none⟩) hb1).trans f3; have s1 := Nat.lt_of_lt_of_le kl hSw.size; have s2 := Nat.lt_of_lt_of_le hb1 hSw.size; go_simp; try (with_reducible rfl))
  try simp only [Act.put, List.setIfInBounds_toArray, List.set_cons_zero, List.set_cons_succ]
  refine wpAnyH_take (i := 2) (v := ?_) rfl (by kernel_rfl) (by kernel_rfl) (by kernel_rfl) (fun _ _ _ h => h) (Or.inl ⟨by kernel_rfl, ?hy⟩) (by assumption) ?_
  case hy => (intro wq hSw; have q0 := (hSw.cell (p := ⟨w.heap.size, 0, none⟩) kl).trans k0; have q1 := (hSw.cell (p := ⟨w.heap.size, 1, none⟩) kl).trans k1; have u0 := (hSw.cell (p := ⟨b, off + (i - 1) * 4, none⟩) hb1).trans c0; have u1 := (hSw.cell (p := ⟨b, off + (i - 1) * 4 + 1, none⟩) hb1).trans c1; have u2 := (hSw.cell (p := ⟨b, off + (i - 1) * 4 + 2, none⟩) hb1).trans c2; have u3 := (hSw.cell (p := ⟨b, off + (i - 1) * 4 + 3, none⟩) hb1).trans c3; have v0 := (hSw.cell (p := ⟨b, off + i * 4, none⟩) hb1).trans f0; have v1 := (hSw.cell (p := ⟨b, off + i * 4 + 1, none⟩) hb1).trans f1; have v2 := (hSw.cell (p := ⟨b, off + i * 4 + 2, none⟩) hb1).trans f2; have v3 := (hSw.cell (p := ⟨b, off + i * 4 + 3, none⟩) hb1).trans f3; have s1 := Nat.lt_of_lt_of_le kl hSw.size; have s2 := Nat.lt_of_lt_of_le hb1 hSw.size; go_simp; try (with_reducible rfl))
  try simp only [Act.put, List.setIfInBounds_toArray, List.set_cons_zero, List.set_cons_succ]
  refine wpAnyH_take (i := 3) (v := ?_) rfl (by kernel_rfl) (by kernel_rfl) (by kernel_rfl) (fun _ _ _ h => h) (Or.inl ⟨by kernel_rfl, ?hy⟩) (by assumption) ?_
  case hy => (intro wq hSw; have q0 := (hSw.cell (p := ⟨w.heap.size, 0, none⟩) kl).trans k0; have q1 := (hSw.cell (p := ⟨w.heap.size, 1, none⟩) kl).trans k1; have u0 := (hSw.cell (p := ⟨b, off + (i - 1) * 4, none⟩) hb1).trans c0; have u1 := (hSw.cell (p := ⟨b, off + (i - 1) * 4 + 1, none⟩) hb1).trans c1; have u2 := (hSw.cell (p := ⟨b, off + (i - 1) * 4 + 2, none⟩) hb1).trans c2; have u3 := (hSw.cell (p := ⟨b, off + (i - 1) * 4 + 3, none⟩) hb1).trans c3; have v0 := (hSw.cell (p := ⟨b, off + i * 4, none⟩) hb1).trans f0; have v1 := (hSw.cell (p := ⟨b, off + i * 4 + 1, none⟩) hb1).trans f1; have v2 := (hSw.cell (p := ⟨b, off + i * 4 + 2, none⟩) hb1).trans f2; have v3 := (hSw.cell (p := ⟨b, off + i * 4 + 3, none⟩) hb1).trans f3; have s1 := Nat.lt_of_lt_of_le kl hSw.size; have s2 := Nat.lt_of_lt_of_le hb1 hSw.size; go_simp; try (with_reducible rfl))
  try simp only [Act.put, List.setIfInBounds_toArray, List.set_cons_zero, List.set_cons_succ]
  refine wpAnyH_take (i := 4) (v := ?_) rfl (by kernel_rfl) (by kernel_rfl) (by kernel_rfl) (fun _ _ _ h => h) (Or.inl ⟨by kernel_rfl, ?hy⟩) (by assumption) ?_
  case hy => (intro wq hSw; have q0 := (hSw.cell (p := ⟨w.heap.size, 0, none⟩) kl).trans k0; have q1 := (hSw.cell (p := ⟨w.heap.size, 1, none⟩) kl).trans k1; have u0 := (hSw.cell (p := ⟨b, off + (i - 1) * 4, none⟩) hb1).trans c0; have u1 := (hSw.cell (p := ⟨b, off + (i - 1) * 4 + 1, none⟩) hb1).trans c1; have u2 := (hSw.cell (p := ⟨b, off + (i - 1) * 4 + 2, none⟩) hb1).trans c2; have u3 := (hSw.cell (p := ⟨b, off + (i - 1) * 4 + 3, none⟩) hb1).trans c3; have v0 := (hSw.cell (p := ⟨b, off + i * 4, none⟩) hb1).trans f0; have v1 := (hSw.cell (p := ⟨b, off + i * 4 + 1, none⟩) hb1).trans f1; have v2 := (hSw.cell (p := ⟨b, off + i * 4 + 2, none⟩) hb1).trans f2; have v3 := (hSw.cell (p := ⟨b, off + i * 4 + 3, none⟩) hb1).trans f3; have s1 := Nat.lt_of_lt_of_le kl hSw.size; have s2 := Nat.lt_of_lt_of_le hb1 hSw.size; go_simp; try (with_reducible rfl))
  try simp only [Act.put, List.setIfInBounds_toArray, List.set_cons_zero, List.set_cons_succ]
  refine wpAnyH_take (i := 5) (v := ?_) rfl (by kernel_rfl) (by kernel_rfl) (by kernel_rfl) (fun _ _ _ h => h) (Or.inl ⟨by kernel_rfl, ?hy⟩) (by assumption) ?_
  case hy => (intro wq hSw; have q0 := (hSw.cell (p := ⟨w.heap.size, 0, none⟩) kl).trans k0; have q1 := (hSw.cell (p := ⟨w.heap.size, 1, none⟩) kl).trans k1; have u0 := (hSw.cell (p := ⟨b, off + (i - 1) * 4, none⟩) hb1).trans c0; have u1 := (hSw.cell (p := ⟨b, off + (i - 1) * 4 + 1, none⟩) hb1).trans c1; have u2 := (hSw.cell (p := ⟨b, off + (i - 1) * 4 + 2, none⟩) hb1).trans c2; have u3 := (hSw.cell (p := ⟨b, off + (i - 1) * 4 + 3, none⟩) hb1).trans c3; have v0 := (hSw.cell (p := ⟨b, off + i * 4, none⟩) hb1).trans f0; have v1 := (hSw.cell (p := ⟨b, off + i * 4 + 1, none⟩) hb1).trans f1; have v2 := (hSw.cell (p := ⟨b, off + i * 4 + 2, none⟩) hb1).trans f2; have v3 := (hSw.cell (p := ⟨b, off + i * 4 + 3, none⟩) hb1).trans f3; have s1 := Nat.lt_of_lt_of_le kl hSw.size; have s2 := Nat.lt_of_lt_of_le hb1 hSw.size; go_simp; try (with_reducible rfl))
  try simp only [Act.put, List.setIfInBounds_toArray, List.set_cons_zero, List.set_cons_succ]
  refine wpAnyH_take (i := 6) (v := ?_) rfl (by kernel_rfl) (by kernel_rfl) (by kernel_rfl) (fun _ _ _ h => h) (Or.inl ⟨by kernel_rfl, ?hy⟩) (by assumption) ?_
  case hy => (intro wq hSw; have q0 := (hSw.cell (p := ⟨w.heap.size, 0, none⟩) kl).trans k0; have q1 := (hSw.cell (p := ⟨w.heap.size, 1, none⟩) kl).trans k1; have u0 := (hSw.cell (p := ⟨b, off + (i - 1) * 4, none⟩) hb1).trans c0; have u1 := (hSw.cell (p := ⟨b, off + (i - 1) * 4 + 1, none⟩) hb1).trans c1; have u2 := (hSw.cell (p := ⟨b, off + (i - 1) * 4 + 2, none⟩) hb1).trans c2; have u3 := (hSw.cell (p := ⟨b, off + (i - 1) * 4 + 3, none⟩) hb1).trans c3; have v0 := (hSw.cell (p := ⟨b, off + i * 4, none⟩) hb1).trans f0; have v1 := (hSw.cell (p := ⟨b, off + i * 4 + 1, none⟩) hb1).trans f1; have v2 := (hSw.cell (p := ⟨b, off + i * 4 + 2, none⟩) hb1).trans f2; have v3 := (hSw.cell (p := ⟨b, off + i * 4 + 3, none⟩) hb1).trans f3; have s1 := Nat.lt_of_lt_of_le kl hSw.size; have s2 := Nat.lt_of_lt_of_le hb1 hSw.size; go_simp; try (with_reducible rfl))
  try simp only [Act.put, List.setIfInBounds_toArray, List.set_cons_zero, List.set_cons_succ]
  refine wpAnyH_take (i := 7) (v := ?_) rfl (by kernel_rfl) (by kernel_rfl) (by kernel_rfl) (fun _ _ _ h => h) (Or.inl ⟨by kernel_rfl, ?hy⟩) (by assumption) ?_
  case hy => (intro wq hSw; have q0 := (hSw.cell (p := ⟨w.heap.size, 0, none⟩) kl).trans k0; have q1 := (hSw.cell (p := ⟨w.heap.size, 1, none⟩) kl).trans k1; have u0 := (hSw.cell (p := ⟨b, off + (i - 1) * 4, none⟩) hb1).trans c0; have u1 := (hSw.cell (p := ⟨b, off + (i - 1) * 4 + 1, none⟩) hb1).trans c1; have u2 := (hSw.cell (p := ⟨b, off + (i - 1) * 4 + 2, none⟩) hb1).trans c2; have u3 := (hSw.cell (p := ⟨b, off + (i - 1) * 4 + 3, none⟩) hb1).trans c3; have v0 := (hSw.cell (p := ⟨b, off + i * 4, none⟩) hb1).trans f0; have v1 := (hSw.cell (p := ⟨b, off + i * 4 + 1, none⟩) hb1).trans f1; have v2 := (hSw.cell (p := ⟨b, off + i * 4 + 2, none⟩) hb1).trans f2; have v3 := (hSw.cell (p := ⟨b, off + i * 4 + 3, none⟩) hb1).trans f3; have s1 := Nat.lt_of_lt_of_le kl hSw.size; have s2 := Nat.lt_of_lt_of_le hb1 hSw.size; go_simp; try (with_reducible rfl))
  try simp only [Act.put, List.setIfInBounds_toArray, List.set_cons_zero, List.set_cons_succ]
  refine wpAnyH_take (i := 8) (v := ?_) rfl (by kernel_rfl) (by kernel_rfl) (by kernel_rfl) (fun _ _ _ h => h) (Or.inl ⟨by kernel_rfl, ?hy⟩) (by assumption) ?_
  case hy => (intro wq hSw; have q0 := (hSw.cell (p := ⟨w.heap.size, 0, none⟩) kl).trans k0; have q1 := (hSw.cell (p := ⟨w.heap.size, 1, none⟩) kl).trans k1; have u0 := (hSw.cell (p := ⟨b, off + (i - 1) * 4, none⟩) hb1).trans c0; have u1 := (hSw.cell (p := ⟨b, off + (i - 1) * 4 + 1, none⟩) hb1).trans c1; have u2 := (hSw.cell (p := ⟨b, off + (i - 1) * 4 + 2, none⟩) hb1).trans c2; have u3 := (hSw.cell (p := ⟨b, off + (i - 1) * 4 + 3, none⟩) hb1).trans c3; have v0 := (hSw.cell (p := ⟨b, off + i * 4, none⟩) hb1).trans f0; have v1 := (hSw.cell (p := ⟨b, off + i * 4 + 1, none⟩) hb1).trans f1; have v2 := (hSw.cell (p := ⟨b, off + i * 4 + 2, none⟩) hb1).trans f2; have v3 := (hSw.cell (p := ⟨b, off + i * 4 + 3, none⟩) hb1).trans f3; have s1 := Nat.lt_of_lt_of_le kl hSw.size; have s2 := Nat.lt_of_lt_of_le hb1 hSw.size; go_simp; try (with_reducible rfl))
  try simp only [Act.put, List.setIfInBounds_toArray, List.set_cons_zero, List.set_cons_succ]
  refine wpAnyH_take (i := 9) (v := ?_) rfl (by kernel_rfl) (by kernel_rfl) (by kernel_rfl) (fun _ _ _ h => h) (Or.inl ⟨by kernel_rfl, ?hy⟩) (by assumption) ?_
  case hy => (intro wq hSw; have q0 := (hSw.cell (p := ⟨w.heap.size, 0, none⟩) kl).trans k0; have q1 := (hSw.cell (p := ⟨w.heap.size, 1, none⟩) kl).trans k1; have u0 := (hSw.cell (p := ⟨b, off + (i - 1) * 4, none⟩) hb1).trans c0; have u1 := (hSw.cell (p := ⟨b, off + (i - 1) * 4 + 1, none⟩) hb1).trans c1; have u2 := (hSw.cell (p := ⟨b, off + (i - 1) * 4 + 2, none⟩) hb1).trans c2; have u3 := (hSw.cell (p := ⟨b, off + (i - 1) * 4 + 3, none⟩) hb1).trans c3; have v0 := (hSw.cell (p := ⟨b, off + i * 4, none⟩) hb1).trans f0; have v1 := (hSw.cell (p := ⟨b, off + i * 4 + 1, none⟩) hb1).trans f1; have v2 := (hSw.cell (p := ⟨b, off + i * 4 + 2, none⟩) hb1).trans f2; have v3 := (hSw.cell (p := ⟨b, off + i * 4 + 3, none⟩) hb1).trans f3; have s1 := Nat.lt_of_lt_of_le kl hSw.size; have s2 := Nat.lt_of_lt_of_le hb1 hSw.size; go_simp; try (with_reducible rfl))
  try simp only [Act.put, List.setIfInBounds_toArray, List.set_cons_zero, List.set_cons_succ]
  refine wpAnyH_take (i := 10) (v := ?_) rfl (by kernel_rfl) (by kernel_rfl) (by kernel_rfl) (fun _ _ _ h => h) (Or.inl ⟨by kernel_rfl, ?hy⟩) (by assumption) ?_
  case hy => (intro wq hSw; have q0 := (hSw.cell (p := ⟨w.heap.size, 0, none⟩) kl).trans k0; have q1 := (hSw.cell (p := ⟨w.heap.size, 1, none⟩) kl).trans k1; have u0 := (hSw.cell (p := ⟨b, off + (i - 1) * 4, none⟩) hb1).trans c0; have u1 := (hSw.cell (p := ⟨b, off + (i - 1) * 4 + 1, none⟩) hb1).trans c1; have u2 := (hSw.cell (p := ⟨b, off + (i - 1) * 4 + 2, none⟩) hb1).trans c2; have u3 := (hSw.cell (p := ⟨b, off + (i - 1) * 4 + 3, none⟩) hb1).trans c3; have v0 := (hSw.cell (p := ⟨b, off + i * 4, none⟩) hb1).trans f0; have v1 := (hSw.cell (p := ⟨b, off + i * 4 + 1, none⟩) hb1).trans f1; have v2 := (hSw.cell (p := ⟨b, off + i * 4 + 2, none⟩) hb1).trans f2; have v3 := (hSw.cell (p := ⟨b, off + i * 4 + 3, none⟩) hb1).trans f3; have s1 := Nat.lt_of_lt_of_le kl hSw.size; have s2 := Nat.lt_of_lt_of_le hb1 hSw.size; go_simp; try (with_reducible rfl))
  try simp only [Act.put, List.setIfInBounds_toArray, List.set_cons_zero, List.set_cons_succ]
  refine wpAnyH_take (i := 11) (v := ?_) rfl (by kernel_rfl) (by kernel_rfl) (by kernel_rfl) (fun _ _ _ h => h) (Or.inl ⟨by kernel_rfl, ?hy⟩) (by assumption) ?_
  case hy => (intro wq hSw; have q0 := (hSw.cell (p := ⟨w.heap.size, 0, none⟩) kl).trans k0; have q1 := (hSw.cell (p := ⟨w.heap.size, 1, none⟩) kl).trans k1; have u0 := (hSw.cell (p := ⟨b, off + (i - 1) * 4, none⟩) hb1).trans c0; have u1 := (hSw.cell (p := ⟨b, off + (i - 1) * 4 + 1, none⟩) hb1).trans c1; have u2 := (hSw.cell (p := ⟨b, off + (i - 1) * 4 + 2, none⟩) hb1).trans c2; have u3 := (hSw.cell (p := ⟨b, off + (i - 1) * 4 + 3, none⟩) hb1).trans c3; have v0 := (hSw.cell (p := ⟨b, off + i * 4, none⟩) hb1).trans f0; have v1 := (hSw.cell (p := ⟨b, off + i * 4 + 1, none⟩) hb1).trans f1; have v2 := (hSw.cell (p := ⟨b, off + i * 4 + 2, none⟩) hb1).trans f2; have v3 := (hSw.cell (p := ⟨b, off + i * 4 + 3, none⟩) hb1).trans f3; have s1 := Nat.lt_of_lt_of_le kl hSw.size; have s2 := Nat.lt_of_lt_of_le hb1 hSw.size; go_simp; try (with_reducible rfl))
  try simp only [Act.put, List.setIfInBounds_toArray, List.set_cons_zero, List.set_cons_succ]
  refine wpAnyH_take (i := 12) (v := ?_) rfl (by kernel_rfl) (by kernel_rfl) (by kernel_rfl) (fun _ _ _ h => h) (Or.inl ⟨by kernel_rfl, ?hy⟩) (by assumption) ?_
  case hy => (intro wq hSw; have q0 := (hSw.cell (p := ⟨w.heap.size, 0, none⟩) kl).trans k0; have q1 := (hSw.cell (p := ⟨w.heap.size, 1, none⟩) kl).trans k1; have u0 := (hSw.cell (p := ⟨b, off + (i - 1) * 4, none⟩) hb1).trans c0; have u1 := (hSw.cell (p := ⟨b, off + (i - 1) * 4 + 1, none⟩) hb1).trans c1; have u2 := (hSw.cell (p := ⟨b, off + (i - 1) * 4 + 2, none⟩) hb1).trans c2; have u3 := (hSw.cell (p := ⟨b, off + (i - 1) * 4 + 3, none⟩) hb1).trans c3; have v0 := (hSw.cell (p := ⟨b, off + i * 4, none⟩) hb1).trans f0; have v1 := (hSw.cell (p := ⟨b, off + i * 4 + 1, none⟩) hb1).trans f1; have v2 := (hSw.cell (p := ⟨b, off + i * 4 + 2, none⟩) hb1).trans f2; have v3 := (hSw.cell (p := ⟨b, off + i * 4 + 3, none⟩) hb1).trans f3; have s1 := Nat.lt_of_lt_of_le kl hSw.size; have s2 := Nat.lt_of_lt_of_le hb1 hSw.size; go_simp; try (with_reducible rfl))
  try simp only [Act.put, List.setIfInBounds_toArray, List.set_cons_zero, List.set_cons_succ]
  refine wpAnyH_ready (rs := [13]) (by kernel_rfl) (by simp) ?_
  refine AllReadyH.cons rfl (fun K hK => ?_) AllReadyH.nil
  go_simp
  refine (HG.out _).mono ?_; rintro e w3 ⟨rfl, b3⟩; have hS : Below W.heap.size W w3 := hS.trans (b3.mono hS.size)
  refine hK.out _ _ hS (fun hHeld => ?_)
  clear hK K hHeld
  try simp only [Act.put, List.setIfInBounds_toArray, List.set_cons_zero, List.set_cons_succ]
  refine wpAnyH_take (i := 14) (v := ?_) rfl (by kernel_rfl) (by kernel_rfl) (by kernel_rfl) (fun _ _ _ h => h) (Or.inl ⟨by kernel_rfl, ?hy⟩) (by assumption) ?_
  case hy => (intro wq hSw; have q0 := (hSw.cell (p := ⟨w.heap.size, 0, none⟩) kl).trans k0; have q1 := (hSw.cell (p := ⟨w.heap.size, 1, none⟩) kl).trans k1; have u0 := (hSw.cell (p := ⟨b, off + (i - 1) * 4, none⟩) hb1).trans c0; have u1 := (hSw.cell (p := ⟨b, off + (i - 1) * 4 + 1, none⟩) hb1).trans c1; have u2 := (hSw.cell (p := ⟨b, off + (i - 1) * 4 + 2, none⟩) hb1).trans c2; have u3 := (hSw.cell (p := ⟨b, off + (i - 1) * 4 + 3, none⟩) hb1).trans c3; have v0 := (hSw.cell (p := ⟨b, off + i * 4, none⟩) hb1).trans f0; have v1 := (hSw.cell (p := ⟨b, off + i * 4 + 1, none⟩) hb1).trans f1; have v2 := (hSw.cell (p := ⟨b, off + i * 4 + 2, none⟩) hb1).trans f2; have v3 := (hSw.cell (p := ⟨b, off + i * 4 + 3, none⟩) hb1).trans f3; have s1 := Nat.lt_of_lt_of_le kl hSw.size; have s2 := Nat.lt_of_lt_of_le hb1 hSw.size; go_simp; try (with_reducible rfl))
  try simp only [Act.put, List.setIfInBounds_toArray, List.set_cons_zero, List.set_cons_succ]
  refine wpAnyH_take (i := 15) (v := ?_) rfl (by kernel_rfl) (by kernel_rfl) (by kernel_rfl) (fun _ _ _ h => h) (Or.inl ⟨by kernel_rfl, ?hy⟩) (by assumption) ?_
  case hy => (intro wq hSw; have q0 := (hSw.cell (p := ⟨w.heap.size, 0, none⟩) kl).trans k0; have q1 := (hSw.cell (p := ⟨w.heap.size, 1, none⟩) kl).trans k1; have u0 := (hSw.cell (p := ⟨b, off + (i - 1) * 4, none⟩) hb1).trans c0; have u1 := (hSw.cell (p := ⟨b, off + (i - 1) * 4 + 1, none⟩) hb1).trans c1; have u2 := (hSw.cell (p := ⟨b, off + (i - 1) * 4 + 2, none⟩) hb1).trans c2; have u3 := (hSw.cell (p := ⟨b, off + (i - 1) * 4 + 3, none⟩) hb1).trans c3; have v0 := (hSw.cell (p := ⟨b, off + i * 4, none⟩) hb1).trans f0; have v1 := (hSw.cell (p := ⟨b, off + i * 4 + 1, none⟩) hb1).trans f1; have v2 := (hSw.cell (p := ⟨b, off + i * 4 + 2, none⟩) hb1).trans f2; have v3 := (hSw.cell (p := ⟨b, off + i * 4 + 3, none⟩) hb1).trans f3; have s1 := Nat.lt_of_lt_of_le kl hSw.size; have s2 := Nat.lt_of_lt_of_le hb1 hSw.size; go_simp; try (with_reducible rfl))
  try simp only [Act.put, List.setIfInBounds_toArray, List.set_cons_zero, List.set_cons_succ]
  refine wpAnyH_done (by kernel_rfl) ?_ _
  refine NoPanic.normal ?_
  try go_simp
  go_wp2_with fail
  go_ret
  exact ⟨rfl, b1.trans (hS.mono b1.size)⟩
theorem gapBefore_any (u : Value) (rs : List Rung) (i : Nat) (p q : Int) (w : World) (hu : Rungs w u rs) (hi : i < rs.length) (hok : OkRs rs) (hp : 1 ≤ p ∧ p ≤ 1000000000) (hq : 1 ≤ q ∧ q ≤ 1000000000) :
    Calls Try.prog 21 #[u, .int .i64 (i : Int), .agg #[.int .i64 p, .int .i64 q]] w fun e w' => e = .returned (.bool (gapAt rs p q i)) ∧ Below w.heap.size w w' := by
  obtain ⟨b, off, cap, rfl, hb, hl, hm⟩ := hu.spot (by omega)
  by_cases h0 : i = 0
  · subst h0
    exact gapZ_any _ p q w
  · have e : gapAt rs p q i = gapB (rs.getD (i - 1) rung0) (rs.getD i rung0) p q := by
      unfold gapAt
      rw [decide_eq_true (by omega : 0 < i)]
      rfl
    rw [e]
    exact gap_walk b off rs.length cap i rs p q _ _ w rfl hok.len hi (by omega) hb hu rfl rfl (hok.ok _ (by omega)) (hok.ok _ hi) hp hq
theorem bfirst4 (f0 f1 f2 f3 : Int) (w : World) :
    Calls Try.prog 26 #[.slice (some ⟨w.heap.size, 0, none⟩) 4 4] (w.alloc (.cells #[.int .i64 f0, .int .i64 f1, .int .i64 f2, .int .i64 f3] 26)) fun e w' => e = .returned (.int .i64 (fstF [f0, f1, f2, f3])) ∧ w.alloc (.cells #[.int .i64 f0, .int .i64 f1, .int .i64 f2, .int .i64 f3] 26) = w' := by
  refine bfirst_any w.heap.size 0 4 4 [f0, f1, f2, f3] _ rfl (by omega) fun j hj => ?_
  rw [World.cell?_alloc_at _ _ _ _ (by simp)]
  match j, hj with
  | 0, _ => rfl
  | 1, _ => rfl
  | 2, _ => rfl
  | 3, _ => rfl
set_option maxRecDepth 100000 in
set_option maxHeartbeats 4000000 in
theorem checkStep_any (u : Value) (rs : List Rung) (p q : Int) (w : World) (hu : Rungs w u rs) (hwf : ∀ y ∈ rs, y.nm.size ≤ maxLen) :
    Calls Try.prog 20 #[u, .agg #[.int .i64 p, .int .i64 q]] w fun e w' => e = .returned (.int .i64 (stF rs p q)) ∧ Below w.heap.size w w' := by
  have HC : Hid (∀ W, Below w.heap.size w W → Calls Try.prog 27 #[u] W fun e w' => e = .returned (.int .i64 (rgF rs)) ∧ Below W.heap.size W w') := Lib.hid (fun W hb => chkr_any _ rs W (hu.below hb (Nat.le_refl _)) hwf)
  have HF : Hid (fstF [rgF rs, fIf (!inB p 1 1000000000) 1, fIf (!inB q 1 1000000000) 1, fIf (decide (p < q)) 1] = stF rs p q) := Lib.hid rfl
  obtain ⟨F, hF⟩ : ∃ F, stF rs p q = F := ⟨_, rfl⟩
  obtain ⟨G, hG⟩ : ∃ G, rgF rs = G := ⟨_, rfl⟩
  rw [hF] at HF ⊢
  rw [hG] at HC HF
  have b1 : Below w.heap.size w (w.alloc (.cells #[.int .i64 p, .int .i64 q] 24)) := (Below.refl _ w).alloc (Nat.le_refl _) _
  have T1 := Two.new w p q 24
  clear hu hwf hF hG
  go_enter Try.func20, Try.ntmps20
  go_upto_region 1 with fail
  generalize w.alloc (.cells #[.int .i64 p, .int .i64 q] 24) = W at *
  have k0 := T1.c0; have k1 := T1.c1; have kl := T1.lt
  clear T1
  refine wp_region_noPanic ?_
  refine wp_region_held_drew (S := fun w' => Below W.heap.size W w') (by kernel_rfl) ?hS0 (fun hHeld => ?_)
  case hS0 => exact (Below.refl _ W).drew
  have hS : Below W.heap.size W W.drew := (Below.refl _ W).drew
  clear hHeld
  generalize W.drew = wd at *
  refine wpAnyH_take (i := 0) (v := ?_) rfl (by kernel_rfl) (by kernel_rfl) (by kernel_rfl) (fun _ _ _ h => h) (Or.inl ⟨by kernel_rfl, ?hy⟩) (by assumption) ?_
  case hy => (intro wq hSw; have q0 := (hSw.cell (p := ⟨w.heap.size, 0, none⟩) kl).trans k0; have q1 := (hSw.cell (p := ⟨w.heap.size, 1, none⟩) kl).trans k1; have s1 := Nat.lt_of_lt_of_le kl hSw.size; go_simp; try (with_reducible rfl))
  try simp only [Act.put, List.setIfInBounds_toArray, List.set_cons_zero, List.set_cons_succ]
  refine wpAnyH_take (i := 2) (v := ?_) rfl (by kernel_rfl) (by kernel_rfl) (by kernel_rfl) (fun _ _ _ h => h) (Or.inl ⟨by kernel_rfl, ?hy⟩) (by assumption) ?_
  case hy => (intro wq hSw; have q0 := (hSw.cell (p := ⟨w.heap.size, 0, none⟩) kl).trans k0; have q1 := (hSw.cell (p := ⟨w.heap.size, 1, none⟩) kl).trans k1; have s1 := Nat.lt_of_lt_of_le kl hSw.size; go_simp; try (with_reducible rfl))
  try simp only [Act.put, List.setIfInBounds_toArray, List.set_cons_zero, List.set_cons_succ]
  refine wpAnyH_take (i := 3) (v := ?_) rfl (by kernel_rfl) (by kernel_rfl) (by kernel_rfl) (fun _ _ _ h => h) (Or.inl ⟨by kernel_rfl, ?hy⟩) (by assumption) ?_
  case hy => (intro wq hSw; have q0 := (hSw.cell (p := ⟨w.heap.size, 0, none⟩) kl).trans k0; have q1 := (hSw.cell (p := ⟨w.heap.size, 1, none⟩) kl).trans k1; have s1 := Nat.lt_of_lt_of_le kl hSw.size; go_simp; try (with_reducible rfl))
  try simp only [Act.put, List.setIfInBounds_toArray, List.set_cons_zero, List.set_cons_succ]
  refine wpAnyH_take (i := 7) (v := ?_) rfl (by kernel_rfl) (by kernel_rfl) (by kernel_rfl) (fun _ _ _ h => h) (Or.inl ⟨by kernel_rfl, ?hy⟩) (by assumption) ?_
  case hy => (intro wq hSw; have q0 := (hSw.cell (p := ⟨w.heap.size, 0, none⟩) kl).trans k0; have q1 := (hSw.cell (p := ⟨w.heap.size, 1, none⟩) kl).trans k1; have s1 := Nat.lt_of_lt_of_le kl hSw.size; go_simp; try (with_reducible rfl))
  try simp only [Act.put, List.setIfInBounds_toArray, List.set_cons_zero, List.set_cons_succ]
  refine wpAnyH_take (i := 8) (v := ?_) rfl (by kernel_rfl) (by kernel_rfl) (by kernel_rfl) (fun _ _ _ h => h) (Or.inl ⟨by kernel_rfl, ?hy⟩) (by assumption) ?_
  case hy => (intro wq hSw; have q0 := (hSw.cell (p := ⟨w.heap.size, 0, none⟩) kl).trans k0; have q1 := (hSw.cell (p := ⟨w.heap.size, 1, none⟩) kl).trans k1; have s1 := Nat.lt_of_lt_of_le kl hSw.size; go_simp; try (with_reducible rfl))
  try simp only [Act.put, List.setIfInBounds_toArray, List.set_cons_zero, List.set_cons_succ]
  refine wpAnyH_take (i := 12) (v := ?_) rfl (by kernel_rfl) (by kernel_rfl) (by kernel_rfl) (fun _ _ _ h => h) (Or.inl ⟨by kernel_rfl, ?hy⟩) (by assumption) ?_
  case hy => (intro wq hSw; have q0 := (hSw.cell (p := ⟨w.heap.size, 0, none⟩) kl).trans k0; have q1 := (hSw.cell (p := ⟨w.heap.size, 1, none⟩) kl).trans k1; have s1 := Nat.lt_of_lt_of_le kl hSw.size; go_simp; try (with_reducible rfl))
  try simp only [Act.put, List.setIfInBounds_toArray, List.set_cons_zero, List.set_cons_succ]
  refine wpAnyH_take (i := 13) (v := ?_) rfl (by kernel_rfl) (by kernel_rfl) (by kernel_rfl) (fun _ _ _ h => h) (Or.inl ⟨by kernel_rfl, ?hy⟩) (by assumption) ?_
  case hy => (intro wq hSw; have q0 := (hSw.cell (p := ⟨w.heap.size, 0, none⟩) kl).trans k0; have q1 := (hSw.cell (p := ⟨w.heap.size, 1, none⟩) kl).trans k1; have s1 := Nat.lt_of_lt_of_le kl hSw.size; go_simp; try (with_reducible rfl))
  try simp only [Act.put, List.setIfInBounds_toArray, List.set_cons_zero, List.set_cons_succ]
  refine wpAnyH_take (i := 14) (v := ?_) rfl (by kernel_rfl) (by kernel_rfl) (by kernel_rfl) (fun _ _ _ h => h) (Or.inl ⟨by kernel_rfl, ?hy⟩) (by assumption) ?_
  case hy => (intro wq hSw; have q0 := (hSw.cell (p := ⟨w.heap.size, 0, none⟩) kl).trans k0; have q1 := (hSw.cell (p := ⟨w.heap.size, 1, none⟩) kl).trans k1; have s1 := Nat.lt_of_lt_of_le kl hSw.size; go_simp; try (with_reducible rfl))
  try simp only [Act.put, List.setIfInBounds_toArray, List.set_cons_zero, List.set_cons_succ]
  refine wpAnyH_take (i := 15) (v := ?_) rfl (by kernel_rfl) (by kernel_rfl) (by kernel_rfl) (fun _ _ _ h => h) (Or.inl ⟨by kernel_rfl, ?hy⟩) (by assumption) ?_
  case hy => (intro wq hSw; have q0 := (hSw.cell (p := ⟨w.heap.size, 0, none⟩) kl).trans k0; have q1 := (hSw.cell (p := ⟨w.heap.size, 1, none⟩) kl).trans k1; have s1 := Nat.lt_of_lt_of_le kl hSw.size; go_simp; try (with_reducible rfl))
  try simp only [Act.put, List.setIfInBounds_toArray, List.set_cons_zero, List.set_cons_succ]
  refine wpAnyH_take (i := 16) (v := ?_) rfl (by kernel_rfl) (by kernel_rfl) (by kernel_rfl) (fun _ _ _ h => h) (Or.inl ⟨by kernel_rfl, ?hy⟩) (by assumption) ?_
  case hy => (intro wq hSw; have q0 := (hSw.cell (p := ⟨w.heap.size, 0, none⟩) kl).trans k0; have q1 := (hSw.cell (p := ⟨w.heap.size, 1, none⟩) kl).trans k1; have s1 := Nat.lt_of_lt_of_le kl hSw.size; go_simp; try (with_reducible rfl))
  try simp only [Act.put, List.setIfInBounds_toArray, List.set_cons_zero, List.set_cons_succ]
  refine wpAnyH_ready (rs := [1]) (by kernel_rfl) (by simp) ?_
  refine AllReadyH.cons rfl (fun K hK => ?_) AllReadyH.nil
  go_simp
  refine (HC.out _ (b1.trans (hS.mono b1.size))).mono ?_; rintro e w3 ⟨rfl, b3⟩; have hS : Below W.heap.size W w3 := hS.trans (b3.mono hS.size)
  refine hK.out _ _ hS (fun hHeld => ?_)
  clear hK K hHeld
  try simp only [Act.put, List.setIfInBounds_toArray, List.set_cons_zero, List.set_cons_succ]
  refine wpAnyH_ready (rs := [4]) (by kernel_rfl) (by simp) ?_
  refine AllReadyH.cons rfl (fun K hK => ?_) AllReadyH.nil
  go_simp
  refine (bwithin_any _ _ _ _).mono ?_; rintro e w' ⟨rfl, rfl⟩
  refine hK.out _ _ hS (fun hHeld => ?_)
  clear hK K hHeld
  try simp only [Act.put, List.setIfInBounds_toArray, List.set_cons_zero, List.set_cons_succ]
  refine wpAnyH_take (i := 5) (v := ?_) rfl (by kernel_rfl) (by kernel_rfl) (by kernel_rfl) (fun _ _ _ h => h) (Or.inl ⟨by kernel_rfl, ?hy⟩) (by assumption) ?_
  case hy => (intro wq hSw; have q0 := (hSw.cell (p := ⟨w.heap.size, 0, none⟩) kl).trans k0; have q1 := (hSw.cell (p := ⟨w.heap.size, 1, none⟩) kl).trans k1; have s1 := Nat.lt_of_lt_of_le kl hSw.size; go_simp; try (with_reducible rfl))
  try simp only [Act.put, List.setIfInBounds_toArray, List.set_cons_zero, List.set_cons_succ]
  refine wpAnyH_ready (rs := [6]) (by kernel_rfl) (by simp) ?_
  refine AllReadyH.cons rfl (fun K hK => ?_) AllReadyH.nil
  go_simp
  refine (bfaultIf_any _ _ _).mono ?_; rintro e w' ⟨rfl, rfl⟩
  refine hK.out _ _ hS (fun hHeld => ?_)
  clear hK K hHeld
  try simp only [Act.put, List.setIfInBounds_toArray, List.set_cons_zero, List.set_cons_succ]
  refine wpAnyH_ready (rs := [9]) (by kernel_rfl) (by simp) ?_
  refine AllReadyH.cons rfl (fun K hK => ?_) AllReadyH.nil
  go_simp
  refine (bwithin_any _ _ _ _).mono ?_; rintro e w' ⟨rfl, rfl⟩
  refine hK.out _ _ hS (fun hHeld => ?_)
  clear hK K hHeld
  try simp only [Act.put, List.setIfInBounds_toArray, List.set_cons_zero, List.set_cons_succ]
  refine wpAnyH_take (i := 10) (v := ?_) rfl (by kernel_rfl) (by kernel_rfl) (by kernel_rfl) (fun _ _ _ h => h) (Or.inl ⟨by kernel_rfl, ?hy⟩) (by assumption) ?_
  case hy => (intro wq hSw; have q0 := (hSw.cell (p := ⟨w.heap.size, 0, none⟩) kl).trans k0; have q1 := (hSw.cell (p := ⟨w.heap.size, 1, none⟩) kl).trans k1; have s1 := Nat.lt_of_lt_of_le kl hSw.size; go_simp; try (with_reducible rfl))
  try simp only [Act.put, List.setIfInBounds_toArray, List.set_cons_zero, List.set_cons_succ]
  refine wpAnyH_ready (rs := [11]) (by kernel_rfl) (by simp) ?_
  refine AllReadyH.cons rfl (fun K hK => ?_) AllReadyH.nil
  go_simp
  refine (bfaultIf_any _ _ _).mono ?_; rintro e w' ⟨rfl, rfl⟩
  refine hK.out _ _ hS (fun hHeld => ?_)
  clear hK K hHeld
  try simp only [Act.put, List.setIfInBounds_toArray, List.set_cons_zero, List.set_cons_succ]
  refine wpAnyH_ready (rs := [17]) (by kernel_rfl) (by simp) ?_
  refine AllReadyH.cons rfl (fun K hK => ?_) AllReadyH.nil
  go_simp
  refine (bfaultIf_any _ _ _).mono ?_; rintro e w' ⟨rfl, rfl⟩
  refine hK.out _ _ hS (fun hHeld => ?_)
  clear hK K hHeld
  try simp only [Act.put, List.setIfInBounds_toArray, List.set_cons_zero, List.set_cons_succ]
  refine wpAnyH_ready (rs := [18]) (by kernel_rfl) (by simp) ?_
  refine AllReadyH.cons rfl (fun K hK => ?_) AllReadyH.nil
  go_simp
  have hS : Below W.heap.size W (w3.alloc (.cells #[.int .i64 G, .int .i64 (fIf (!inB p 1 1000000000) 1), .int .i64 (fIf (!inB q 1 1000000000) 1), .int .i64 (fIf (decide (p < q)) 1)] 26)) := hS.alloc hS.size _
  refine hK.out _ _ hS (fun hHeld => ?_)
  clear hK K hHeld
  try simp only [Act.put, List.setIfInBounds_toArray, List.set_cons_zero, List.set_cons_succ]
  refine wpAnyH_ready (rs := [19]) (by kernel_rfl) (by simp) ?_
  refine AllReadyH.cons rfl (fun K hK => ?_) AllReadyH.nil
  go_simp
  refine (bfirst4 _ _ _ _ _).mono ?_; rintro e w' ⟨rfl, rfl⟩; rw [HF.out]
  refine hK.out _ _ hS (fun hHeld => ?_)
  clear hK K hHeld
  try simp only [Act.put, List.setIfInBounds_toArray, List.set_cons_zero, List.set_cons_succ]
  refine wpAnyH_take (i := 20) (v := ?_) rfl (by kernel_rfl) (by kernel_rfl) (by kernel_rfl) (fun _ _ _ h => h) (Or.inl ⟨by kernel_rfl, ?hy⟩) (by assumption) ?_
  case hy => (intro wq hSw; have q0 := (hSw.cell (p := ⟨w.heap.size, 0, none⟩) kl).trans k0; have q1 := (hSw.cell (p := ⟨w.heap.size, 1, none⟩) kl).trans k1; have s1 := Nat.lt_of_lt_of_le kl hSw.size; go_simp; try (with_reducible rfl))
  try simp only [Act.put, List.setIfInBounds_toArray, List.set_cons_zero, List.set_cons_succ]
  refine wpAnyH_done (by kernel_rfl) ?_ _
  refine NoPanic.normal ?_
  try go_simp
  go_wp2_with fail
  go_ret
  exact ⟨rfl, b1.trans (hS.mono b1.size)⟩

end Go.Proofs.Ytinckidkophobaa
