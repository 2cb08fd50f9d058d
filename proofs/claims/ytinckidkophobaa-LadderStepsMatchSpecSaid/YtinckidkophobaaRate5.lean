/- Rates of rows: times, rate, Mean; awake (program). -/
import Derived.Test.YtinckidkophobaaChkSeg
import Derived.Test.YtinckidkophobaaMul
namespace Go.Proofs.Ytinckidkophobaa
set_option linter.unusedVariables false
set_option linter.unusedSimpArgs false
open Go.RowKit Go.Deep

theorem word_eq {h l P : Int} (l0 : 0 ≤ l) (l1 : l ≤ 18446744073709551615) (h0 : 0 ≤ h) (e : h * 18446744073709551616 + l = P) :
    (P ≤ 9223372036854775807 → h = 0 ∧ l = P) ∧ (9223372036854775807 < P → 0 < h ∨ 9223372036854775807 < l) := by
  refine ⟨fun _ => by omega, fun _ => by omega⟩
/-- Two blocks: one with two numbers, one for a result. -/
theorem two_blocks {w W : World} {T T' : TypeId} {p q : Int} (h : Below (w.heap.size + 2) ((w.alloc (.cells #[.int .i64 p, .int .i64 q] T)).alloc (.cells #[.int .i64 0, .int .i64 0] T')) W) :
    W.cell? ⟨w.heap.size, 0, none⟩ = some (.int .i64 p) ∧ W.cell? ⟨w.heap.size, 1, none⟩ = some (.int .i64 q) ∧ W.cell? ⟨w.heap.size + 1, 0, none⟩ = some (.int .i64 0) ∧ W.cell? ⟨w.heap.size + 1, 1, none⟩ = some (.int .i64 0) ∧
    W.frozen? ⟨w.heap.size + 1, 0, none⟩ = false ∧ W.frozen? ⟨w.heap.size + 1, 1, none⟩ = false ∧ Below w.heap.size w W := by
  have hs : (w.alloc (.cells #[.int .i64 p, .int .i64 q] T)).heap.size = w.heap.size + 1 := by simp
  have hw : Below w.heap.size w ((w.alloc (.cells #[.int .i64 p, .int .i64 q] T)).alloc (.cells #[.int .i64 0, .int .i64 0] T')) := ((Below.refl _ w).alloc (Nat.le_refl _) _).alloc (by simp) _
  refine ⟨?_, ?_, ?_, ?_, ?_, ?_, hw.trans (h.mono (by omega))⟩
  · rw [h.cell (p := ⟨w.heap.size, 0, none⟩) (by show w.heap.size < w.heap.size + 2; omega), World.cell?_alloc_past _ _ _ (by show w.heap.size < _; rw [hs]; omega), World.cell?_alloc_at _ _ _ _ (by simp)]; rfl
  · rw [h.cell (p := ⟨w.heap.size, 1, none⟩) (by show w.heap.size < w.heap.size + 2; omega), World.cell?_alloc_past _ _ _ (by show w.heap.size < _; rw [hs]; omega), World.cell?_alloc_at _ _ _ _ (by simp)]; rfl
  · rw [h.cell (p := ⟨w.heap.size + 1, 0, none⟩) (by show w.heap.size + 1 < w.heap.size + 2; omega), World.cell?_alloc_at _ _ _ _ (by rw [hs])]; rfl
  · rw [h.cell (p := ⟨w.heap.size + 1, 1, none⟩) (by show w.heap.size + 1 < w.heap.size + 2; omega), World.cell?_alloc_at _ _ _ _ (by rw [hs])]; rfl
  · rw [h.frozen (p := ⟨w.heap.size + 1, 0, none⟩) (by show w.heap.size + 1 < w.heap.size + 2; omega)]; go_simp
  · rw [h.frozen (p := ⟨w.heap.size + 1, 1, none⟩) (by show w.heap.size + 1 < w.heap.size + 2; omega)]; go_simp
/-- times at a ratio whose Den and n are positive; what it gives is a rate's terms. -/
def tmN (p q n : Int) : Int := p * (n / gcdI n q)
def tmD (q n : Int) : Int := q / gcdI n q
set_option maxRecDepth 100000 in
set_option maxHeartbeats 4000000 in
theorem times_any (p q n : Int) (w : World) (p0 : 0 ≤ p) (p1 : p ≤ 4611686018427387904) (q0 : 0 < q) (q1 : q ≤ 4611686018427387904) (n0 : 0 < n) (n1 : n ≤ 4611686018427387904) :
    Calls Try.prog 79 #[.agg #[.int .i64 p, .int .i64 q], .int .i64 n] w fun e w' => e = .returned (.tuple #[.agg #[.int .i64 (if tmN p q n ≤ 9223372036854775807 then tmN p q n else 0), .int .i64 (if tmN p q n ≤ 9223372036854775807 then tmD q n else 0)], .bool (decide (tmN p q n ≤ 9223372036854775807))]) ∧ Below w.heap.size w w' := by
  have hg0 := gcdI_pos (a := n) q0
  have hu := div_nn hg0 (Int.le_of_lt n0)
  have hv := div_nn hg0 (Int.le_of_lt q0)
  obtain ⟨U, hU⟩ : ∃ U, n / gcdI n q = U := ⟨_, rfl⟩
  obtain ⟨V, hV⟩ : ∃ V, q / gcdI n q = V := ⟨_, rfl⟩
  have hL := low_any n q
  obtain ⟨P, hP⟩ : ∃ P, tmN p q n = P := ⟨_, rfl⟩
  have hPP : p * U = P := by rw [← hP, tmN, hU]
  obtain ⟨D, hD⟩ : ∃ D, tmD q n = D := ⟨_, rfl⟩
  have hDD : V = D := by rw [← hD, tmD, hV]
  rw [hU, hV] at hL
  rw [hU] at hu
  rw [hV] at hv
  rw [hP, hD]
  subst hDD
  have HL := Lib.hid hL
  have HP := Lib.hid hPP
  have P0 : 0 ≤ P := by rw [← hPP]; exact Int.mul_nonneg p0 hu.1
  obtain ⟨RN, hRN⟩ : ∃ RN : Int, (if P ≤ 9223372036854775807 then P else 0) = RN := ⟨_, rfl⟩
  obtain ⟨RD, hRD⟩ : ∃ RD : Int, (if P ≤ 9223372036854775807 then V else 0) = RD := ⟨_, rfl⟩
  obtain ⟨RB, hRB⟩ : ∃ RB : Bool, decide (P ≤ 9223372036854775807) = RB := ⟨_, rfl⟩
  rw [hRN, hRD, hRB]
  have HRN := Lib.hid hRN
  have HRD := Lib.hid hRD
  have HRB := Lib.hid hRB
  clear hU hV hL hP hPP hD hg0 hRN hRD hRB
  go_enter Try.func79, Try.ntmps79
  go_wp2_with fail
  refine (HL.out _ (by omega) (by omega) (by omega) (by omega)).mono ?_; rintro e w1 ⟨rfl, b1⟩
  go_upto_region 2 with fail
  have hs : ((w.alloc (.cells #[.int .i64 p, .int .i64 q] 24)).alloc (.cells #[.int .i64 0, .int .i64 0] 24)).heap.size = w.heap.size + 2 := by simp
  rw [hs] at b1
  have hsz := b1.size
  rw [hs] at hsz
  have bW := b1.alloc (o := .cells #[.int .i64 U, .int .i64 V] 24) hsz
  have u0 : (w1.alloc (.cells #[.int .i64 U, .int .i64 V] 24)).cell? ⟨w1.heap.size, 0, none⟩ = some (.int .i64 U) := by rw [World.cell?_alloc_at _ _ _ _ rfl]; rfl
  have u1 : (w1.alloc (.cells #[.int .i64 U, .int .i64 V] 24)).cell? ⟨w1.heap.size, 1, none⟩ = some (.int .i64 V) := by rw [World.cell?_alloc_at _ _ _ _ rfl]; rfl
  obtain ⟨m0, m1, r0, r1, f0, f1, hb⟩ := two_blocks bW
  clear b1 bW hs
  generalize w1.alloc (.cells #[.int .i64 U, .int .i64 V] 24) = W at *
  go_wp2_with fail
  refine (mul64_ex _ _ _ (by omega) (by omega) (by omega) (by omega)).mono ?_; rintro e w' ⟨⟨h, l, hh0, hh1, hl0, hl1, HA, rfl⟩, rfl⟩
  obtain ⟨g1, g2⟩ := word_eq hl0 hl1 hh0 (HA.out.trans HP.out)
  clear HA
  have hB : Below w.heap.size w ((W.setCell ⟨w.heap.size + 1, 0, none⟩ (.int .i64 0)).setCell ⟨w.heap.size + 1, 1, none⟩ (.int .i64 0)) := (hb.setCell (p := ⟨w.heap.size + 1, 0, none⟩) (Nat.le_succ _) _).setCell (p := ⟨w.heap.size + 1, 1, none⟩) (Nat.le_succ _) _
  by_cases hle : P ≤ 9223372036854775807
  · obtain ⟨rfl, rfl⟩ := g1 hle
    have e1 : l = RN := by rw [← HRN.out, if_pos hle]
    have e2 : V = RD := by rw [← HRD.out, if_pos hle]
    have e3 : true = RB := by rw [← HRB.out]; simp [hle]
    subst e1 e2 e3
    have hd : decide (9223372036854775807 < l) = false := by simp; omega
    have hwl : IntKind.i64.wrap l = l := IntWalk.i64_in _ ⟨by omega, by omega⟩
    clear g1 g2
    go_wp2_with fail
    refine bodyPost_ret (by simp [results, Try.results79, go_sem, r0, r1]; try rfl) rfl ?_
    exact ⟨rfl, (hb.setCell (p := ⟨w.heap.size + 1, 0, none⟩) (Nat.le_succ _) _).setCell (p := ⟨w.heap.size + 1, 1, none⟩) (Nat.le_succ _) _⟩
  · have hg := g2 (by omega)
    have e1 : 0 = RN := by rw [← HRN.out, if_neg hle]
    have e2 : 0 = RD := by rw [← HRD.out, if_neg hle]
    have e3 : false = RB := by rw [← HRB.out]; simp; omega
    subst e1 e2 e3
    clear g1 g2 hle
    by_cases hh : 0 < h
    · go_wp2_with fail
      refine bodyPost_ret (by simp [results, Try.results79, go_sem, r0, r1]; try rfl) rfl ?_
      exact ⟨rfl, (hb.setCell (p := ⟨w.heap.size + 1, 0, none⟩) (Nat.le_succ _) _).setCell (p := ⟨w.heap.size + 1, 1, none⟩) (Nat.le_succ _) _⟩
    · have hd : decide (0 < h) = false := by simp; omega
      have hl : 9223372036854775807 < l := by omega
      go_wp2_with fail
      refine bodyPost_ret (by simp [results, Try.results79, go_sem, r0, r1]; try rfl) rfl ?_
      exact ⟨rfl, (hb.setCell (p := ⟨w.heap.size + 1, 0, none⟩) (Nat.le_succ _) _).setCell (p := ⟨w.heap.size + 1, 1, none⟩) (Nat.le_succ _) _⟩

end Go.Proofs.Ytinckidkophobaa
