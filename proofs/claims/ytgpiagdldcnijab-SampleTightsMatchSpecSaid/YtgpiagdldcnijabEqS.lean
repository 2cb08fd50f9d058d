/- slices.Equal at samples. -/
import Derived.Test.YtgpiagdldcnijabSmps
import Derived.Test.YtgpiagdldcnijabTightPlain
import Derived.Test.YtgpiagdldcnijabChk
import Derived.Shelf.SlicesQ.Equal
import Derived.Laws.StructEq
namespace Go.Proofs.Ytgpiagdldcnijab
set_option linter.unusedVariables false
set_option linter.unusedSimpArgs false
open Go.RowKit Go.Shelf Go.Deep

def equalRen : Go.Shelf.Ren := ⟨fun | 8 => 38 | n => n, fun | 0 => 0 | 3 => 3 | 4 => 4 | 22 => 33 | 24 => 50 | n => n, fun | n => n⟩
theorem equalLays : Go.Proofs.SlLaysQ.n8 Try.prog equalRen := {
  mixed := by kernel_rfl
  f8 := ⟨"slices.Equal[[]headend/api.Sample,headend/api.Sample]", by kernel_rfl, Try.func38.trans (congrArg some (by kernel_rfl))⟩
  t0 := Try.underlying0
  a0 := Try.isAgg0
  z0 := Try.sizeOf0
  v0 := Try.zeroValue0
  t3 := Try.underlying3
  a3 := Try.isAgg3
  z3 := Try.sizeOf3
  v3 := Try.zeroValue3
  t4 := Try.underlying4
  a4 := Try.isAgg4
  z4 := Try.sizeOf4
  v4 := Try.zeroValue4
  t22 := Try.underlying33
  a22 := Try.isAgg33
  z22 := Try.sizeOf33
  v22 := Try.zeroValue33 }
def smpEncE (y : Smp) : List Value := [.int .i64 y.t, .int .i64 y.s, .int .i64 y.h, .int .i64 y.z, .bool y.k]
def smpEq (x y : Smp) : Bool := x.t == y.t && x.s == y.s && x.h == y.h && x.z == y.z && x.k == y.k
theorem smpEq_iff (x y : Smp) : smpEq x y = true ↔ x = y := by
  obtain ⟨a, b, c, d, e⟩ := x; obtain ⟨a', b', c', d', e'⟩ := y
  simp [smpEq, Smp.mk.injEq, and_assoc]

theorem smpNeq : NeqAt Try.prog 50 (fun x => .agg (smpEncE x).toArray) smpEq := by
  refine ⟨fun x y w => ?_, GuardAt.agg _ (by kernel_rfl)⟩
  have u3 := Try.underlying3
  have a3 := Try.isAgg3
  have z3 := Try.sizeOf3
  have u4 := Try.underlying4
  have a4 := Try.isAgg4
  have z4 := Try.sizeOf4
  have hS : Try.prog.underlying 50 = some (.struct (Try.prog.fieldsOf 50)) := by kernel_rfl
  have hp : Try.prog.stoodInHeld 50 = false := by kernel_rfl
  obtain ⟨a, b, c, d, e⟩ := x; obtain ⟨a', b', c', d', e'⟩ := y
  simp only [smpEncE, smpEq]
  rw [run_neq_struct, show (10000 : Nat) = 9999 + 1 from rfl, run_equalIn_agg w 9999 50 _ _ hS hp]
  simp only [Program.fieldsOf, Try.underlying50]
  go_simp
  by_cases h1 : a = a' <;> by_cases h2 : b = b' <;> by_cases h3 : c = c' <;> by_cases h4 : d = d' <;> by_cases h5 : e = e' <;> simp [h1, h2, h3, h4, h5]

set_option maxHeartbeats 1000000 in
theorem equalS_lens (a1 a2 : Option Addr) (n m c d : Nat) (w : World) (h : n ≠ m) (hm : n ≤ 9223372036854775807) (hm2 : m ≤ 9223372036854775807) :
    Calls Try.prog 38 #[.slice a1 n c, .slice a2 m d] w fun e w' => e = .returned (.bool false) ∧ w = w' := by
  have e1 : ((n : Int) == (m : Int)) = false := by simp; omega
  have e2 : ((n : Int) != (m : Int)) = true := by simp; omega
  go_enter Try.func38, Try.ntmps38
  go_wp2
  go_ret
  exact ⟨rfl, rfl⟩
set_option maxHeartbeats 1000000 in
theorem equalS_empty (a1 a2 : Option Addr) (c d : Nat) (w : World) :
    Calls Try.prog 38 #[.slice a1 0 c, .slice a2 0 d] w fun e w' => e = .returned (.bool true) ∧ w = w' := by
  go_enter Try.func38, Try.ntmps38
  go_wp2_with fail
  refine wp_loop_rounds 1 ?_
  rw [rounds_succ]
  go_wp2_with fail
  go_ret
  exact ⟨rfl, rfl⟩

theorem allEq_smps : ∀ (xs ys : List Smp), Lib.allEq smpEq xs ys = decide (xs = ys) := by
  intro xs
  induction xs with
  | nil => intro ys; cases ys <;> simp [Lib.allEq]
  | cons x xs ih =>
    intro ys
    cases ys with
    | nil => simp [Lib.allEq]
    | cons y ys =>
      have := ih ys
      by_cases h : x = y
      · subst h
        have e : smpEq x x = true := (smpEq_iff x x).2 rfl
        simp [Lib.allEq, e, this] at *
        try simp [this]
      · have e : smpEq x y = false := by rw [Bool.eq_false_iff]; intro hh; exact h ((smpEq_iff x y).1 hh)
        simp [Lib.allEq, e, h]

/-- slices.Equal at samples. -/
theorem equalS_any (u v : Value) (xs ys : List Smp) (w : World) (hx : Smps w u xs) (hy : Smps w v ys) :
    Calls Try.prog 38 #[u, v] w fun e w' => e = .returned (.bool (decide (xs = ys))) ∧ ∃ q, w' = w.drewN q := by
  have mx : ∀ {a n c} {ss : List Smp}, Smps w (.slice a n c) ss → n ≤ 9223372036854775807 := fun h => by have := h.max.2; unfold maxLen at this; omega
  have hx' := hx; have hy' := hy
  rcases hx with ⟨a, c, rfl, hx0⟩ | ⟨b, o, c, rfl, hne, hlt, hl, hm, hc⟩
  · rcases hy with ⟨a', c', rfl, hy0⟩ | ⟨b', o', c', rfl, hne', hlt', hl', hm', hc'⟩
    · refine (equalS_empty _ _ _ _ w).mono ?_
      rintro e w' ⟨rfl, rfl⟩
      have e1 := List.length_eq_zero_iff.1 hx0; have e2 := List.length_eq_zero_iff.1 hy0
      subst e1 e2
      exact ⟨by simp, 0, rfl⟩
    · refine (equalS_lens _ _ _ _ _ _ w (by omega) (by omega) (mx hy')).mono ?_
      rintro e w' ⟨rfl, rfl⟩
      refine ⟨?_, 0, rfl⟩
      rw [decide_eq_false (fun h => by rw [h] at hx0; omega)]
  · rcases hy with ⟨a', c', rfl, hy0⟩ | ⟨b', o', c', rfl, hne', hlt', hl', hm', hc'⟩
    · refine (equalS_lens _ _ _ _ _ _ w (by omega) (mx hx') (by omega)).mono ?_
      rintro e w' ⟨rfl, rfl⟩
      refine ⟨?_, 0, rfl⟩
      rw [decide_eq_false (fun h => by rw [h] at hne; omega)]
    · have cellsOf : ∀ {b o n : Nat} {L : List Smp}, (∀ j, j < L.length → ∀ c, c < 5 → w.cell? ⟨b, o + j * 5 + c, none⟩ = some (smpC (L.getD j smp0) c)) → ∀ j, j < L.length → ∀ i v, (smpEncE L[j]!)[i]? = some v → w.cell? ⟨b, o + j * 5 + i, none⟩ = some v := by
        intro b o n L hh j hj i v hv
        rw [show L[j]! = L.getD j smp0 by rw [List.getElem!_eq_getElem?_getD, List.getD_eq_getElem?_getD]; rfl] at hv
        have hi : i < 5 := by
          have := (List.getElem?_eq_some_iff.1 hv).1
          simpa [smpEncE] using this
        rw [hh j hj i hi, ← hv]
        have : i = 0 ∨ i = 1 ∨ i = 2 ∨ i = 3 ∨ i = 4 := by omega
        rcases this with rfl | rfl | rfl | rfl | rfl <;> rfl
      have := Go.Proofs.AnyQ.slices_Equal equalLays 5 Try.isAgg50 Try.sizeOf50 smpEncE (fun _ => rfl) smpEq smpNeq b o xs.length c b' o' ys.length c' xs ys w (Nat.le_refl _) (Nat.le_refl _) (mx hx') (mx hy') (cellsOf (n := 0) hc) (cellsOf (n := 0) hc')
      rw [List.take_of_length_le (Nat.le_refl _), List.take_of_length_le (Nat.le_refl _), allEq_smps] at this
      exact this

end Go.Proofs.Ytgpiagdldcnijab
