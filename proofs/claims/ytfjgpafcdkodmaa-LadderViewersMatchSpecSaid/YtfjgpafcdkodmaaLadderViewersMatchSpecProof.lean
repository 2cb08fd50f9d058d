/-
  LadderViewersMatchSpec: whatever the input, the law returns true, and each argument reads as it did. No conditions. The frame is written by program after the kit's own shell; the walk is proved in the texts that are imported.
-/
import Derived.Test.YtfjgpafcdkodmaaRows
import Derived.WalkKit
import Derived.ProofKit
import Derived.OpenShut
import Derived.ShutString
import Derived.ChangeOld
import Derived.Below
import Derived.Lib.SmallJoins
import Derived.Test.YtfjgpafcdkodmaaViewsLaw
namespace Go.Proofs.Ytfjgpafcdkodmaa.ladderViewersMatchSpec
open Go.Proofs.Ytfjgpafcdkodmaa
open Go.ChangeShapes Go.WideShapes Go.ChangeAt Go.RowKit
set_option linter.unusedVariables false

theorem own : ownKnob Try.prog.godebug = none := by kernel_rfl
theorem laidOut : laidOutB Try.prog = true := by kernel_rfl

theorem walk (w : World) (a0 : Option Addr) (len0 cap0 : Nat) (a1 : Option Addr) (len1 cap1 : Nat) (p2 q2 r2 : Int) (w0 : ∃ ss, Rungs w (.slice a0 len0 cap0) ss ∧ ss.length = len0 ∧ ∀ y ∈ ss, rungWf y) (w1 : ∃ ss, Vws w (.slice a1 len1 cap1) ss ∧ ss.length = len1 ∧ ∀ y ∈ ss, vwWf y) (w2 : (Lit.int .i64 p2).wf = true ∧ (Lit.int .i64 q2).wf = true ∧ (Lit.int .i64 r2).wf = true) :
    Calls Try.prog 3 #[.slice a0 len0 cap0, .slice a1 len1 cap1, .agg #[.int .i64 p2, .int .i64 q2, .int .i64 r2]] w fun e w' => e = .returned (.bool true) ∧ Below w.heap.size w w' :=
  by obtain ⟨rs, h0, -, hw0⟩ := w0; obtain ⟨vs, h1, -, -⟩ := w1; exact viewslaw _ _ rs vs ⟨p2, q2, r2⟩ w h0 h1 (fun y hy => (hw0 y hy).1)

set_option maxRecDepth 100000 in
theorem lifted (os : Os) (started : os.Started) (H : Type) (enc : TypeId × Value → H) :
    ReturnsInHanded {} Try.checked os 3 .any (Rows.ladderViewersMatchSpecSpec.pre6 enc Try.prog Try.f3 Rows.ladderViewersMatchSpecRow.domain false) (Rows.ladderViewersMatchSpecSpec.post enc Try.prog Try.f3 false true false false) := by
  refine returnsInHanded_of_change (C := Try.checked) own started (by kernel_rfl) Try.func3
    (ChangeSpec.witness6 (enc := enc) (C := Try.checked) false ⟨#[], #[.slice none 0 0, .slice none 0 0, .agg #[.int .i64 0, .int .i64 0, .int .i64 0]], []⟩ 8 (by kernel_rfl) (by kernel_rfl) (by kernel_rfl) (by kernel_rfl)) ?_
  intro W base args ds gs before hval0 hW hcnd _
  have hval : ∀ (j : Nat) t v, Try.f3.params[j]? = some t → args[j]? = some v → Value.okWide Try.prog W .any base t v := hval0
  have hW' := hW
  obtain ⟨p, q, hA0, hV, rfl, hfz, hnd⟩ := hW
  have hA : DataW.TrodAll enc Try.prog W 0 (fun _ => true) true Try.f3.params.toList args.toList ds p := hA0
  rw [Try.params3] at hA hval
  obtain ⟨v0, vs0, d0, ds0, p0, q0, hargs, rfl, rfl, h0, r0⟩ := trodAll_cons hA
  obtain ⟨v1, vs1, d1, ds1, p1, q1, rfl, rfl, rfl, h1, r1⟩ := trodAll_cons r0
  obtain ⟨v2, vs2, d2, ds2, p2, q2, rfl, rfl, rfl, h2, r2⟩ := trodAll_cons r1
  obtain ⟨rfl, rfl, rfl⟩ := trodAll_nil r2
  obtain rfl : args = #[v0, v1, v2] := by cases args; simp_all
  obtain ⟨rfl, rfl⟩ := trodVars_none hV
  obtain ⟨a0, len0, cap0, rfl⟩ := okWide_slice Try.underlying22 (hval 0 22 v0 rfl rfl)
  have k0 := h0
  have lt0 : ∀ x ∈ p0, x.block < W.heap.size := by obtain ⟨m, hm⟩ := k0; exact DataW.trod_lt m _ _ _ hm
  have w0 : ∃ ss, Rungs W (.slice a0 len0 cap0) ss ∧ ss.length = len0 ∧ ∀ y ∈ ss, rungWf y := by
    obtain ⟨fuel, hf⟩ := h0
    exact Rungs.ofTrod (s := 9) (i := 3) Try.underlying22 (by kernel_rfl) Try.underlying37 ⟨rfl, rfl, rfl, rfl⟩ ⟨rfl, rfl, rfl, rfl⟩ (by kernel_rfl) (by kernel_rfl) Try.underlying9 Try.underlying3 hf
  obtain ⟨a1, len1, cap1, rfl⟩ := okWide_slice Try.underlying23 (hval 1 23 v1 rfl rfl)
  have k1 := h1
  have lt1 : ∀ x ∈ p1, x.block < W.heap.size := by obtain ⟨m, hm⟩ := k1; exact DataW.trod_lt m _ _ _ hm
  have w1 : ∃ ss, Vws W (.slice a1 len1 cap1) ss ∧ ss.length = len1 ∧ ∀ y ∈ ss, vwWf y := by
    obtain ⟨fuel, hf⟩ := h1
    exact Vws.ofTrod (i := 3) Try.underlying23 (by kernel_rfl) Try.underlying25 ⟨rfl, rfl, rfl⟩ ⟨rfl, rfl, rfl⟩ (by kernel_rfl) Try.underlying3 hf
  have k2 := h2
  have lt2 : ∀ x ∈ p2, x.block < W.heap.size := by obtain ⟨m, hm⟩ := k2; exact DataW.trod_lt m _ _ _ hm
  obtain ⟨u2, v2b, z2, y20, y21, y22, n2, e2, f2, g2, t20, t21, t22⟩ := Go.Joins.open_agg3 Try.underlying25 (by kernel_rfl) (by kernel_rfl) (hval 2 25 v2 rfl rfl) h2
  subst e2
  obtain ⟨s20, es20, -, x20⟩ := DataW.trod_int Try.underlying3 t20
  simp only [List.cons.injEq, and_true] at es20
  subst es20
  obtain ⟨s21, es21, -, x21⟩ := DataW.trod_int Try.underlying3 t21
  simp only [List.cons.injEq, and_true] at es21
  subst es21
  obtain ⟨s22, es22, -, x22⟩ := DataW.trod_int Try.underlying3 t22
  simp only [List.cons.injEq, and_true] at es22
  subst es22
  clear hA0 hval0
  refine (walk W a0 len0 cap0 a1 len1 cap1 s20 s21 s22 w0 w1 ⟨x20, x21, x22⟩).mono fun e W' ⟨he, bel⟩ => ?_
  subst he
  exact ⟨_, rfl, _, _, _, [], _, [], hW', trodAll_mk1 (shut_bool Try.underlying4 _), (trodAll_cons_mk (Below.trod laidOut (by kernel_rfl) (of_decide_eq_true (by kernel_rfl)) k0 bel lt0) (trodAll_cons_mk (Below.trod laidOut (by kernel_rfl) (of_decide_eq_true (by kernel_rfl)) k1 bel lt1) (trodAll_cons_mk (Below.trod laidOut (by kernel_rfl) (of_decide_eq_true (by kernel_rfl)) k2 bel lt2) trodAll_mk0))), rfl, bel.frame _, fun h => by cases h⟩

theorem over : Rows.ladderViewersMatchSpecRow.holds Try.pinned (OpenSpec.ofChange Rows.ladderViewersMatchSpecSpec) :=
  OpenClaim.holds_of_wide 3 Try.f3 rfl rfl rfl rfl rfl rfl rfl ⟨rfl, rfl, rfl, rfl, rfl⟩ rfl rfl rfl rfl rfl (by kernel_rfl) Try.func3 (by kernel_rfl)
    (of_decide_eq_true (by kernel_rfl)) (by unfold Func.isWrapper; first | (rw [if_pos (by decide +kernel)]; kernel_rfl) | (rw [if_neg (by decide +kernel)]; exact ⟨rfl, rfl⟩))
    (fun os started H enc _ => lifted os started H enc)

theorem proved : Rows.LadderViewersMatchSpecSaid := over
#print axioms proved
end Go.Proofs.Ytfjgpafcdkodmaa.ladderViewersMatchSpec
