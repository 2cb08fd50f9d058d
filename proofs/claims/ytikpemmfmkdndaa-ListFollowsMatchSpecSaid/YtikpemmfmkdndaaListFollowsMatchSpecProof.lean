/-
  ListFollowsMatchSpec: whatever the input, the law returns true, and each argument reads as it did. No conditions. The frame is written by program after the kit's own shell; the walk is proved in the texts that are imported.
-/
import Derived.Test.YtikpemmfmkdndaaRows
import Derived.WalkKit
import Derived.ProofKit
import Derived.OpenShut
import Derived.ShutString
import Derived.ChangeOld
import Derived.Below
import Derived.Lib.SmallJoins
import Derived.Test.YtikpemmfmkdndaaFolLaw
import Derived.Test.YtikpemmfmkdndaaFrameL
namespace Go.Proofs.Ytikpemmfmkdndaa.listFollowsMatchSpec
open Go.Proofs.Ytikpemmfmkdndaa
open Go.ChangeShapes Go.WideShapes Go.ChangeAt Go.RowKit
set_option linter.unusedVariables false

theorem own : ownKnob Try.prog.godebug = none := by kernel_rfl
theorem laidOut : laidOutB Try.prog = true := by kernel_rfl

theorem walk (w : World) (tg0 fi0 bk0 : Int) (a0 : Option Addr) (len0 cap0 : Nat) (en0 : Bool) (tg1 fi1 bk1 : Int) (a1 : Option Addr) (len1 cap1 : Nat) (en1 : Bool) (w0 : ∃ es, Ents w (.slice a0 len0 cap0) es ∧ es.length = len0 ∧ ∀ y ∈ es, EntWf y) (w1 : ∃ es, Ents w (.slice a1 len1 cap1) es ∧ es.length = len1 ∧ ∀ y ∈ es, EntWf y) :
    Calls Try.prog 5 #[.agg #[.int .i64 tg0, .int .i64 fi0, .int .i64 bk0, .slice a0 len0 cap0, .bool en0], .agg #[.int .i64 tg1, .int .i64 fi1, .int .i64 bk1, .slice a1 len1 cap1, .bool en1]] w fun e w' => e = .returned (.bool true) ∧ Below w.heap.size w w' :=
  by obtain ⟨es, ⟨Us, hE⟩, hn, hwf⟩ := w0; obtain ⟨fs, ⟨Vs, hF⟩, hm, hwf'⟩ := w1; exact folslaw tg0 fi0 bk0 a0 len0 cap0 en0 es Us tg1 fi1 bk1 a1 len1 cap1 en1 fs Vs w hE hn hwf hF hm hwf'

set_option maxRecDepth 100000 in
theorem lifted (os : Os) (started : os.Started) (H : Type) (enc : TypeId × Value → H) :
    ReturnsInHanded {} Try.checked os 5 .any (Rows.listFollowsMatchSpecSpec.pre6 enc Try.prog Try.f5 Rows.listFollowsMatchSpecRow.domain false) (Rows.listFollowsMatchSpecSpec.post enc Try.prog Try.f5 false true false false) := by
  refine returnsInHanded_of_change (C := Try.checked) own started (by kernel_rfl) Try.func5
    (ChangeSpec.witness6 (enc := enc) (C := Try.checked) false ⟨#[], #[.agg #[.int .i64 0, .int .i64 0, .int .i64 0, .slice none 0 0, .bool false], .agg #[.int .i64 0, .int .i64 0, .int .i64 0, .slice none 0 0, .bool false]], []⟩ 8 (by kernel_rfl) (by kernel_rfl) (by kernel_rfl) (by kernel_rfl)) ?_
  intro W base args ds gs before hval0 hW hcnd _
  have hval : ∀ (j : Nat) t v, Try.f5.params[j]? = some t → args[j]? = some v → Value.okWide Try.prog W .any base t v := hval0
  have hW' := hW
  obtain ⟨p, q, hA0, hV, rfl, hfz, hnd⟩ := hW
  have hA : DataW.TrodAll enc Try.prog W 0 (fun _ => true) true Try.f5.params.toList args.toList ds p := hA0
  rw [Try.params5] at hA hval
  obtain ⟨v0, vs0, d0, ds0, p0, q0, hargs, rfl, rfl, h0, r0⟩ := trodAll_cons hA
  obtain ⟨v1, vs1, d1, ds1, p1, q1, rfl, rfl, rfl, h1, r1⟩ := trodAll_cons r0
  obtain ⟨rfl, rfl, rfl⟩ := trodAll_nil r1
  obtain rfl : args = #[v0, v1] := by cases args; simp_all
  obtain ⟨rfl, rfl⟩ := trodVars_none hV
  have k0 := h0
  have lt0 : ∀ x ∈ p0, x.block < W.heap.size := by obtain ⟨m, hm⟩ := k0; exact DataW.trod_lt m _ _ _ hm
  obtain ⟨tg0, fi0, bk0, a0, len0, cap0, en0, e0, w0⟩ := lst_open (s := 9) (i := 3) (bo := 4) (l := 30) (sl := 22) (e := 32) Try.underlying24 (by kernel_rfl) ⟨rfl, rfl, rfl, rfl, rfl⟩ ⟨rfl, rfl, rfl, rfl, rfl⟩ Try.underlying22 (by kernel_rfl) Try.underlying32 ⟨rfl, rfl, rfl, rfl, rfl, rfl, rfl⟩ ⟨rfl, rfl, rfl, rfl, rfl, rfl, rfl⟩ (by kernel_rfl) (by kernel_rfl) (by kernel_rfl) (by kernel_rfl) (by kernel_rfl) Try.underlying9 Try.underlying3 Try.underlying4 Try.underlying30 (hval 0 24 v0 rfl rfl) h0
  subst e0
  have k1 := h1
  have lt1 : ∀ x ∈ p1, x.block < W.heap.size := by obtain ⟨m, hm⟩ := k1; exact DataW.trod_lt m _ _ _ hm
  obtain ⟨tg1, fi1, bk1, a1, len1, cap1, en1, e1, w1⟩ := lst_open (s := 9) (i := 3) (bo := 4) (l := 30) (sl := 22) (e := 32) Try.underlying24 (by kernel_rfl) ⟨rfl, rfl, rfl, rfl, rfl⟩ ⟨rfl, rfl, rfl, rfl, rfl⟩ Try.underlying22 (by kernel_rfl) Try.underlying32 ⟨rfl, rfl, rfl, rfl, rfl, rfl, rfl⟩ ⟨rfl, rfl, rfl, rfl, rfl, rfl, rfl⟩ (by kernel_rfl) (by kernel_rfl) (by kernel_rfl) (by kernel_rfl) (by kernel_rfl) Try.underlying9 Try.underlying3 Try.underlying4 Try.underlying30 (hval 1 24 v1 rfl rfl) h1
  subst e1
  clear hA0 hval0
  refine (walk W tg0 fi0 bk0 a0 len0 cap0 en0 tg1 fi1 bk1 a1 len1 cap1 en1 w0 w1).mono fun e W' ⟨he, bel⟩ => ?_
  subst he
  exact ⟨_, rfl, _, _, _, [], _, [], hW', trodAll_mk1 (shut_bool Try.underlying4 _), (trodAll_cons_mk (Below.trod laidOut (by kernel_rfl) (of_decide_eq_true (by kernel_rfl)) k0 bel lt0) (trodAll_cons_mk (Below.trod laidOut (by kernel_rfl) (of_decide_eq_true (by kernel_rfl)) k1 bel lt1) trodAll_mk0)), rfl, bel.frame _, fun h => by cases h⟩

theorem over : Rows.listFollowsMatchSpecRow.holds Try.pinned (OpenSpec.ofChange Rows.listFollowsMatchSpecSpec) :=
  OpenClaim.holds_of_wide 5 Try.f5 rfl rfl rfl rfl rfl rfl rfl ⟨rfl, rfl, rfl, rfl, rfl⟩ rfl rfl rfl rfl rfl (by kernel_rfl) Try.func5 (by kernel_rfl)
    (of_decide_eq_true (by kernel_rfl)) (by unfold Func.isWrapper; first | (rw [if_pos (by decide +kernel)]; kernel_rfl) | (rw [if_neg (by decide +kernel)]; exact ⟨rfl, rfl⟩))
    (fun os started H enc _ => lifted os started H enc)

theorem proved : Rows.ListFollowsMatchSpecSaid := over
#print axioms proved
end Go.Proofs.Ytikpemmfmkdndaa.listFollowsMatchSpec
