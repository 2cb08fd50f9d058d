/- The closure of CheckBreaks (program): what it is walked with. -/
import Derived.Test.YtiphipgheadakaaBks
import Derived.Test.YtiphipgheadakaaIntSet
import Derived.Test.YtiphipgheadakaaChkP0
namespace Go.Proofs.Ytiphipgheadakaa
set_option linter.unusedVariables false
set_option linter.unusedSimpArgs false
open Go.RowKit

theorem BelowX.grown {B x : Nat} {a b c : World} (h : BelowX B x a b) (hg : b.grownBy c (some x)) (hB : B ≤ b.heap.size) : BelowX B x a c :=
  h.trans ⟨hg.os, hg.tape, hg.output, hg.size, fun k hk hx => hg.block k (by omega) (by simpa using hx)⟩
theorem lfirst6 (f0 f1 f2 f3 f4 f5 : Int) (w : World) :
    Calls Try.prog 40 #[.slice (some ⟨w.heap.size, 0, none⟩) 6 6] (w.alloc (.cells #[.int .i64 f0, .int .i64 f1, .int .i64 f2, .int .i64 f3, .int .i64 f4, .int .i64 f5] 29)) fun e w' => e = .returned (.int .i64 (fstF [f0, f1, f2, f3, f4, f5])) ∧ w.alloc (.cells #[.int .i64 f0, .int .i64 f1, .int .i64 f2, .int .i64 f3, .int .i64 f4, .int .i64 f5] 29) = w' := by
  refine bfirst_any w.heap.size 0 6 6 [f0, f1, f2, f3, f4, f5] _ rfl (by omega) fun j hj => ?_
  rw [World.cell?_alloc_at _ _ _ _ (by simp)]
  match j, hj with
  | 0, _ => rfl
  | 1, _ => rfl
  | 2, _ => rfl
  | 3, _ => rfl
  | 4, _ => rfl
  | 5, _ => rfl

end Go.Proofs.Ytiphipgheadakaa
