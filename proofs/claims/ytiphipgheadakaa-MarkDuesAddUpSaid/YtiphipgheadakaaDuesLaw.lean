/- MarkDuesMatchSpec: whatever the input, the law returns true: the walk. -/
import Derived.Test.YtiphipgheadakaaEqE
import Derived.Test.YtiphipgheadakaaSum
namespace Go.Proofs.Ytiphipgheadakaa
set_option linter.unusedVariables false
set_option linter.unusedSimpArgs false
open Go.RowKit

set_option maxRecDepth 100000 in
set_option maxHeartbeats 8000000 in
theorem dueslaw (v : Value) (ps : List Prt) (a b : Int) (w : World) (hS : Prts w v ps) (hwf : ∀ y ∈ ps, y.ad.size ≤ maxLen) :
    Calls Try.prog 7 #[v, .int .i64 a, .int .i64 b] w fun e w' => e = .returned (.bool true) ∧ Below w.heap.size w w' := by
  have HD := Lib.hid (Due_any v ps a b w hS hwf)
  have HR : Hid (∀ W, Below w.heap.size w W → Calls Try.prog 32 #[v, .int .i64 a, .int .i64 b] W fun e w' => (∃ u, e = .returned (.tuple #[u, .int .i64 (dueF ps a b)]) ∧ w'.ownsRow W.heap.size 58 4 u (dueL ps a b).length (ecells (dueL ps a b))) ∧ Below W.heap.size W w') := Lib.hid (fun W hb => rDue_any v ps a b W (hS.below hb (Nat.le_refl _)) hwf)
  obtain ⟨F, hF⟩ : ∃ F, dueF ps a b = F := ⟨_, rfl⟩
  obtain ⟨L, hL⟩ : ∃ L, dueL ps a b = L := ⟨_, rfl⟩
  rw [hF, hL] at HD HR
  have eF : (F == F) = true := by simp
  clear hF hL hS hwf
  go_enter Try.func7, Try.ntmps7
  go_wp2_with fail
  refine HD.out.mono ?_; rintro e w1 ⟨⟨u, rfl, hu⟩, b1⟩
  have U1 := Lib.hid (Evr.ofOwn hu)
  clear hu HD
  go_wp2_with fail
  refine (HR.out _ b1).mono ?_; rintro e w2 ⟨⟨y, rfl, hy⟩, b2⟩
  have U2 := Lib.hid (Evr.ofOwn hy)
  have U1 := Lib.hid (U1.out.below b2 (Nat.le_refl _))
  have b2 := b1.trans (b2.mono b1.size)
  clear hy HR b1
  go_wp2_with fail
  refine (equalE_same _ _ _ _ U1.out U2.out).mono ?_; rintro e w3 ⟨rfl, q, rfl⟩
  have b2 := below_drewN b2 q
  go_wp2_with fail
  refine (awake7_any _).mono ?_; rintro e w4 ⟨rfl, b4⟩
  go_wp2_with fail
  go_ret
  exact ⟨rfl, b2.trans (b4.mono b2.size)⟩

end Go.Proofs.Ytiphipgheadakaa
