/- A region whose operations read, or call what only reads, but for a tail in one order: the walk, shut so that nothing unfolds it. -/
import Derived.WalkKit
import Derived.Below
import Derived.StillTailTactics
namespace Go.Proofs.Ytiphipgheadakaa
set_option linter.unusedVariables false
open Go.RowKit

/-- A still walk, shut, so that nothing unfolds it. -/
structure St (P : Program) (ops : Array Oper) (w : World) (Q : Act → Prop) (l : List Oper) (a : Act) : Prop where
  out : wpStill P ops w Q l a
theorem region_still_tail {P : Program} {id : Nat} {Q : Exit → Act → World → Prop} {a : Act} {w : World} {l : List Oper} (n : Nat) (hm : P.follows .mixedOrders = true) (hB : Region.lexTailB .any l.toArray n = true)
    (h : St P l.toArray w.drew (fun a' => wpList P l.toArray Q (l.drop n) a' w.drew) (l.take n) a) : (Code.region id l.toArray true).wp P Q a w := wp_region_still_tail n hm hB h.out
theorem St.step {P : Program} {ops : Array Oper} {w : World} {Q : Act → Prop} {a : Act} {o : Oper} {rest : List Oper}
    (h : ∀ K : Act → Prop, Hid (∀ a, St P ops w Q rest a → K a) → if Region.wanted o (yielded ops a.tmps) then o.still P a w K else K (a.put o.dst undef)) : St P ops w Q (o :: rest) a :=
  ⟨h _ (fun _ h => h.out)⟩
theorem St.skip {P : Program} {ops : Array Oper} {w : World} {Q : Act → Prop} {a : Act} {o : Oper} {rest : List Oper} (h : Region.wanted o (yielded ops a.tmps) = false) (k : St P ops w Q rest (a.put o.dst undef)) : St P ops w Q (o :: rest) a := ⟨by
  unfold wpStill
  rw [if_neg (by rw [h]; exact Bool.false_ne_true)]
  exact k.out⟩
theorem St.nil {P : Program} {ops : Array Oper} {w : World} {Q : Act → Prop} {a : Act} (h : Q a) : St P ops w Q [] a := ⟨h⟩
theorem st_of {P : Program} {f : FuncId} {args : Array Value} {w : World} {v : Value} (h : Calls P f args w fun e w' => e = .returned v ∧ w = w') : Calls P f args w fun e w' => e = .returned v ∧ w' = w :=
  h.mono fun e w' ⟨h1, h2⟩ => ⟨h1, h2.symm⟩


end Go.Proofs.Ytiphipgheadakaa
