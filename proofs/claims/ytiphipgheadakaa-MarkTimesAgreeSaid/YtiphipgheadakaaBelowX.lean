/- A frame with a hole: below block number B, but for block x, the world is as it was. For closures that write a captured variable. -/
import Derived.WalkKit
import Derived.Below
import Derived.OneCell
import Derived.WalkSmall
import Derived.Deep.QuietTactic
import Derived.Handy
import Derived.Lib.Hide
namespace Go.Proofs.Ytiphipgheadakaa
set_option linter.unusedVariables false
open Go.RowKit

structure BelowX (B x : Nat) (w w' : World) : Prop where
  os : w'.os = w.os
  tape : w'.tape = w.tape
  output : w'.output = w.output
  size : w.heap.size ≤ w'.heap.size
  block : ∀ k, k < B → k ≠ x → w'.heap[k]? = w.heap[k]?
theorem BelowX.refl (B x : Nat) (w : World) : BelowX B x w w := ⟨rfl, rfl, rfl, Nat.le_refl _, fun _ _ _ => rfl⟩
theorem BelowX.trans {B x : Nat} {a b c : World} (h : BelowX B x a b) (k : BelowX B x b c) : BelowX B x a c :=
  ⟨k.os.trans h.os, k.tape.trans h.tape, k.output.trans h.output, Nat.le_trans h.size k.size, fun i hi hx => (k.block i hi hx).trans (h.block i hi hx)⟩
theorem BelowX.of {B x : Nat} {a b : World} (h : Below B a b) : BelowX B x a b := ⟨h.os, h.tape, h.output, h.size, fun i hi _ => h.block i hi⟩
theorem BelowX.drewN {B x : Nat} {a b : World} (h : BelowX B x a b) (q : Nat) : BelowX B x a (b.drewN q) := h.trans (BelowX.of (below_drewN (Below.refl _ _) _))
theorem BelowX.drew {B x : Nat} {a b : World} (h : BelowX B x a b) : BelowX B x a b.drew := h.trans (BelowX.of ((Below.refl _ _).drew))
theorem BelowX.alloc {B x : Nat} {a b : World} (h : BelowX B x a b) (hB : B ≤ b.heap.size) (o : Obj) : BelowX B x a (b.alloc o) := h.trans (BelowX.of ((Below.refl _ _).alloc hB o))
theorem BelowX.set {B x : Nat} {a b : World} (h : BelowX B x a b) (o : Nat) (u : Value) : BelowX B x a (b.setCell ⟨x, o, none⟩ u) :=
  h.trans ⟨rfl, rfl, rfl, by simp [World.setCell], fun k _ hx => Below.heap_setCell _ _ _ _ hx⟩
theorem BelowX.own {B x : Nat} {a b : World} (h : BelowX B x a b) {p : Addr} (hp : B ≤ p.block) (u : Value) : BelowX B x a (b.setCell p u) := h.trans (BelowX.of ((Below.refl _ _).setCell hp u))
theorem BelowX.cell {B x : Nat} {w w' : World} (h : BelowX B x w w') {p : Addr} (hp : p.block < B) (hx : p.block ≠ x) : w'.cell? p = w.cell? p := World.cell?_of_block (w := w) (h.block p.block hp hx)
theorem BelowX.mono {B B' x : Nat} {w w' : World} (h : BelowX B x w w') (hB : B' ≤ B) : BelowX B' x w w' := ⟨h.os, h.tape, h.output, h.size, fun k hk hx => h.block k (by omega) hx⟩
/-- The hole lies above. -/
theorem BelowX.below {B B' x : Nat} {w w' : World} (h : BelowX B x w w') (hB : B' ≤ B) (hx : B' ≤ x) : Below B' w w' := ⟨h.os, h.tape, h.output, h.size, fun k hk => h.block k (by omega) (by omega)⟩
theorem BelowX.drewN' {B x : Nat} {a b : World} {q : Nat} (h : BelowX B x a b) : BelowX B x (a.drewN q) b := ⟨h.os, h.tape, h.output, h.size, fun i hi hx => h.block i hi hx⟩
theorem one_drewN {w : World} {b : Nat} {o : Obj} (h : w.heap[b]? = some o) (q : Nat) : (w.drewN q).heap[b]? = some o := h
theorem one_alloc {w : World} {b : Nat} {o o' : Obj} (h : w.heap[b]? = some o) : (w.alloc o').heap[b]? = some o := by
  have := lt_of_block h
  rw [Below.heap_alloc _ _ _ this]; exact h
theorem one_new (w : World) (o : Obj) : (w.alloc o).heap[w.heap.size]? = some o := by
  show (w.heap.push o)[w.heap.size]? = _
  simp
theorem one_below {B : Nat} {w w' : World} {b : Nat} {o : Obj} (h : w.heap[b]? = some o) (hb : Below B w w') (hB : b < B) : w'.heap[b]? = some o := by rw [hb.block b hB]; exact h
theorem one_belowX {B x : Nat} {w w' : World} {b : Nat} {o : Obj} (h : w.heap[b]? = some o) (hb : BelowX B x w w') (hB : b < B) (hx : b ≠ x) : w'.heap[b]? = some o := by rw [hb.block b hB hx]; exact h

theorem ownsRow_kept {w w' : World} {base : Nat} {e : TypeId} {size : Nat} {v : Value} {n B : Nat} {xs : List Value} (h : w.ownsRow base e size v n xs) (hb : Below B w w') (hB : w.heap.size ≤ B) : w'.ownsRow base e size v n xs := by
  have hl := h.lt
  refine ⟨h.1, ?_⟩
  rcases h.2 with h' | ⟨g, cap, cur, rfl, h1, h2, h3⟩
  · exact .inl h'
  · refine .inr ⟨g, cap, cur, rfl, h1, ?_, h3⟩
    have := (hl g rfl).2
    rw [hb.block g (by omega)]
    exact h2

end Go.Proofs.Ytiphipgheadakaa
