/- Rows of events. -/
import Derived.Test.YtiphipgheadakaaDue0
import Derived.Deep.RegionHeld3
import Derived.Deep.AppendLies
namespace Go.Proofs.Ytiphipgheadakaa
set_option linter.unusedVariables false
set_option linter.unusedSimpArgs false
open Go.RowKit

def evC (y : Ev) : List Value := [.string ⟨#[]⟩, .int .i64 y.pl, .string y.ad, .int .i64 y.ki]
def ecells (L : List Ev) : List Value := L.flatMap evC
theorem ecells_snoc (L : List Ev) (y : Ev) : ecells (L ++ [y]) = ecells L ++ evC y := by simp [ecells]
theorem ecells_append (L M : List Ev) : ecells (L ++ M) = ecells L ++ ecells M := by simp [ecells]
theorem ecells_len (L : List Ev) : (ecells L).length = L.length * 4 := by
  induction L with
  | nil => rfl
  | cons y L ih => rw [show ecells (y :: L) = evC y ++ ecells L from rfl, List.length_append, ih, List.length_cons]; simp [evC]; omega
theorem Try.infoEv : (Try.prog.info? 58).map (fun i => (i.zero, i.size, i.bytes)) = some (some (.agg #[.string ⟨#[]⟩, .int .i64 0, .string ⟨#[]⟩, .int .i64 0]), 4, 48) := by kernel_rfl
theorem own_base {w : World} {B C : Nat} {e : TypeId} {size n : Nat} {v : Value} {xs : List Value} (h : w.ownsRow C e size v n xs) (hBC : B ≤ C) : w.ownsRow B e size v n xs := by
  refine ⟨h.1, ?_⟩
  rcases h.2 with h' | ⟨g, cap, cur, hv, h1, h2⟩
  · exact .inl h'
  · exact .inr ⟨g, cap, cur, hv, by omega, h2⟩
/-- A row of events, beside a block with a part. -/
structure Dw (w3 W : World) (Z Y : Nat) (x : Prt) (v : Value) (L : List Ev) : Prop where
  row : W.ownsRow Z 58 4 v L.length (ecells L)
  ne : v.ownBlock ≠ some Y
  box : PBox W Y x
  bel : Below Z w3 W
  sz : Z ≤ W.heap.size
theorem Dw.drewN {w3 W : World} {Z Y : Nat} {x : Prt} {v : Value} {L : List Ev} (h : Dw w3 W Z Y x v L) (q : Nat) : Dw w3 (W.drewN q) Z Y x v L := ⟨h.row, h.ne, h.box.drewN q, below_drewN h.bel q, h.sz⟩
theorem Dw.below {w3 W W' : World} {Z Y : Nat} {x : Prt} {v : Value} {L : List Ev} (h : Dw w3 W Z Y x v L) (hb : Below W.heap.size W W') : Dw w3 W' Z Y x v L :=
  ⟨ownsRow_kept h.row hb (Nat.le_refl _), h.ne, h.box.below hb h.box.lt, h.bel.trans (hb.mono h.sz), Nat.le_trans h.sz hb.size⟩
theorem Dw.app {w3 W w9 : World} {Z Y g cap : Nat} {x : Prt} {v : Value} {L : List Ev} {y : Ev} {o : Obj} (h : Dw w3 W Z Y x v L) (hown : w9.ownsRow Z 58 4 (.slice (some ⟨g, 0, none⟩) (L.length + 1) cap) (L.length + 1) (ecells L ++ evC y)) (hg : (W.alloc o).grownBy w9 v.ownBlock)
    (hl : v.ownBlock = some g ∨ g = W.heap.size + 1) : Dw w3 w9 Z Y x (.slice (some ⟨g, 0, none⟩) (L.length + 1) cap) (L ++ [y]) := by
  have hs : (W.alloc o).heap.size = W.heap.size + 1 := by simp
  have hlt := h.box.lt
  have hc : ∀ i u, W.cell? ⟨Y, i, none⟩ = some u → w9.cell? ⟨Y, i, none⟩ = some u := fun i u hu => by
    rw [hg.cell_far ⟨Y, i, none⟩ (by rw [hs]; show Y < _; omega) (Ne.symm h.ne), World.cell?_alloc_old _ _ _ (Nat.ne_of_lt hlt)]; exact hu
  have hsz := hg.size
  rw [hs] at hsz
  refine ⟨?_, ?_, ⟨by omega, hc _ _ h.box.c0, hc _ _ h.box.c1, hc _ _ h.box.c2⟩, ?_, by have := h.sz; omega⟩
  · rw [List.length_append, ecells_snoc]; exact hown
  · intro e
    simp only [Value.ownBlock, Option.some.injEq] at e
    rcases hl with hl | hl
    · rw [e] at hl; exact h.ne hl
    · omega
  · exact (h.bel.alloc h.sz o).grown hg (by have := h.sz; rw [hs]; omega) (fun q hq => (h.row.lt q hq).1)

end Go.Proofs.Ytiphipgheadakaa
