/- A set of numbers that a call makes: map[int]bool. -/
import Derived.Test.YtiphipgheadakaaBelowX
import Derived.Test.YtiphipgheadakaaRows
import Derived.Maps.Own
import Derived.Maps.OwnOps
import Derived.Maps.Views
import Derived.Maps.OwnSet
namespace Go.Proofs.Ytiphipgheadakaa
set_option linter.unusedVariables false
set_option linter.unusedSimpArgs false
open Go.RowKit

theorem setLaw : Maps.Keyed Try.prog 3 := Maps.int_keyed Try.underlying3
theorem setZero (w : World) : (zeroValue 4).run Try.prog w = .ok (.bool false) w := by kernel_rfl
theorem plainElem_bool_inv {H : Type} {P : Program} {e : TypeId} (he : P.underlying e = some .bool) {v : Value} {z : DataW H × List MemPlace} (h : plainElem P e v = some z) : ∃ x, v = .bool x ∧ z = (.lit (.bool x), []) := by
  unfold plainElem at h
  rw [he] at h
  cases v <;> simp at h
  exact ⟨_, rfl, h.symm⟩
/-- Block MB is a set of at most n numbers: f says which. -/
def Sn (W : World) (MB n : Nat) (f : Int → Bool) : Prop :=
  ∃ D : DataW Unit, W.ownsMap Try.prog 3 (plainElem Try.prog 4) MB n D ∧ ∀ x, D.atKey (.int .i64 x) (.lit (.bool false)) = .lit (.bool (f x))
theorem Sn.made (w : World) : Sn (w.alloc (.map #[] 0)) w.heap.size 0 (fun _ => false) := ⟨.map [], World.ownsMap_made _ _ _ _, fun x => rfl⟩
theorem Sn.lt {W : World} {MB n : Nat} {f : Int → Bool} (h : Sn W MB n f) : MB < W.heap.size := by obtain ⟨D, h, -⟩ := h; exact h.lt
theorem Sn.alloc {W : World} {MB n : Nat} {f : Int → Bool} (h : Sn W MB n f) (o : Obj) : Sn (W.alloc o) MB n f := by obtain ⟨D, h1, h2⟩ := h; exact ⟨D, h1.alloc o, h2⟩
theorem Sn.drew {W : World} {MB n : Nat} {f : Int → Bool} (h : Sn W MB n f) : Sn W.drew MB n f := h
theorem Sn.drewN {W : World} {MB n : Nat} {f : Int → Bool} (h : Sn W MB n f) (q : Nat) : Sn (W.drewN q) MB n f := h
theorem Sn.setCell {W : World} {MB n : Nat} {f : Int → Bool} (h : Sn W MB n f) {a : Addr} (ha : MB ≠ a.block) (u : Value) : Sn (W.setCell a u) MB n f := by obtain ⟨D, h1, h2⟩ := h; exact ⟨D, h1.setCell ha u, h2⟩
theorem Sn.below {W W' : World} {B MB n : Nat} {f : Int → Bool} (h : Sn W MB n f) (hb : Below B W W') (hB : MB < B) : Sn W' MB n f := by
  obtain ⟨D, ⟨es, clock, h1, h3⟩, h2⟩ := h
  exact ⟨D, ⟨es, clock, (hb.block MB hB).trans h1, h3⟩, h2⟩
theorem Sn.look {W : World} {MB n : Nat} {f : Int → Bool} (h : Sn W MB n f) {x : Int} (hx : (Lit.int .i64 x).wf = true) : (Instr.lookup 79 (.map (some MB)) (.int .i64 x) false).run Try.prog W = .ok (.bool (f x)) W := by
  obtain ⟨D, h1, h2⟩ := h
  obtain ⟨v, ps, hrun, hv⟩ := h1.lookup setLaw Try.underlying79 (setZero W) (plainElem_bool Try.underlying4 false) (Maps.keyOf_int_mk Try.underlying3 hx)
  obtain ⟨y, rfl, hy⟩ := plainElem_bool_inv Try.underlying4 hv
  simp only [Prod.mk.injEq] at hy
  rw [h2] at hy
  have : f x = y := by simpa using hy.1
  rw [this]; exact hrun
theorem isKeyLit_int (x : Int) : WideAt.IsKeyLit (.int .i64 x) := by trivial
theorem wpList_set {w : World} {ops : Array Oper} {rest : List Oper} {o : Oper} {a : Act} {Q : Exit → Act → World → Prop}
    (hg : o.guard = none) (m x v : Operand) (hop : o.op = Op.mapUpdate 79 m x v) (MB n : Nat) (f : Int → Bool)
    (hm : a.eval m = .map (some MB)) (hS : Sn w MB n f) (hn : n < maxLen) (y : Int) (hx : a.eval x = .int .i64 y) (hv : a.eval v = .bool true) (hy : (Lit.int .i64 y).wf = true)
    (hK : ∀ w', Sn w' MB (n + 1) (fun z => z == y || f z) → w.grownBy w' (some MB) → wpList Try.prog ops Q rest (a.put o.dst undef) w') : wpList Try.prog ops Q (o :: rest) a w := by
  obtain ⟨D, h1, h2⟩ := hS
  refine wpList_mapUpdate_own w hg m x v _ hop _ _ setLaw Try.underlying79 (plainElem Try.prog 4) MB n D hm h1 hn _ _ _ hx hv (Maps.keyOf_int_mk Try.underlying3 hy) _ [] (plainElem_bool Try.underlying4 true) (fun w' h3 h4 => hK w' ⟨_, h3, fun z => ?_⟩ h4)
  by_cases e : z = y
  · subst e
    rw [Maps.atKey_put_same h1.isMap (isKeyLit_int z)]
    simp
  · rw [Maps.atKey_put_other (by simp [e]), h2]
    simp [e]

end Go.Proofs.Ytiphipgheadakaa
