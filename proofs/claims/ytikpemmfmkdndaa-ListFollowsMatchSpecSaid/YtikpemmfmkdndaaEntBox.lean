/- Blocks with the cells of an entry, of a playlist; the first one of faults. -/
import Derived.Test.YtikpemmfmkdndaaEnts
import Derived.Test.YtikpemmfmkdndaaBox0
import Derived.Test.YtikpemmfmkdndaaBelowX
namespace Go.Proofs.Ytikpemmfmkdndaa
set_option linter.unusedVariables false
set_option linter.unusedSimpArgs false
open Go.RowKit Go.Deep

structure EBox (W : World) (X : Nat) (e : Ent) (u : Value) : Prop where
  lt : X < W.heap.size
  c0 : W.cell? ⟨X, 0, none⟩ = some (.string e.uri)
  c1 : W.cell? ⟨X, 1, none⟩ = some (.int .i64 e.mi)
  c2 : W.cell? ⟨X, 2, none⟩ = some (.bool e.br)
  c3 : W.cell? ⟨X, 3, none⟩ = some (.int .i64 e.da)
  c4 : W.cell? ⟨X, 4, none⟩ = some (.string e.key)
  c5 : W.cell? ⟨X, 5, none⟩ = some (.bool e.gap)
  c6 : W.cell? ⟨X, 6, none⟩ = some (u)
theorem EBox.below {B : Nat} {W W' : World} {X : Nat} {e : Ent} {u : Value} (h : EBox W X e u) (hb : Below B W W') (hB : X < B) : EBox W' X e u :=
  ⟨Nat.lt_of_lt_of_le h.lt hb.size, (hb.cell (p := ⟨X, 0, none⟩) hB).trans h.c0, (hb.cell (p := ⟨X, 1, none⟩) hB).trans h.c1, (hb.cell (p := ⟨X, 2, none⟩) hB).trans h.c2, (hb.cell (p := ⟨X, 3, none⟩) hB).trans h.c3, (hb.cell (p := ⟨X, 4, none⟩) hB).trans h.c4, (hb.cell (p := ⟨X, 5, none⟩) hB).trans h.c5, (hb.cell (p := ⟨X, 6, none⟩) hB).trans h.c6⟩
theorem EBox.drewN {W : World} {X : Nat} {e : Ent} {u : Value} (h : EBox W X e u) (q : Nat) : EBox (W.drewN q) X e u := ⟨h.lt, h.c0, h.c1, h.c2, h.c3, h.c4, h.c5, h.c6⟩
theorem EBox.drew {W : World} {X : Nat} {e : Ent} {u : Value} (h : EBox W X e u) : EBox W.drew X e u := ⟨h.lt, h.c0, h.c1, h.c2, h.c3, h.c4, h.c5, h.c6⟩
theorem EBox.alloc {W : World} {X : Nat} {e : Ent} {u : Value} (h : EBox W X e u) (o : Obj) : EBox (W.alloc o) X e u :=
  h.below ((Below.refl W.heap.size W).alloc (Nat.le_refl _) o) h.lt
theorem EBox.new (w : World) (e : Ent) (u : Value) (t : TypeId) : EBox (w.alloc (.cells #[.string e.uri, .int .i64 e.mi, .bool e.br, .int .i64 e.da, .string e.key, .bool e.gap, u] t)) w.heap.size e u := by
  constructor
  · simp
  all_goals
    rw [World.cell?_alloc_at _ _ _ _ (by simp)]
    rfl
structure LBox (W : World) (X : Nat) (tg fi bk : Int) (v : Value) (en : Bool) : Prop where
  lt : X < W.heap.size
  c0 : W.cell? ⟨X, 0, none⟩ = some (.int .i64 tg)
  c1 : W.cell? ⟨X, 1, none⟩ = some (.int .i64 fi)
  c2 : W.cell? ⟨X, 2, none⟩ = some (.int .i64 bk)
  c3 : W.cell? ⟨X, 3, none⟩ = some (v)
  c4 : W.cell? ⟨X, 4, none⟩ = some (.bool en)
theorem LBox.below {B : Nat} {W W' : World} {X : Nat} {tg fi bk : Int} {v : Value} {en : Bool} (h : LBox W X tg fi bk v en) (hb : Below B W W') (hB : X < B) : LBox W' X tg fi bk v en :=
  ⟨Nat.lt_of_lt_of_le h.lt hb.size, (hb.cell (p := ⟨X, 0, none⟩) hB).trans h.c0, (hb.cell (p := ⟨X, 1, none⟩) hB).trans h.c1, (hb.cell (p := ⟨X, 2, none⟩) hB).trans h.c2, (hb.cell (p := ⟨X, 3, none⟩) hB).trans h.c3, (hb.cell (p := ⟨X, 4, none⟩) hB).trans h.c4⟩
theorem LBox.drewN {W : World} {X : Nat} {tg fi bk : Int} {v : Value} {en : Bool} (h : LBox W X tg fi bk v en) (q : Nat) : LBox (W.drewN q) X tg fi bk v en := ⟨h.lt, h.c0, h.c1, h.c2, h.c3, h.c4⟩
theorem LBox.drew {W : World} {X : Nat} {tg fi bk : Int} {v : Value} {en : Bool} (h : LBox W X tg fi bk v en) : LBox W.drew X tg fi bk v en := ⟨h.lt, h.c0, h.c1, h.c2, h.c3, h.c4⟩
theorem LBox.alloc {W : World} {X : Nat} {tg fi bk : Int} {v : Value} {en : Bool} (h : LBox W X tg fi bk v en) (o : Obj) : LBox (W.alloc o) X tg fi bk v en :=
  h.below ((Below.refl W.heap.size W).alloc (Nat.le_refl _) o) h.lt
theorem LBox.new (w : World) (tg fi bk : Int) (v : Value) (en : Bool) (t : TypeId) : LBox (w.alloc (.cells #[.int .i64 tg, .int .i64 fi, .int .i64 bk, v, .bool en] t)) w.heap.size tg fi bk v en := by
  constructor
  · simp
  all_goals
    rw [World.cell?_alloc_at _ _ _ _ (by simp)]
    rfl
theorem lfirst2 (f0 f1 : Int) (w : World) :
    Calls Try.prog 38 #[.slice (some ⟨w.heap.size, 0, none⟩) 2 2] (w.alloc (.cells #[.int .i64 f0, .int .i64 f1] 25)) fun e w' => e = .returned (.int .i64 (fstF [f0, f1])) ∧ w.alloc (.cells #[.int .i64 f0, .int .i64 f1] 25) = w' := by
  refine bfirst_any w.heap.size 0 2 2 [f0, f1] _ rfl (by omega) fun j hj => ?_
  rw [World.cell?_alloc_at _ _ _ _ (by simp)]
  match j, hj with
  | 0, _ => rfl
  | 1, _ => rfl
theorem lfirst3 (f0 f1 f2 : Int) (w : World) :
    Calls Try.prog 38 #[.slice (some ⟨w.heap.size, 0, none⟩) 3 3] (w.alloc (.cells #[.int .i64 f0, .int .i64 f1, .int .i64 f2] 25)) fun e w' => e = .returned (.int .i64 (fstF [f0, f1, f2])) ∧ w.alloc (.cells #[.int .i64 f0, .int .i64 f1, .int .i64 f2] 25) = w' := by
  refine bfirst_any w.heap.size 0 3 3 [f0, f1, f2] _ rfl (by omega) fun j hj => ?_
  rw [World.cell?_alloc_at _ _ _ _ (by simp)]
  match j, hj with
  | 0, _ => rfl
  | 1, _ => rfl
  | 2, _ => rfl
theorem lfirst6 (f0 f1 f2 f3 f4 f5 : Int) (w : World) :
    Calls Try.prog 38 #[.slice (some ⟨w.heap.size, 0, none⟩) 6 6] (w.alloc (.cells #[.int .i64 f0, .int .i64 f1, .int .i64 f2, .int .i64 f3, .int .i64 f4, .int .i64 f5] 25)) fun e w' => e = .returned (.int .i64 (fstF [f0, f1, f2, f3, f4, f5])) ∧ w.alloc (.cells #[.int .i64 f0, .int .i64 f1, .int .i64 f2, .int .i64 f3, .int .i64 f4, .int .i64 f5] 25) = w' := by
  refine bfirst_any w.heap.size 0 6 6 [f0, f1, f2, f3, f4, f5] _ rfl (by omega) fun j hj => ?_
  rw [World.cell?_alloc_at _ _ _ _ (by simp)]
  match j, hj with
  | 0, _ => rfl
  | 1, _ => rfl
  | 2, _ => rfl
  | 3, _ => rfl
  | 4, _ => rfl
  | 5, _ => rfl

end Go.Proofs.Ytikpemmfmkdndaa
