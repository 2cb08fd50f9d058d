/- Slices of breaks; a block with a break. -/
import Derived.Test.YtiphipgheadakaaRecs
import Derived.Test.YtiphipgheadakaaBkPlain
import Derived.Test.YtiphipgheadakaaBelowX
import Derived.Deep.RegionHeld
namespace Go.Proofs.Ytiphipgheadakaa
set_option linter.unusedVariables false
set_option linter.unusedSimpArgs false
open Go.RowKit Go.Deep

def bkC (x : Bk) : Nat → Value
  | 0 => .int .i64 x.ev
  | 1 => .int .i64 x.be
  | _ => .int .i64 x.en
def bkWf (x : Bk) : Prop := (Lit.int .i64 x.ev).wf = true ∧ (Lit.int .i64 x.be).wf = true ∧ (Lit.int .i64 x.en).wf = true
/-- The slice value v reads as the parts rs. -/
def Bks (w : World) (v : Value) (rs : List Bk) : Prop := Recs w v rs.length 3 fun j c => bkC (rs.getD j bk0) c

theorem Bks.nil (w : World) : Bks w (.slice none 0 0) [] := Recs.nil w 3 _
theorem Bks.below {B : Nat} {w w' : World} {v : Value} {rs : List Bk} (h : Bks w v rs) (hb : Below B w w') (hB : w.heap.size ≤ B) : Bks w' v rs := Recs.below h hb hB
theorem Bks.drewN {w : World} {v : Value} {rs : List Bk} (h : Bks w v rs) (q : Nat) : Bks (w.drewN q) v rs := h
theorem Bks.parts {w : World} {v : Value} {rs : List Bk} (h : Bks w v rs) : ∃ a cap, v = .slice a rs.length cap := Recs.parts h
theorem Bks.max {w : World} {a : Option Addr} {n cap : Nat} {rs : List Bk} (h : Bks w (.slice a n cap) rs) : n = rs.length ∧ rs.length ≤ maxLen := by
  rcases h with ⟨a, c, hv, h0⟩ | ⟨b', off', cap', hv, hne, hlt, hl, hm, hc⟩
  · simp only [Value.slice.injEq] at hv
    exact ⟨by omega, by unfold maxLen; omega⟩
  · simp only [Value.slice.injEq] at hv
    exact ⟨hv.2.1, by omega⟩
/-- The cells of one part. -/
theorem Bks.cells {w : World} {b off n cap : Nat} {rs : List Bk} (h : Bks w (.slice (some ⟨b, off, none⟩) n cap) rs) (j : Nat) (hj : j < rs.length) :
    w.cell? ⟨b, off + j * 3, none⟩ = some (.int .i64 (rs.getD j bk0).ev) ∧ w.cell? ⟨b, off + j * 3 + 1, none⟩ = some (.int .i64 (rs.getD j bk0).be) ∧ w.cell? ⟨b, off + j * 3 + 2, none⟩ = some (.int .i64 (rs.getD j bk0).en) := by
  rcases h with ⟨a, c, hv, h0⟩ | ⟨b', off', cap', hv, hne, hlt, hl, hm, hc⟩
  · omega
  · simp only [Value.slice.injEq, Option.some.injEq, Addr.mk.injEq, and_true] at hv
    obtain ⟨⟨rfl, rfl⟩, rfl, rfl⟩ := hv
    exact ⟨hc j hj 0 (by omega), hc j hj 1 (by omega), hc j hj 2 (by omega)⟩
theorem Bks.block {w : World} {b off n cap : Nat} {rs : List Bk} (h : Bks w (.slice (some ⟨b, off, none⟩) n cap) rs) (h0 : 0 < rs.length) : b < w.heap.size ∧ n ≤ cap ∧ cap ≤ maxLen := by
  rcases h with ⟨a, c, hv, h1⟩ | ⟨b', off', cap', hv, hne, hlt, hl, hm, hc⟩
  · omega
  · simp only [Value.slice.injEq, Option.some.injEq, Addr.mk.injEq, and_true] at hv
    obtain ⟨⟨rfl, rfl⟩, rfl, rfl⟩ := hv
    exact ⟨hlt, hl, hm⟩
/-- A slice that is not empty lies in a block. -/
theorem Bks.spot {w : World} {v : Value} {rs : List Bk} (h : Bks w v rs) (h0 : 0 < rs.length) : ∃ b off cap, v = .slice (some ⟨b, off, none⟩) rs.length cap ∧ b < w.heap.size ∧ rs.length ≤ cap ∧ cap ≤ maxLen := by
  rcases h with ⟨a, c, hv, h1⟩ | ⟨b', off', cap', hv, hne, hlt, hl, hm, hc⟩
  · omega
  · exact ⟨b', off', cap', hv, hlt, hl, hm⟩

theorem bk_open {H : Type} {enc : TypeId × Value → H} {P : Program} {w : World} {base : Nat} {held : Bool} {e i : TypeId} {f0 f1 f2 : Field} {fuel : Nat} {v0 v1 v2 : Value} {x : DataW H × List MemPlace}
    (he : P.underlying e = some (.struct #[f0, f1, f2])) (o : f0.offset = 0 ∧ f1.offset = 1 ∧ f2.offset = 2)
    (t : f0.type = i ∧ f1.type = i ∧ f2.type = i) (ci : P.cellsOf i = 1) (ui : P.underlying i = some (.int .i64))
    (h : DataW.trod enc P w base (fun _ => true) held fuel e [v0, v1, v2] = some x) :
    ∃ y : Bk, bkWf y ∧ v0 = .int .i64 y.ev ∧ v1 = .int .i64 y.be ∧ v2 = .int .i64 y.en := by
  obtain ⟨o0, o1, o2⟩ := o
  obtain ⟨t0, t1, t2⟩ := t
  obtain ⟨xs, n, _, _, _, hxl, hf⟩ := DataW.trod_struct he h
  match xs, hxl with
  | [y0, y1, y2], _ =>
    have g0 := hf 0 f0 rfl
    have g1 := hf 1 f1 rfl
    have g2 := hf 2 f2 rfl
    simp [o0, o1, o2, t0, t1, t2, ci] at g0 g1 g2
    obtain ⟨a0, e0, -, w0⟩ := DataW.trod_int ui g0
    obtain ⟨a1, e1, -, w1⟩ := DataW.trod_int ui g1
    obtain ⟨a2, e2, -, w2⟩ := DataW.trod_int ui g2
    simp only [List.cons.injEq, and_true] at e0 e1 e2
    exact ⟨⟨a0, a1, a2⟩, ⟨w0, w1, w2⟩, e0, e1, e2⟩

/-- What the frame of a law hands over. -/
theorem Bks.ofTrod {H : Type} {enc : TypeId × Value → H} {P : Program} {w : World} {base : Nat} {held : Bool} {t e i : TypeId} {f0 f1 f2 : Field} {fuel : Nat} {a : Option Addr} {len cap : Nat} {x : DataW H × List MemPlace}
    (ht : P.underlying t = some (.slice e)) (ce : P.cellsOf e = 3)
    (he : P.underlying e = some (.struct #[f0, f1, f2])) (o : f0.offset = 0 ∧ f1.offset = 1 ∧ f2.offset = 2)
    (t' : f0.type = i ∧ f1.type = i ∧ f2.type = i) (ci : P.cellsOf i = 1) (ui : P.underlying i = some (.int .i64))
    (h : DataW.trod enc P w base (fun _ => true) held fuel t [.slice a len cap] = some x) :
    ∃ rs, Bks w (.slice a len cap) rs ∧ rs.length = len ∧ ∀ y ∈ rs, bkWf y := by
  obtain ⟨F, hF, hel⟩ := Recs.ofTrod ht ce (by omega) h
  have hex : ∀ j, j < len → ∃ y : Bk, bkWf y ∧ ∀ c, c < 3 → F j c = bkC y c := by
    intro j hj
    obtain ⟨n, d, hd⟩ := hel j hj
    have hd' : DataW.trod enc P w base (fun _ => true) held n e [F j 0, F j 1, F j 2] = some d := hd
    obtain ⟨y, hy, e0, e1, e2⟩ := bk_open he o t' ci ui hd'
    refine ⟨y, hy, fun c hc => ?_⟩
    have : c = 0 ∨ c = 1 ∨ c = 2 := by omega
    rcases this with rfl | rfl | rfl
    · exact e0
    · exact e1
    · exact e2
  obtain ⟨f, hf⟩ := choose_lt hex
  refine ⟨(List.range len).map f, ?_, by simp, fun y hy => ?_⟩
  · unfold Bks
    rw [List.length_map, List.length_range]
    refine hF.congr fun j hj c hc => ?_
    have e : ((List.range len).map f).getD j bk0 = f j := by simp [List.getD_eq_getElem?_getD, hj]
    rw [e]
    exact (hf j hj).2 c hc
  · obtain ⟨i, hi, rfl⟩ := List.mem_map.1 hy
    exact (hf i (by simpa using hi)).1

/-- Block X has the cells of a part. -/
structure BBox (W : World) (X : Nat) (p : Bk) : Prop where
  lt : X < W.heap.size
  c0 : W.cell? ⟨X, 0, none⟩ = some (.int .i64 p.ev)
  c1 : W.cell? ⟨X, 1, none⟩ = some (.int .i64 p.be)
  c2 : W.cell? ⟨X, 2, none⟩ = some (.int .i64 p.en)
theorem BBox.below {B : Nat} {W W' : World} {X : Nat} {p : Bk} (h : BBox W X p) (hb : Below B W W') (hB : X < B) : BBox W' X p :=
  ⟨Nat.lt_of_lt_of_le h.lt hb.size, (hb.cell (p := ⟨X, 0, none⟩) hB).trans h.c0, (hb.cell (p := ⟨X, 1, none⟩) hB).trans h.c1, (hb.cell (p := ⟨X, 2, none⟩) hB).trans h.c2⟩
theorem BBox.drewN {W : World} {X : Nat} {p : Bk} (h : BBox W X p) (q : Nat) : BBox (W.drewN q) X p := ⟨h.lt, h.c0, h.c1, h.c2⟩
theorem BBox.drew {W : World} {X : Nat} {p : Bk} (h : BBox W X p) : BBox W.drew X p := ⟨h.lt, h.c0, h.c1, h.c2⟩
theorem BBox.alloc {W : World} {X : Nat} {p : Bk} (h : BBox W X p) (o : Obj) : BBox (W.alloc o) X p := h.below ((Below.refl W.heap.size W).alloc (Nat.le_refl _) o) h.lt
theorem BBox.other {W : World} {X Y o : Nat} {p : Bk} (h : BBox W X p) (hne : Y ≠ X) (u : Value) : BBox (W.setCell ⟨Y, o, none⟩ u) X p :=
  ⟨by simpa using h.lt, by rw [World.cell?_setCell_far _ _ _ _ (by simpa using hne)]; exact h.c0, by rw [World.cell?_setCell_far _ _ _ _ (by simpa using hne)]; exact h.c1, by rw [World.cell?_setCell_far _ _ _ _ (by simpa using hne)]; exact h.c2⟩
theorem BBox.new (w : World) (p : Bk) (t : TypeId) : BBox (w.alloc (.cells #[.int .i64 p.ev, .int .i64 p.be, .int .i64 p.en] t)) w.heap.size p := by
  constructor
  · simp
  all_goals
    rw [World.cell?_alloc_at _ _ _ _ (by simp)]
    rfl
end Go.Proofs.Ytiphipgheadakaa
