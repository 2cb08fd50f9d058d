/- Slices of parts; a block with a part; a captured variable's block. -/
import Derived.Test.YtiphipgheadakaaRecs
import Derived.Test.YtiphipgheadakaaPartPlain
import Derived.Test.YtiphipgheadakaaBelowX
import Derived.Deep.RegionHeld
namespace Go.Proofs.Ytiphipgheadakaa
set_option linter.unusedVariables false
set_option linter.unusedSimpArgs false
open Go.RowKit Go.Deep

def prtC (x : Prt) : Nat → Value
  | 0 => .string x.ad
  | 1 => .int .i64 x.fr
  | _ => .int .i64 x.ln
def prtWf (x : Prt) : Prop := x.ad.size ≤ maxLen ∧ (Lit.int .i64 x.fr).wf = true ∧ (Lit.int .i64 x.ln).wf = true
/-- The slice value v reads as the parts rs. -/
def Prts (w : World) (v : Value) (rs : List Prt) : Prop := Recs w v rs.length 3 fun j c => prtC (rs.getD j prt0) c

theorem Prts.nil (w : World) : Prts w (.slice none 0 0) [] := Recs.nil w 3 _
theorem Prts.below {B : Nat} {w w' : World} {v : Value} {rs : List Prt} (h : Prts w v rs) (hb : Below B w w') (hB : w.heap.size ≤ B) : Prts w' v rs := Recs.below h hb hB
theorem Prts.drewN {w : World} {v : Value} {rs : List Prt} (h : Prts w v rs) (q : Nat) : Prts (w.drewN q) v rs := h
theorem Prts.parts {w : World} {v : Value} {rs : List Prt} (h : Prts w v rs) : ∃ a cap, v = .slice a rs.length cap := Recs.parts h
theorem Prts.max {w : World} {a : Option Addr} {n cap : Nat} {rs : List Prt} (h : Prts w (.slice a n cap) rs) : n = rs.length ∧ rs.length ≤ maxLen := by
  rcases h with ⟨a, c, hv, h0⟩ | ⟨b', off', cap', hv, hne, hlt, hl, hm, hc⟩
  · simp only [Value.slice.injEq] at hv
    exact ⟨by omega, by unfold maxLen; omega⟩
  · simp only [Value.slice.injEq] at hv
    exact ⟨hv.2.1, by omega⟩
/-- The cells of one part. -/
theorem Prts.cells {w : World} {b off n cap : Nat} {rs : List Prt} (h : Prts w (.slice (some ⟨b, off, none⟩) n cap) rs) (j : Nat) (hj : j < rs.length) :
    w.cell? ⟨b, off + j * 3, none⟩ = some (.string (rs.getD j prt0).ad) ∧ w.cell? ⟨b, off + j * 3 + 1, none⟩ = some (.int .i64 (rs.getD j prt0).fr) ∧ w.cell? ⟨b, off + j * 3 + 2, none⟩ = some (.int .i64 (rs.getD j prt0).ln) := by
  rcases h with ⟨a, c, hv, h0⟩ | ⟨b', off', cap', hv, hne, hlt, hl, hm, hc⟩
  · omega
  · simp only [Value.slice.injEq, Option.some.injEq, Addr.mk.injEq, and_true] at hv
    obtain ⟨⟨rfl, rfl⟩, rfl, rfl⟩ := hv
    exact ⟨hc j hj 0 (by omega), hc j hj 1 (by omega), hc j hj 2 (by omega)⟩
theorem Prts.block {w : World} {b off n cap : Nat} {rs : List Prt} (h : Prts w (.slice (some ⟨b, off, none⟩) n cap) rs) (h0 : 0 < rs.length) : b < w.heap.size ∧ n ≤ cap ∧ cap ≤ maxLen := by
  rcases h with ⟨a, c, hv, h1⟩ | ⟨b', off', cap', hv, hne, hlt, hl, hm, hc⟩
  · omega
  · simp only [Value.slice.injEq, Option.some.injEq, Addr.mk.injEq, and_true] at hv
    obtain ⟨⟨rfl, rfl⟩, rfl, rfl⟩ := hv
    exact ⟨hlt, hl, hm⟩
/-- A slice that is not empty lies in a block. -/
theorem Prts.spot {w : World} {v : Value} {rs : List Prt} (h : Prts w v rs) (h0 : 0 < rs.length) : ∃ b off cap, v = .slice (some ⟨b, off, none⟩) rs.length cap ∧ b < w.heap.size ∧ rs.length ≤ cap ∧ cap ≤ maxLen := by
  rcases h with ⟨a, c, hv, h1⟩ | ⟨b', off', cap', hv, hne, hlt, hl, hm, hc⟩
  · omega
  · exact ⟨b', off', cap', hv, hlt, hl, hm⟩

theorem prt_open {H : Type} {enc : TypeId × Value → H} {P : Program} {w : World} {base : Nat} {held : Bool} {e s i : TypeId} {f0 f1 f2 : Field} {fuel : Nat} {v0 v1 v2 : Value} {x : DataW H × List MemPlace}
    (he : P.underlying e = some (.struct #[f0, f1, f2])) (o : f0.offset = 0 ∧ f1.offset = 1 ∧ f2.offset = 2)
    (t : f0.type = s ∧ f1.type = i ∧ f2.type = i) (cs : P.cellsOf s = 1) (ci : P.cellsOf i = 1) (us : P.underlying s = some .string) (ui : P.underlying i = some (.int .i64))
    (h : DataW.trod enc P w base (fun _ => true) held fuel e [v0, v1, v2] = some x) :
    ∃ y : Prt, prtWf y ∧ v0 = .string y.ad ∧ v1 = .int .i64 y.fr ∧ v2 = .int .i64 y.ln := by
  obtain ⟨o0, o1, o2⟩ := o
  obtain ⟨t0, t1, t2⟩ := t
  obtain ⟨xs, n, _, _, _, hxl, hf⟩ := DataW.trod_struct he h
  match xs, hxl with
  | [y0, y1, y2], _ =>
    have g0 := hf 0 f0 rfl
    have g1 := hf 1 f1 rfl
    have g2 := hf 2 f2 rfl
    simp [o0, o1, o2, t0, t1, t2, ci, cs] at g0 g1 g2
    obtain ⟨a0, e0, -, w0⟩ := DataW.trod_string us g0
    obtain ⟨a1, e1, -, w1⟩ := DataW.trod_int ui g1
    obtain ⟨a2, e2, -, w2⟩ := DataW.trod_int ui g2
    simp only [List.cons.injEq, and_true] at e0 e1 e2
    exact ⟨⟨a0, a1, a2⟩, ⟨w0, w1, w2⟩, e0, e1, e2⟩

/-- What the frame of a law hands over. -/
theorem Prts.ofTrod {H : Type} {enc : TypeId × Value → H} {P : Program} {w : World} {base : Nat} {held : Bool} {t e s i : TypeId} {f0 f1 f2 : Field} {fuel : Nat} {a : Option Addr} {len cap : Nat} {x : DataW H × List MemPlace}
    (ht : P.underlying t = some (.slice e)) (ce : P.cellsOf e = 3)
    (he : P.underlying e = some (.struct #[f0, f1, f2])) (o : f0.offset = 0 ∧ f1.offset = 1 ∧ f2.offset = 2)
    (t' : f0.type = s ∧ f1.type = i ∧ f2.type = i) (cs : P.cellsOf s = 1) (ci : P.cellsOf i = 1) (us : P.underlying s = some .string) (ui : P.underlying i = some (.int .i64))
    (h : DataW.trod enc P w base (fun _ => true) held fuel t [.slice a len cap] = some x) :
    ∃ rs, Prts w (.slice a len cap) rs ∧ rs.length = len ∧ ∀ y ∈ rs, prtWf y := by
  obtain ⟨F, hF, hel⟩ := Recs.ofTrod ht ce (by omega) h
  have hex : ∀ j, j < len → ∃ y : Prt, prtWf y ∧ ∀ c, c < 3 → F j c = prtC y c := by
    intro j hj
    obtain ⟨n, d, hd⟩ := hel j hj
    have hd' : DataW.trod enc P w base (fun _ => true) held n e [F j 0, F j 1, F j 2] = some d := hd
    obtain ⟨y, hy, e0, e1, e2⟩ := prt_open he o t' cs ci us ui hd'
    refine ⟨y, hy, fun c hc => ?_⟩
    have : c = 0 ∨ c = 1 ∨ c = 2 := by omega
    rcases this with rfl | rfl | rfl
    · exact e0
    · exact e1
    · exact e2
  obtain ⟨f, hf⟩ := choose_lt hex
  refine ⟨(List.range len).map f, ?_, by simp, fun y hy => ?_⟩
  · unfold Prts
    rw [List.length_map, List.length_range]
    refine hF.congr fun j hj c hc => ?_
    have e : ((List.range len).map f).getD j prt0 = f j := by simp [List.getD_eq_getElem?_getD, hj]
    rw [e]
    exact (hf j hj).2 c hc
  · obtain ⟨i, hi, rfl⟩ := List.mem_map.1 hy
    exact (hf i (by simpa using hi)).1

/-- Block X has the cells of a part. -/
structure PBox (W : World) (X : Nat) (p : Prt) : Prop where
  lt : X < W.heap.size
  c0 : W.cell? ⟨X, 0, none⟩ = some (.string p.ad)
  c1 : W.cell? ⟨X, 1, none⟩ = some (.int .i64 p.fr)
  c2 : W.cell? ⟨X, 2, none⟩ = some (.int .i64 p.ln)
theorem PBox.below {B : Nat} {W W' : World} {X : Nat} {p : Prt} (h : PBox W X p) (hb : Below B W W') (hB : X < B) : PBox W' X p :=
  ⟨Nat.lt_of_lt_of_le h.lt hb.size, (hb.cell (p := ⟨X, 0, none⟩) hB).trans h.c0, (hb.cell (p := ⟨X, 1, none⟩) hB).trans h.c1, (hb.cell (p := ⟨X, 2, none⟩) hB).trans h.c2⟩
theorem PBox.drewN {W : World} {X : Nat} {p : Prt} (h : PBox W X p) (q : Nat) : PBox (W.drewN q) X p := ⟨h.lt, h.c0, h.c1, h.c2⟩
theorem PBox.drew {W : World} {X : Nat} {p : Prt} (h : PBox W X p) : PBox W.drew X p := ⟨h.lt, h.c0, h.c1, h.c2⟩
theorem PBox.alloc {W : World} {X : Nat} {p : Prt} (h : PBox W X p) (o : Obj) : PBox (W.alloc o) X p := h.below ((Below.refl W.heap.size W).alloc (Nat.le_refl _) o) h.lt
theorem PBox.other {W : World} {X Y o : Nat} {p : Prt} (h : PBox W X p) (hne : Y ≠ X) (u : Value) : PBox (W.setCell ⟨Y, o, none⟩ u) X p :=
  ⟨by simpa using h.lt, by rw [World.cell?_setCell_far _ _ _ _ (by simpa using hne)]; exact h.c0, by rw [World.cell?_setCell_far _ _ _ _ (by simpa using hne)]; exact h.c1, by rw [World.cell?_setCell_far _ _ _ _ (by simpa using hne)]; exact h.c2⟩
theorem PBox.new (w : World) (p : Prt) (t : TypeId) : PBox (w.alloc (.cells #[.string p.ad, .int .i64 p.fr, .int .i64 p.ln] t)) w.heap.size p := by
  constructor
  · simp
  all_goals
    rw [World.cell?_alloc_at _ _ _ _ (by simp)]
    rfl
/-- Block X has one cell, that may be written. -/
structure Vr (W : World) (X : Nat) (v : Value) : Prop where
  c : W.cell? ⟨X, 0, none⟩ = some v
  fr : W.frozen? ⟨X, 0, none⟩ = false
  lt : X < W.heap.size
theorem Vr.below {B : Nat} {W W' : World} {X : Nat} {v : Value} (h : Vr W X v) (hb : Below B W W') (hB : X < B) : Vr W' X v :=
  ⟨(hb.cell (p := ⟨X, 0, none⟩) hB).trans h.c, by rw [hb.frozen (p := ⟨X, 0, none⟩) hB]; exact h.fr, Nat.lt_of_lt_of_le h.lt hb.size⟩
theorem Vr.drew {W : World} {X : Nat} {v : Value} (h : Vr W X v) : Vr W.drew X v := ⟨h.c, h.fr, h.lt⟩
theorem Vr.drewN {W : World} {X : Nat} {v : Value} (h : Vr W X v) (q : Nat) : Vr (W.drewN q) X v := ⟨h.c, h.fr, h.lt⟩
theorem Vr.alloc {W : World} {X : Nat} {v : Value} (h : Vr W X v) (o : Obj) : Vr (W.alloc o) X v := h.below ((Below.refl W.heap.size W).alloc (Nat.le_refl _) o) h.lt
theorem Vr.set {W : World} {X : Nat} {v : Value} (h : Vr W X v) (u : Value) : Vr (W.setCell ⟨X, 0, none⟩ u) X u := ⟨World.cell?_setCell_same _ _ _ h.c, by simpa using h.fr, by simpa using h.lt⟩
theorem Vr.other {W : World} {X Y o : Nat} {v : Value} (h : Vr W X v) (hne : Y ≠ X) (u : Value) : Vr (W.setCell ⟨Y, o, none⟩ u) X v :=
  ⟨by rw [World.cell?_setCell_far _ _ _ _ (by simpa using hne)]; exact h.c, by simpa using h.fr, by simpa using h.lt⟩
theorem Vr.new (w : World) (v : Value) (t : TypeId) : Vr (w.alloc (.cells #[v] t)) w.heap.size v :=
  ⟨by rw [World.cell?_alloc_at _ _ _ _ (by simp)]; rfl, World.frozen?_alloc_at _ _ _ _ rfl, by simp⟩

end Go.Proofs.Ytiphipgheadakaa
