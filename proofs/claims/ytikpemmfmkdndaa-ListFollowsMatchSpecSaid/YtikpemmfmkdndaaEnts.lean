/- Slices of strings; slices of entries of playlists. -/
import Derived.Test.YtikpemmfmkdndaaRecs
import Derived.Test.YtikpemmfmkdndaaEntPlain
import Derived.Lib.SmallJoins
namespace Go.Proofs.Ytikpemmfmkdndaa
set_option linter.unusedVariables false
set_option linter.unusedSimpArgs false
open Go.RowKit Go.Deep

/-- The slice value v reads as the texts ss. -/
def Strs (w : World) (v : Value) (ss : List ByteArray) : Prop := Recs w v ss.length 1 fun j _ => .string (ss.getD j str0)
theorem Strs.below {B : Nat} {w w' : World} {v : Value} {ss : List ByteArray} (h : Strs w v ss) (hb : Below B w w') (hB : w.heap.size ≤ B) : Strs w' v ss := Recs.below h hb hB
theorem Strs.parts {w : World} {v : Value} {ss : List ByteArray} (h : Strs w v ss) : ∃ a cap, v = .slice a ss.length cap := Recs.parts h
theorem Strs.spot {w : World} {v : Value} {ss : List ByteArray} (h : Strs w v ss) (h0 : 0 < ss.length) : ∃ b off cap, v = .slice (some ⟨b, off, none⟩) ss.length cap ∧ b < w.heap.size ∧ ss.length ≤ cap ∧ cap ≤ maxLen := by
  rcases h with ⟨a, c, hv, h1⟩ | ⟨b', off', cap', hv, hne, hlt, hl, hm, hc⟩
  · omega
  · exact ⟨b', off', cap', hv, hlt, hl, hm⟩
theorem Strs.cells {w : World} {b off n cap : Nat} {ss : List ByteArray} (h : Strs w (.slice (some ⟨b, off, none⟩) n cap) ss) (j : Nat) (hj : j < ss.length) : w.cell? ⟨b, off + j, none⟩ = some (.string (ss.getD j str0)) := by
  rcases h with ⟨a, c, hv, h0⟩ | ⟨b', off', cap', hv, hne, hlt, hl, hm, hc⟩
  · omega
  · simp only [Value.slice.injEq, Option.some.injEq, Addr.mk.injEq, and_true] at hv
    obtain ⟨⟨rfl, rfl⟩, rfl, rfl⟩ := hv
    have := hc j hj 0 (by omega)
    simpa using this
theorem Strs.len {w : World} {v : Value} {ss : List ByteArray} (h : Strs w v ss) : ss.length ≤ maxLen := by
  rcases h with ⟨a, c, hv, h0⟩ | ⟨b', off', cap', hv, hne, hlt, hl, hm, hc⟩
  · rw [h0]; exact Nat.zero_le _
  · omega
theorem Strs.ofTrod {H : Type} {enc : TypeId × Value → H} {P : Program} {w : World} {base : Nat} {held : Bool} {t s : TypeId} {fuel : Nat} {a : Option Addr} {len cap : Nat} {x : DataW H × List MemPlace}
    (ht : P.underlying t = some (.slice s)) (cs : P.cellsOf s = 1) (us : P.underlying s = some .string)
    (h : DataW.trod enc P w base (fun _ => true) held fuel t [.slice a len cap] = some x) : ∃ ss, Strs w (.slice a len cap) ss ∧ ss.length = len ∧ ∀ y ∈ ss, y.size ≤ maxLen := by
  obtain ⟨F, hF, hel⟩ := Recs.ofTrod ht cs (by omega) h
  have hex : ∀ j, j < len → ∃ y : ByteArray, y.size ≤ maxLen ∧ F j 0 = .string y := by
    intro j hj
    obtain ⟨n, d, hd⟩ := hel j hj
    have hd' : DataW.trod enc P w base (fun _ => true) held n s [F j 0] = some d := hd
    obtain ⟨a0, e0, -, w0⟩ := DataW.trod_string us hd'
    simp only [List.cons.injEq, and_true] at e0
    exact ⟨a0, w0, e0⟩
  obtain ⟨f, hf⟩ := choose_lt hex
  refine ⟨(List.range len).map f, ?_, by simp, fun y hy => ?_⟩
  · unfold Strs
    rw [List.length_map, List.length_range]
    refine hF.congr fun j hj c hc => ?_
    have e : ((List.range len).map f).getD j str0 = f j := by simp [List.getD_eq_getElem?_getD, hj]
    rw [e]
    obtain rfl : c = 0 := by omega
    exact (hf j hj).2
  · obtain ⟨i, hi, rfl⟩ := List.mem_map.1 hy
    exact (hf i (by simpa using hi)).1

def entC (x : Ent) (u : Value) : Nat → Value
  | 0 => .string x.uri
  | 1 => .int .i64 x.mi
  | 2 => .bool x.br
  | 3 => .int .i64 x.da
  | 4 => .string x.key
  | 5 => .bool x.gap
  | _ => u
structure EntWf (x : Ent) : Prop where
  uri : x.uri.size ≤ maxLen
  key : x.key.size ≤ maxLen
  mi : (Lit.int .i64 x.mi).wf = true
  da : (Lit.int .i64 x.da).wf = true
  ex : ∀ y ∈ x.ex, y.size ≤ maxLen
/-- The slice value v reads as the entries es, the further lines of number j being the slice U j. -/
structure EntsU (w : World) (v : Value) (es : List Ent) (U : Nat → Value) : Prop where
  recs : Recs w v es.length 7 fun j c => entC (es.getD j ent0) (U j) c
  strs : ∀ j, j < es.length → Strs w (U j) (es.getD j ent0).ex
def Ents (w : World) (v : Value) (es : List Ent) : Prop := ∃ U, EntsU w v es U
theorem EntsU.below {B : Nat} {w w' : World} {v : Value} {es : List Ent} {U : Nat → Value} (h : EntsU w v es U) (hb : Below B w w') (hB : w.heap.size ≤ B) : EntsU w' v es U := ⟨h.recs.below hb hB, fun j hj => (h.strs j hj).below hb hB⟩
theorem Ents.below {B : Nat} {w w' : World} {v : Value} {es : List Ent} (h : Ents w v es) (hb : Below B w w') (hB : w.heap.size ≤ B) : Ents w' v es := by
  obtain ⟨U, h⟩ := h
  exact ⟨U, h.below hb hB⟩
theorem EntsU.parts {w : World} {v : Value} {es : List Ent} {U : Nat → Value} (h : EntsU w v es U) : ∃ a cap, v = .slice a es.length cap := Recs.parts h.recs
theorem Ents.parts {w : World} {v : Value} {es : List Ent} (h : Ents w v es) : ∃ a cap, v = .slice a es.length cap := by
  obtain ⟨U, h⟩ := h
  exact h.parts
theorem EntsU.spot {w : World} {v : Value} {es : List Ent} {U : Nat → Value} (h : EntsU w v es U) (h0 : 0 < es.length) : ∃ b off cap, v = .slice (some ⟨b, off, none⟩) es.length cap ∧ b < w.heap.size ∧ es.length ≤ cap ∧ cap ≤ maxLen := by
  rcases h.recs with ⟨a, c, hv, h1⟩ | ⟨b', off', cap', hv, hne, hlt, hl, hm, hc⟩
  · omega
  · exact ⟨b', off', cap', hv, hlt, hl, hm⟩
theorem EntsU.len {w : World} {v : Value} {es : List Ent} {U : Nat → Value} (h : EntsU w v es U) : es.length ≤ maxLen := by
  rcases h.recs with ⟨a, c, hv, h0⟩ | ⟨b', off', cap', hv, hne, hlt, hl, hm, hc⟩
  · rw [h0]; exact Nat.zero_le _
  · omega
/-- The cells of entry number j. -/
structure EntAt (w : World) (b o : Nat) (x : Ent) (u : Value) : Prop where
  c0 : w.cell? ⟨b, o, none⟩ = some (.string x.uri)
  c1 : w.cell? ⟨b, o + 1, none⟩ = some (.int .i64 x.mi)
  c2 : w.cell? ⟨b, o + 2, none⟩ = some (.bool x.br)
  c3 : w.cell? ⟨b, o + 3, none⟩ = some (.int .i64 x.da)
  c4 : w.cell? ⟨b, o + 4, none⟩ = some (.string x.key)
  c5 : w.cell? ⟨b, o + 5, none⟩ = some (.bool x.gap)
  c6 : w.cell? ⟨b, o + 6, none⟩ = some u
theorem EntsU.cells {w : World} {b off n cap : Nat} {es : List Ent} {U : Nat → Value} (h : EntsU w (.slice (some ⟨b, off, none⟩) n cap) es U) (j : Nat) (hj : j < es.length) : EntAt w b (off + j * 7) (es.getD j ent0) (U j) := by
  rcases h.recs with ⟨a, c, hv, h0⟩ | ⟨b', off', cap', hv, hne, hlt, hl, hm, hc⟩
  · omega
  · simp only [Value.slice.injEq, Option.some.injEq, Addr.mk.injEq, and_true] at hv
    obtain ⟨⟨rfl, rfl⟩, rfl, rfl⟩ := hv
    exact ⟨hc j hj 0 (by omega), hc j hj 1 (by omega), hc j hj 2 (by omega), hc j hj 3 (by omega), hc j hj 4 (by omega), hc j hj 5 (by omega), hc j hj 6 (by omega)⟩
theorem EntAt.below {B : Nat} {w w' : World} {b o : Nat} {x : Ent} {u : Value} (h : EntAt w b o x u) (hb : Below B w w') (hB : b < B) : EntAt w' b o x u :=
  ⟨(hb.cell (p := ⟨b, o, none⟩) hB).trans h.c0, (hb.cell (p := ⟨b, o + 1, none⟩) hB).trans h.c1, (hb.cell (p := ⟨b, o + 2, none⟩) hB).trans h.c2, (hb.cell (p := ⟨b, o + 3, none⟩) hB).trans h.c3, (hb.cell (p := ⟨b, o + 4, none⟩) hB).trans h.c4, (hb.cell (p := ⟨b, o + 5, none⟩) hB).trans h.c5, (hb.cell (p := ⟨b, o + 6, none⟩) hB).trans h.c6⟩
def entV (x : Ent) (u : Value) : List Value := [.string x.uri, .int .i64 x.mi, .bool x.br, .int .i64 x.da, .string x.key, .bool x.gap, u]
/-- A new block with the cells of an entry. -/
theorem EntAt.new (w : World) (x : Ent) (u : Value) (t : TypeId) : EntAt (w.alloc (.cells #[.string x.uri, .int .i64 x.mi, .bool x.br, .int .i64 x.da, .string x.key, .bool x.gap, u] t)) w.heap.size 0 x u := by
  constructor
  all_goals
    rw [World.cell?_alloc_at _ _ _ _ (by simp)]
    rfl
theorem ent_open {H : Type} {enc : TypeId × Value → H} {P : Program} {w : World} {base : Nat} {held : Bool} {e s i l bo : TypeId} {f0 f1 f2 f3 f4 f5 f6 : Field} {fuel : Nat} {v0 v1 v2 v3 v4 v5 v6 : Value} {x : DataW H × List MemPlace}
    (he : P.underlying e = some (.struct #[f0, f1, f2, f3, f4, f5, f6])) (o : f0.offset = 0 ∧ f1.offset = 1 ∧ f2.offset = 2 ∧ f3.offset = 3 ∧ f4.offset = 4 ∧ f5.offset = 5 ∧ f6.offset = 6)
    (t : f0.type = s ∧ f1.type = i ∧ f2.type = bo ∧ f3.type = i ∧ f4.type = s ∧ f5.type = bo ∧ f6.type = l) (cs : P.cellsOf s = 1) (ci : P.cellsOf i = 1) (cb : P.cellsOf bo = 1) (cl : P.cellsOf l = 1)
    (us : P.underlying s = some .string) (ui : P.underlying i = some (.int .i64)) (ub : P.underlying bo = some .bool) (ul : P.underlying l = some (.slice s))
    (h : DataW.trod enc P w base (fun _ => true) held fuel e [v0, v1, v2, v3, v4, v5, v6] = some x) :
    ∃ y : Ent, EntWf y ∧ Strs w v6 y.ex ∧ v0 = .string y.uri ∧ v1 = .int .i64 y.mi ∧ v2 = .bool y.br ∧ v3 = .int .i64 y.da ∧ v4 = .string y.key ∧ v5 = .bool y.gap := by
  obtain ⟨o0, o1, o2, o3, o4, o5, o6⟩ := o
  obtain ⟨t0, t1, t2, t3, t4, t5, t6⟩ := t
  obtain ⟨xs, n, _, _, _, hxl, hf⟩ := DataW.trod_struct he h
  match xs, hxl with
  | [y0, y1, y2, y3, y4, y5, y6], _ =>
    have g0 := hf 0 f0 rfl
    have g1 := hf 1 f1 rfl
    have g2 := hf 2 f2 rfl
    have g3 := hf 3 f3 rfl
    have g4 := hf 4 f4 rfl
    have g5 := hf 5 f5 rfl
    have g6 := hf 6 f6 rfl
    simp [o0, o1, o2, o3, o4, o5, o6, t0, t1, t2, t3, t4, t5, t6, ci, cs, cb, cl] at g0 g1 g2 g3 g4 g5 g6
    obtain ⟨a0, e0, -, w0⟩ := DataW.trod_string us g0
    obtain ⟨a1, e1, -, w1⟩ := DataW.trod_int ui g1
    obtain ⟨a2, e2, -⟩ := DataW.trod_bool ub g2
    obtain ⟨a3, e3, -, w3⟩ := DataW.trod_int ui g3
    obtain ⟨a4, e4, -, w4⟩ := DataW.trod_string us g4
    obtain ⟨a5, e5, -⟩ := DataW.trod_bool ub g5
    obtain ⟨a6, l6, c6, e6⟩ := Go.Joins.slice_form ul g6
    simp only [List.cons.injEq, and_true] at e0 e1 e2 e3 e4 e5 e6
    subst e6
    obtain ⟨ss, hs, -, hw⟩ := Strs.ofTrod ul cs us g6
    exact ⟨⟨a0, a1, a2, a3, a4, a5, ss⟩, ⟨w0, w4, w1, w3, hw⟩, hs, e0, e1, e2, e3, e4, e5⟩
/-- What the frame of a law hands over. -/
theorem Ents.ofTrod {H : Type} {enc : TypeId × Value → H} {P : Program} {w : World} {base : Nat} {held : Bool} {t e s i l bo : TypeId} {f0 f1 f2 f3 f4 f5 f6 : Field} {fuel : Nat} {a : Option Addr} {len cap : Nat} {x : DataW H × List MemPlace}
    (ht : P.underlying t = some (.slice e)) (ce : P.cellsOf e = 7)
    (he : P.underlying e = some (.struct #[f0, f1, f2, f3, f4, f5, f6])) (o : f0.offset = 0 ∧ f1.offset = 1 ∧ f2.offset = 2 ∧ f3.offset = 3 ∧ f4.offset = 4 ∧ f5.offset = 5 ∧ f6.offset = 6)
    (t' : f0.type = s ∧ f1.type = i ∧ f2.type = bo ∧ f3.type = i ∧ f4.type = s ∧ f5.type = bo ∧ f6.type = l) (cs : P.cellsOf s = 1) (ci : P.cellsOf i = 1) (cb : P.cellsOf bo = 1) (cl : P.cellsOf l = 1)
    (us : P.underlying s = some .string) (ui : P.underlying i = some (.int .i64)) (ub : P.underlying bo = some .bool) (ul : P.underlying l = some (.slice s))
    (h : DataW.trod enc P w base (fun _ => true) held fuel t [.slice a len cap] = some x) :
    ∃ es, Ents w (.slice a len cap) es ∧ es.length = len ∧ ∀ y ∈ es, EntWf y := by
  obtain ⟨F, hF, hel⟩ := Recs.ofTrod ht ce (by omega) h
  have hex : ∀ j, j < len → ∃ y : Ent, EntWf y ∧ Strs w (F j 6) y.ex ∧ ∀ c, c < 7 → F j c = entC y (F j 6) c := by
    intro j hj
    obtain ⟨n, d, hd⟩ := hel j hj
    have hd' : DataW.trod enc P w base (fun _ => true) held n e [F j 0, F j 1, F j 2, F j 3, F j 4, F j 5, F j 6] = some d := hd
    obtain ⟨y, hy, hs, e0, e1, e2, e3, e4, e5⟩ := ent_open he o t' cs ci cb cl us ui ub ul hd'
    refine ⟨y, hy, hs, fun c hc => ?_⟩
    have : c = 0 ∨ c = 1 ∨ c = 2 ∨ c = 3 ∨ c = 4 ∨ c = 5 ∨ c = 6 := by omega
    rcases this with rfl | rfl | rfl | rfl | rfl | rfl | rfl
    · exact e0
    · exact e1
    · exact e2
    · exact e3
    · exact e4
    · exact e5
    · rfl
  obtain ⟨f, hf⟩ := choose_lt hex
  refine ⟨(List.range len).map f, ⟨fun j => F j 6, ?_, fun j hj => ?_⟩, by simp, fun y hy => ?_⟩
  · rw [List.length_map, List.length_range]
    refine hF.congr fun j hj c hc => ?_
    have e : ((List.range len).map f).getD j ent0 = f j := by simp [List.getD_eq_getElem?_getD, hj]
    rw [e]
    exact (hf j hj).2.2 c hc
  · have hj' : j < len := by simpa using hj
    have e : ((List.range len).map f).getD j ent0 = f j := by simp [List.getD_eq_getElem?_getD, hj']
    rw [e]
    exact (hf j hj').2.1
  · obtain ⟨i, hi, rfl⟩ := List.mem_map.1 hy
    exact (hf i (by simpa using hi)).1

end Go.Proofs.Ytikpemmfmkdndaa
