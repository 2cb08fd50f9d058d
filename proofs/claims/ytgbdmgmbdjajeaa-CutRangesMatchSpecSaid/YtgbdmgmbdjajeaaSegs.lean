/- Slices of segments. -/
import Derived.Test.YtgbdmgmbdjajeaaRecs
import Derived.Test.YtgbdmgmbdjajeaaSegPlain
namespace Go.Proofs.Ytgbdmgmbdjajeaa
set_option linter.unusedVariables false
set_option linter.unusedSimpArgs false
open Go.RowKit Go.Deep

def segC (x : Seg) : Nat → Value
  | 0 => .int .i64 x.no
  | 1 => .int .i64 x.fr
  | 2 => .int .i64 x.te
  | 3 => .int .i64 x.bg
  | 4 => .int .i64 x.ln
  | 5 => .int .i64 x.by_
  | _ => .int .i64 x.ld
def segWf (x : Seg) : Prop := (Lit.int .i64 x.no).wf = true ∧ (Lit.int .i64 x.fr).wf = true ∧ (Lit.int .i64 x.te).wf = true ∧ (Lit.int .i64 x.bg).wf = true ∧ (Lit.int .i64 x.ln).wf = true ∧ (Lit.int .i64 x.by_).wf = true ∧ (Lit.int .i64 x.ld).wf = true
/-- The slice value v reads as the segments ls. -/
def Segs (w : World) (v : Value) (ls : List Seg) : Prop := Recs w v ls.length 7 fun j c => segC (ls.getD j seg0) c

theorem Segs.nil (w : World) : Segs w (.slice none 0 0) [] := Recs.nil w 7 _
theorem Segs.below {B : Nat} {w w' : World} {v : Value} {ls : List Seg} (h : Segs w v ls) (hb : Below B w w') (hB : w.heap.size ≤ B) : Segs w' v ls := Recs.below h hb hB
theorem Segs.drewN {w : World} {v : Value} {ls : List Seg} (h : Segs w v ls) (q : Nat) : Segs (w.drewN q) v ls := h
theorem Segs.parts {w : World} {v : Value} {ls : List Seg} (h : Segs w v ls) : ∃ a cap, v = .slice a ls.length cap := Recs.parts h
theorem Segs.max {w : World} {a : Option Addr} {n cap : Nat} {ls : List Seg} (h : Segs w (.slice a n cap) ls) : n = ls.length ∧ ls.length ≤ maxLen := by
  rcases h with ⟨a, c, hv, h0⟩ | ⟨b', off', cap', hv, hne, hlt, hl, hm, hc⟩
  · simp only [Value.slice.injEq] at hv
    exact ⟨by omega, by unfold maxLen; omega⟩
  · simp only [Value.slice.injEq] at hv
    exact ⟨hv.2.1, by omega⟩
/-- The cells of one segment. -/
theorem Segs.cells {w : World} {b off n cap : Nat} {ls : List Seg} (h : Segs w (.slice (some ⟨b, off, none⟩) n cap) ls) (j : Nat) (hj : j < ls.length) :
    w.cell? ⟨b, off + j * 7, none⟩ = some (.int .i64 (ls.getD j seg0).no) ∧ w.cell? ⟨b, off + j * 7 + 1, none⟩ = some (.int .i64 (ls.getD j seg0).fr) ∧ w.cell? ⟨b, off + j * 7 + 2, none⟩ = some (.int .i64 (ls.getD j seg0).te) ∧
    w.cell? ⟨b, off + j * 7 + 3, none⟩ = some (.int .i64 (ls.getD j seg0).bg) ∧ w.cell? ⟨b, off + j * 7 + 4, none⟩ = some (.int .i64 (ls.getD j seg0).ln) ∧ w.cell? ⟨b, off + j * 7 + 5, none⟩ = some (.int .i64 (ls.getD j seg0).by_) ∧
    w.cell? ⟨b, off + j * 7 + 6, none⟩ = some (.int .i64 (ls.getD j seg0).ld) := by
  rcases h with ⟨a, c, hv, h0⟩ | ⟨b', off', cap', hv, hne, hlt, hl, hm, hc⟩
  · omega
  · simp only [Value.slice.injEq, Option.some.injEq, Addr.mk.injEq, and_true] at hv
    obtain ⟨⟨rfl, rfl⟩, rfl, rfl⟩ := hv
    exact ⟨hc j hj 0 (by omega), hc j hj 1 (by omega), hc j hj 2 (by omega), hc j hj 3 (by omega), hc j hj 4 (by omega), hc j hj 5 (by omega), hc j hj 6 (by omega)⟩
theorem Segs.block {w : World} {b off n cap : Nat} {ls : List Seg} (h : Segs w (.slice (some ⟨b, off, none⟩) n cap) ls) (h0 : 0 < ls.length) : b < w.heap.size ∧ n ≤ cap ∧ cap ≤ maxLen := by
  rcases h with ⟨a, c, hv, h1⟩ | ⟨b', off', cap', hv, hne, hlt, hl, hm, hc⟩
  · omega
  · simp only [Value.slice.injEq, Option.some.injEq, Addr.mk.injEq, and_true] at hv
    obtain ⟨⟨rfl, rfl⟩, rfl, rfl⟩ := hv
    exact ⟨hlt, hl, hm⟩

theorem seg_open {H : Type} {enc : TypeId × Value → H} {P : Program} {w : World} {base : Nat} {held : Bool} {e i : TypeId} {f0 f1 f2 f3 f4 f5 f6 : Field} {fuel : Nat} {v0 v1 v2 v3 v4 v5 v6 : Value} {x : DataW H × List MemPlace}
    (he : P.underlying e = some (.struct #[f0, f1, f2, f3, f4, f5, f6])) (o : f0.offset = 0 ∧ f1.offset = 1 ∧ f2.offset = 2 ∧ f3.offset = 3 ∧ f4.offset = 4 ∧ f5.offset = 5 ∧ f6.offset = 6)
    (t : f0.type = i ∧ f1.type = i ∧ f2.type = i ∧ f3.type = i ∧ f4.type = i ∧ f5.type = i ∧ f6.type = i) (ci : P.cellsOf i = 1) (ui : P.underlying i = some (.int .i64))
    (h : DataW.trod enc P w base (fun _ => true) held fuel e [v0, v1, v2, v3, v4, v5, v6] = some x) :
    ∃ y : Seg, segWf y ∧ v0 = .int .i64 y.no ∧ v1 = .int .i64 y.fr ∧ v2 = .int .i64 y.te ∧ v3 = .int .i64 y.bg ∧ v4 = .int .i64 y.ln ∧ v5 = .int .i64 y.by_ ∧ v6 = .int .i64 y.ld := by
  obtain ⟨o0, o1, o2, o3, o4, o5, o6⟩ := o
  obtain ⟨t0, t1, t2, t3, t4, t5, t6⟩ := t
  obtain ⟨xs, n, _, _, _, hxl, hf⟩ := DataW.trod_struct he h
  match xs, hxl with
  | [y0, y1, y2, y3, y4, y5, y6], _ =>
    have g0 := hf 0 f0 rfl
    have g1 := hf 1 f1 rfl
    have g2 := hf 2 f2 rfl
    have g3 := hf 3 f3 rfl
    have g4 := hf 4 f4 rfl
    have g5 := hf 5 f5 rfl
    have g6 := hf 6 f6 rfl
    simp [o0, o1, o2, o3, o4, o5, o6, t0, t1, t2, t3, t4, t5, t6, ci] at g0 g1 g2 g3 g4 g5 g6
    obtain ⟨a0, e0, -, w0⟩ := DataW.trod_int ui g0
    obtain ⟨a1, e1, -, w1⟩ := DataW.trod_int ui g1
    obtain ⟨a2, e2, -, w2⟩ := DataW.trod_int ui g2
    obtain ⟨a3, e3, -, w3⟩ := DataW.trod_int ui g3
    obtain ⟨a4, e4, -, w4⟩ := DataW.trod_int ui g4
    obtain ⟨a5, e5, -, w5⟩ := DataW.trod_int ui g5
    obtain ⟨a6, e6, -, w6⟩ := DataW.trod_int ui g6
    simp only [List.cons.injEq, and_true] at e0 e1 e2 e3 e4 e5 e6
    exact ⟨⟨a0, a1, a2, a3, a4, a5, a6⟩, ⟨w0, w1, w2, w3, w4, w5, w6⟩, e0, e1, e2, e3, e4, e5, e6⟩

/-- What the frame of a law hands over. -/
theorem Segs.ofTrod {H : Type} {enc : TypeId × Value → H} {P : Program} {w : World} {base : Nat} {held : Bool} {t e i : TypeId} {f0 f1 f2 f3 f4 f5 f6 : Field} {fuel : Nat} {a : Option Addr} {len cap : Nat} {x : DataW H × List MemPlace}
    (ht : P.underlying t = some (.slice e)) (ce : P.cellsOf e = 7)
    (he : P.underlying e = some (.struct #[f0, f1, f2, f3, f4, f5, f6])) (o : f0.offset = 0 ∧ f1.offset = 1 ∧ f2.offset = 2 ∧ f3.offset = 3 ∧ f4.offset = 4 ∧ f5.offset = 5 ∧ f6.offset = 6)
    (t' : f0.type = i ∧ f1.type = i ∧ f2.type = i ∧ f3.type = i ∧ f4.type = i ∧ f5.type = i ∧ f6.type = i) (ci : P.cellsOf i = 1) (ui : P.underlying i = some (.int .i64))
    (h : DataW.trod enc P w base (fun _ => true) held fuel t [.slice a len cap] = some x) :
    ∃ ls, Segs w (.slice a len cap) ls ∧ ls.length = len ∧ ∀ y ∈ ls, segWf y := by
  obtain ⟨F, hF, hel⟩ := Recs.ofTrod ht ce (by omega) h
  have hex : ∀ j, j < len → ∃ y : Seg, segWf y ∧ ∀ c, c < 7 → F j c = segC y c := by
    intro j hj
    obtain ⟨n, d, hd⟩ := hel j hj
    have hd' : DataW.trod enc P w base (fun _ => true) held n e [F j 0, F j 1, F j 2, F j 3, F j 4, F j 5, F j 6] = some d := hd
    obtain ⟨y, hy, e0, e1, e2, e3, e4, e5, e6⟩ := seg_open he o t' ci ui hd'
    refine ⟨y, hy, fun c hc => ?_⟩
    have : c = 0 ∨ c = 1 ∨ c = 2 ∨ c = 3 ∨ c = 4 ∨ c = 5 ∨ c = 6 := by omega
    rcases this with rfl | rfl | rfl | rfl | rfl | rfl | rfl
    · exact e0
    · exact e1
    · exact e2
    · exact e3
    · exact e4
    · exact e5
    · exact e6
  obtain ⟨f, hf⟩ := choose_lt hex
  refine ⟨(List.range len).map f, ?_, by simp, fun y hy => ?_⟩
  · unfold Segs
    rw [List.length_map, List.length_range]
    refine hF.congr fun j hj c hc => ?_
    have e : ((List.range len).map f).getD j seg0 = f j := by simp [List.getD_eq_getElem?_getD, hj]
    rw [e]
    exact (hf j hj).2 c hc
  · obtain ⟨i, hi, rfl⟩ := List.mem_map.1 hy
    exact (hf i (by simpa using hi)).1

end Go.Proofs.Ytgbdmgmbdjajeaa
