/- Slices of renditions. -/
import Derived.Test.YtinckidkophobaaRecs
import Derived.Test.YtinckidkophobaaRungPlain
namespace Go.Proofs.Ytinckidkophobaa
set_option linter.unusedVariables false
set_option linter.unusedSimpArgs false
open Go.RowKit Go.Deep

def rungC (x : Rung) : Nat → Value
  | 0 => .string x.nm
  | 1 => .int .i64 x.ra
  | 2 => .int .i64 x.he
  | _ => .int .i64 x.qu
def rungWf (x : Rung) : Prop := x.nm.size ≤ maxLen ∧ (Lit.int .i64 x.ra).wf = true ∧ (Lit.int .i64 x.he).wf = true ∧ (Lit.int .i64 x.qu).wf = true
/-- The slice value v reads as the renditions rs. -/
def Rungs (w : World) (v : Value) (rs : List Rung) : Prop := Recs w v rs.length 4 fun j c => rungC (rs.getD j rung0) c

theorem Rungs.nil (w : World) : Rungs w (.slice none 0 0) [] := Recs.nil w 4 _
theorem Rungs.below {B : Nat} {w w' : World} {v : Value} {rs : List Rung} (h : Rungs w v rs) (hb : Below B w w') (hB : w.heap.size ≤ B) : Rungs w' v rs := Recs.below h hb hB
theorem Rungs.drewN {w : World} {v : Value} {rs : List Rung} (h : Rungs w v rs) (q : Nat) : Rungs (w.drewN q) v rs := h
theorem Rungs.parts {w : World} {v : Value} {rs : List Rung} (h : Rungs w v rs) : ∃ a cap, v = .slice a rs.length cap := Recs.parts h
theorem Rungs.max {w : World} {a : Option Addr} {n cap : Nat} {rs : List Rung} (h : Rungs w (.slice a n cap) rs) : n = rs.length ∧ rs.length ≤ maxLen := by
  rcases h with ⟨a, c, hv, h0⟩ | ⟨b', off', cap', hv, hne, hlt, hl, hm, hc⟩
  · simp only [Value.slice.injEq] at hv
    exact ⟨by omega, by unfold maxLen; omega⟩
  · simp only [Value.slice.injEq] at hv
    exact ⟨hv.2.1, by omega⟩
/-- The cells of one rendition. -/
theorem Rungs.cells {w : World} {b off n cap : Nat} {rs : List Rung} (h : Rungs w (.slice (some ⟨b, off, none⟩) n cap) rs) (j : Nat) (hj : j < rs.length) :
    w.cell? ⟨b, off + j * 4, none⟩ = some (.string (rs.getD j rung0).nm) ∧ w.cell? ⟨b, off + j * 4 + 1, none⟩ = some (.int .i64 (rs.getD j rung0).ra) ∧ w.cell? ⟨b, off + j * 4 + 2, none⟩ = some (.int .i64 (rs.getD j rung0).he) ∧
    w.cell? ⟨b, off + j * 4 + 3, none⟩ = some (.int .i64 (rs.getD j rung0).qu) := by
  rcases h with ⟨a, c, hv, h0⟩ | ⟨b', off', cap', hv, hne, hlt, hl, hm, hc⟩
  · omega
  · simp only [Value.slice.injEq, Option.some.injEq, Addr.mk.injEq, and_true] at hv
    obtain ⟨⟨rfl, rfl⟩, rfl, rfl⟩ := hv
    exact ⟨hc j hj 0 (by omega), hc j hj 1 (by omega), hc j hj 2 (by omega), hc j hj 3 (by omega)⟩
theorem Rungs.block {w : World} {b off n cap : Nat} {rs : List Rung} (h : Rungs w (.slice (some ⟨b, off, none⟩) n cap) rs) (h0 : 0 < rs.length) : b < w.heap.size ∧ n ≤ cap ∧ cap ≤ maxLen := by
  rcases h with ⟨a, c, hv, h1⟩ | ⟨b', off', cap', hv, hne, hlt, hl, hm, hc⟩
  · omega
  · simp only [Value.slice.injEq, Option.some.injEq, Addr.mk.injEq, and_true] at hv
    obtain ⟨⟨rfl, rfl⟩, rfl, rfl⟩ := hv
    exact ⟨hlt, hl, hm⟩
/-- A slice that is not empty lies in a block. -/
theorem Rungs.spot {w : World} {v : Value} {rs : List Rung} (h : Rungs w v rs) (h0 : 0 < rs.length) : ∃ b off cap, v = .slice (some ⟨b, off, none⟩) rs.length cap ∧ b < w.heap.size ∧ rs.length ≤ cap ∧ cap ≤ maxLen := by
  rcases h with ⟨a, c, hv, h1⟩ | ⟨b', off', cap', hv, hne, hlt, hl, hm, hc⟩
  · omega
  · exact ⟨b', off', cap', hv, hlt, hl, hm⟩

theorem rung_open {H : Type} {enc : TypeId × Value → H} {P : Program} {w : World} {base : Nat} {held : Bool} {e s i : TypeId} {f0 f1 f2 f3 : Field} {fuel : Nat} {v0 v1 v2 v3 : Value} {x : DataW H × List MemPlace}
    (he : P.underlying e = some (.struct #[f0, f1, f2, f3])) (o : f0.offset = 0 ∧ f1.offset = 1 ∧ f2.offset = 2 ∧ f3.offset = 3)
    (t : f0.type = s ∧ f1.type = i ∧ f2.type = i ∧ f3.type = i) (cs : P.cellsOf s = 1) (ci : P.cellsOf i = 1) (us : P.underlying s = some .string) (ui : P.underlying i = some (.int .i64))
    (h : DataW.trod enc P w base (fun _ => true) held fuel e [v0, v1, v2, v3] = some x) :
    ∃ y : Rung, rungWf y ∧ v0 = .string y.nm ∧ v1 = .int .i64 y.ra ∧ v2 = .int .i64 y.he ∧ v3 = .int .i64 y.qu := by
  obtain ⟨o0, o1, o2, o3⟩ := o
  obtain ⟨t0, t1, t2, t3⟩ := t
  obtain ⟨xs, n, _, _, _, hxl, hf⟩ := DataW.trod_struct he h
  match xs, hxl with
  | [y0, y1, y2, y3], _ =>
    have g0 := hf 0 f0 rfl
    have g1 := hf 1 f1 rfl
    have g2 := hf 2 f2 rfl
    have g3 := hf 3 f3 rfl
    simp [o0, o1, o2, o3, t0, t1, t2, t3, ci, cs] at g0 g1 g2 g3
    obtain ⟨a0, e0, -, w0⟩ := DataW.trod_string us g0
    obtain ⟨a1, e1, -, w1⟩ := DataW.trod_int ui g1
    obtain ⟨a2, e2, -, w2⟩ := DataW.trod_int ui g2
    obtain ⟨a3, e3, -, w3⟩ := DataW.trod_int ui g3
    simp only [List.cons.injEq, and_true] at e0 e1 e2 e3
    exact ⟨⟨a0, a1, a2, a3⟩, ⟨w0, w1, w2, w3⟩, e0, e1, e2, e3⟩

/-- What the frame of a law hands over. -/
theorem Rungs.ofTrod {H : Type} {enc : TypeId × Value → H} {P : Program} {w : World} {base : Nat} {held : Bool} {t e s i : TypeId} {f0 f1 f2 f3 : Field} {fuel : Nat} {a : Option Addr} {len cap : Nat} {x : DataW H × List MemPlace}
    (ht : P.underlying t = some (.slice e)) (ce : P.cellsOf e = 4)
    (he : P.underlying e = some (.struct #[f0, f1, f2, f3])) (o : f0.offset = 0 ∧ f1.offset = 1 ∧ f2.offset = 2 ∧ f3.offset = 3)
    (t' : f0.type = s ∧ f1.type = i ∧ f2.type = i ∧ f3.type = i) (cs : P.cellsOf s = 1) (ci : P.cellsOf i = 1) (us : P.underlying s = some .string) (ui : P.underlying i = some (.int .i64))
    (h : DataW.trod enc P w base (fun _ => true) held fuel t [.slice a len cap] = some x) :
    ∃ rs, Rungs w (.slice a len cap) rs ∧ rs.length = len ∧ ∀ y ∈ rs, rungWf y := by
  obtain ⟨F, hF, hel⟩ := Recs.ofTrod ht ce (by omega) h
  have hex : ∀ j, j < len → ∃ y : Rung, rungWf y ∧ ∀ c, c < 4 → F j c = rungC y c := by
    intro j hj
    obtain ⟨n, d, hd⟩ := hel j hj
    have hd' : DataW.trod enc P w base (fun _ => true) held n e [F j 0, F j 1, F j 2, F j 3] = some d := hd
    obtain ⟨y, hy, e0, e1, e2, e3⟩ := rung_open he o t' cs ci us ui hd'
    refine ⟨y, hy, fun c hc => ?_⟩
    have : c = 0 ∨ c = 1 ∨ c = 2 ∨ c = 3 := by omega
    rcases this with rfl | rfl | rfl | rfl
    · exact e0
    · exact e1
    · exact e2
    · exact e3
  obtain ⟨f, hf⟩ := choose_lt hex
  refine ⟨(List.range len).map f, ?_, by simp, fun y hy => ?_⟩
  · unfold Rungs
    rw [List.length_map, List.length_range]
    refine hF.congr fun j hj c hc => ?_
    have e : ((List.range len).map f).getD j rung0 = f j := by simp [List.getD_eq_getElem?_getD, hj]
    rw [e]
    exact (hf j hj).2 c hc
  · obtain ⟨i, hi, rfl⟩ := List.mem_map.1 hy
    exact (hf i (by simpa using hi)).1

end Go.Proofs.Ytinckidkophobaa
