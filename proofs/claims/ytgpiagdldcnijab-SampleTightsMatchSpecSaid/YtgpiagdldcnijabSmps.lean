/- Slices of samples. -/
import Derived.Test.YtgpiagdldcnijabRecs
namespace Go.Proofs.Ytgpiagdldcnijab
set_option linter.unusedVariables false
set_option linter.unusedSimpArgs false
open Go.RowKit Go.Deep

def smpC (x : Smp) : Nat → Value
  | 0 => .int .i64 x.t
  | 1 => .int .i64 x.s
  | 2 => .int .i64 x.h
  | 3 => .int .i64 x.z
  | _ => .bool x.k
def smpWf (x : Smp) : Prop := (Lit.int .i64 x.t).wf = true ∧ (Lit.int .i64 x.s).wf = true ∧ (Lit.int .i64 x.h).wf = true ∧ (Lit.int .i64 x.z).wf = true
/-- The slice value v reads as the samples ss. -/
def Smps (w : World) (v : Value) (ss : List Smp) : Prop := Recs w v ss.length 5 fun j c => smpC (ss.getD j smp0) c

theorem Smps.nil (w : World) : Smps w (.slice none 0 0) [] := Recs.nil w 5 _
theorem Smps.below {B : Nat} {w w' : World} {v : Value} {ss : List Smp} (h : Smps w v ss) (hb : Below B w w') (hB : w.heap.size ≤ B) : Smps w' v ss := Recs.below h hb hB
theorem Smps.parts {w : World} {v : Value} {ss : List Smp} (h : Smps w v ss) : ∃ a cap, v = .slice a ss.length cap := Recs.parts h
/-- The cells of one sample. -/
theorem Smps.cells {w : World} {b off n cap : Nat} {ss : List Smp} (h : Smps w (.slice (some ⟨b, off, none⟩) n cap) ss) (j : Nat) (hj : j < ss.length) :
    w.cell? ⟨b, off + j * 5, none⟩ = some (.int .i64 (ss.getD j smp0).t) ∧ w.cell? ⟨b, off + j * 5 + 1, none⟩ = some (.int .i64 (ss.getD j smp0).s) ∧ w.cell? ⟨b, off + j * 5 + 2, none⟩ = some (.int .i64 (ss.getD j smp0).h) ∧
    w.cell? ⟨b, off + j * 5 + 3, none⟩ = some (.int .i64 (ss.getD j smp0).z) ∧ w.cell? ⟨b, off + j * 5 + 4, none⟩ = some (.bool (ss.getD j smp0).k) := by
  rcases h with ⟨a, c, hv, h0⟩ | ⟨b', off', cap', hv, hne, hlt, hl, hm, hc⟩
  · omega
  · simp only [Value.slice.injEq, Option.some.injEq, Addr.mk.injEq, and_true] at hv
    obtain ⟨⟨rfl, rfl⟩, rfl, rfl⟩ := hv
    exact ⟨hc j hj 0 (by omega), hc j hj 1 (by omega), hc j hj 2 (by omega), hc j hj 3 (by omega), hc j hj 4 (by omega)⟩

theorem Smps.take {w : World} {b off n cap : Nat} {ss : List Smp} (h : Smps w (.slice (some ⟨b, off, none⟩) n cap) ss) (k : Nat) (hk : k ≤ ss.length) : Smps w (.slice (some ⟨b, off, none⟩) k cap) (ss.take k) := by
  by_cases h0 : k = 0
  · subst h0
    exact .inl ⟨_, _, rfl, by simp⟩
  · rcases h with ⟨a, c, hv, h1⟩ | ⟨b', off', cap', hv, hne, hlt, hl, hm, hc⟩
    · omega
    · simp only [Value.slice.injEq, Option.some.injEq, Addr.mk.injEq, and_true] at hv
      obtain ⟨⟨rfl, rfl⟩, rfl, rfl⟩ := hv
      have e : (ss.take k).length = k := by rw [List.length_take]; omega
      unfold Smps
      rw [e]
      refine .inr ⟨b, off, cap, rfl, by omega, hlt, by omega, hm, fun j hj c hc' => ?_⟩
      have e2 : (ss.take k).getD j smp0 = ss.getD j smp0 := by simp [List.getD_eq_getElem?_getD, List.getElem?_take, hj]
      show w.cell? _ = some (smpC ((ss.take k).getD j smp0) c)
      rw [e2]
      exact hc j (by omega) c hc'

theorem smp_open {H : Type} {enc : TypeId × Value → H} {P : Program} {w : World} {base : Nat} {held : Bool} {e : TypeId} {f0 f1 f2 f3 f4 : Field} {fuel : Nat} {v0 v1 v2 v3 v4 : Value} {x : DataW H × List MemPlace}
    (he : P.underlying e = some (.struct #[f0, f1, f2, f3, f4])) (o0 : f0.offset = 0) (o1 : f1.offset = 1) (o2 : f2.offset = 2) (o3 : f3.offset = 3) (o4 : f4.offset = 4)
    (c0 : P.cellsOf f0.type = 1) (c1 : P.cellsOf f1.type = 1) (c2 : P.cellsOf f2.type = 1) (c3 : P.cellsOf f3.type = 1) (c4 : P.cellsOf f4.type = 1)
    (u0 : P.underlying f0.type = some (.int .i64)) (u1 : P.underlying f1.type = some (.int .i64)) (u2 : P.underlying f2.type = some (.int .i64)) (u3 : P.underlying f3.type = some (.int .i64)) (u4 : P.underlying f4.type = some .bool)
    (h : DataW.trod enc P w base (fun _ => true) held fuel e [v0, v1, v2, v3, v4] = some x) :
    ∃ y : Smp, smpWf y ∧ v0 = .int .i64 y.t ∧ v1 = .int .i64 y.s ∧ v2 = .int .i64 y.h ∧ v3 = .int .i64 y.z ∧ v4 = .bool y.k := by
  obtain ⟨xs, n, _, _, _, hxl, hf⟩ := DataW.trod_struct he h
  match xs, hxl with
  | [y0, y1, y2, y3, y4], _ =>
    have g0 := hf 0 f0 rfl
    have g1 := hf 1 f1 rfl
    have g2 := hf 2 f2 rfl
    have g3 := hf 3 f3 rfl
    have g4 := hf 4 f4 rfl
    simp [o0, o1, o2, o3, o4, c0, c1, c2, c3, c4] at g0 g1 g2 g3 g4
    obtain ⟨a, e0, -, w0⟩ := DataW.trod_int u0 g0
    obtain ⟨b, e1, -, w1⟩ := DataW.trod_int u1 g1
    obtain ⟨c, e2, -, w2⟩ := DataW.trod_int u2 g2
    obtain ⟨d, e3, -, w3⟩ := DataW.trod_int u3 g3
    obtain ⟨k, e4, -⟩ := DataW.trod_bool u4 g4
    simp only [List.cons.injEq, and_true] at e0 e1 e2 e3 e4
    exact ⟨⟨a, b, c, d, k⟩, ⟨w0, w1, w2, w3⟩, e0, e1, e2, e3, e4⟩

/-- What the frame of a law hands over. -/
theorem Smps.ofTrod {H : Type} {enc : TypeId × Value → H} {P : Program} {w : World} {base : Nat} {held : Bool} {t e : TypeId} {f0 f1 f2 f3 f4 : Field} {fuel : Nat} {a : Option Addr} {len cap : Nat} {x : DataW H × List MemPlace}
    (ht : P.underlying t = some (.slice e)) (ce : P.cellsOf e = 5)
    (he : P.underlying e = some (.struct #[f0, f1, f2, f3, f4])) (o0 : f0.offset = 0) (o1 : f1.offset = 1) (o2 : f2.offset = 2) (o3 : f3.offset = 3) (o4 : f4.offset = 4)
    (c0 : P.cellsOf f0.type = 1) (c1 : P.cellsOf f1.type = 1) (c2 : P.cellsOf f2.type = 1) (c3 : P.cellsOf f3.type = 1) (c4 : P.cellsOf f4.type = 1)
    (u0 : P.underlying f0.type = some (.int .i64)) (u1 : P.underlying f1.type = some (.int .i64)) (u2 : P.underlying f2.type = some (.int .i64)) (u3 : P.underlying f3.type = some (.int .i64)) (u4 : P.underlying f4.type = some .bool)
    (h : DataW.trod enc P w base (fun _ => true) held fuel t [.slice a len cap] = some x) :
    ∃ ss, Smps w (.slice a len cap) ss ∧ ss.length = len ∧ ∀ y ∈ ss, smpWf y := by
  obtain ⟨F, hF, hel⟩ := Recs.ofTrod ht ce (by omega) h
  have hex : ∀ j, j < len → ∃ y : Smp, smpWf y ∧ ∀ c, c < 5 → F j c = smpC y c := by
    intro j hj
    obtain ⟨n, d, hd⟩ := hel j hj
    have hd' : DataW.trod enc P w base (fun _ => true) held n e [F j 0, F j 1, F j 2, F j 3, F j 4] = some d := hd
    obtain ⟨y, hy, e0, e1, e2, e3, e4⟩ := smp_open he o0 o1 o2 o3 o4 c0 c1 c2 c3 c4 u0 u1 u2 u3 u4 hd'
    refine ⟨y, hy, fun c hc => ?_⟩
    have : c = 0 ∨ c = 1 ∨ c = 2 ∨ c = 3 ∨ c = 4 := by omega
    rcases this with rfl | rfl | rfl | rfl | rfl
    · exact e0
    · exact e1
    · exact e2
    · exact e3
    · exact e4
  obtain ⟨f, hf⟩ := choose_lt hex
  refine ⟨(List.range len).map f, ?_, by simp, fun y hy => ?_⟩
  · unfold Smps
    rw [List.length_map, List.length_range]
    refine hF.congr fun j hj c hc => ?_
    have e : ((List.range len).map f).getD j smp0 = f j := by simp [List.getD_eq_getElem?_getD, hj]
    rw [e]
    exact (hf j hj).2 c hc
  · obtain ⟨i, hi, rfl⟩ := List.mem_map.1 hy
    exact (hf i (by simpa using hi)).1

end Go.Proofs.Ytgpiagdldcnijab
