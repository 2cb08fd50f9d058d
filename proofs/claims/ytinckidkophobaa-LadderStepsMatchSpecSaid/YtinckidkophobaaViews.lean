/- Viewers: what is wrong with a crowd, what a viewer takes, what renditions are worth; slices of viewers. -/
import Derived.Test.YtinckidkophobaaRungs
namespace Go.Proofs.Ytinckidkophobaa
set_option linter.unusedVariables false
set_option linter.unusedSimpArgs false
open Go.RowKit Go.Deep

/-- A viewer. -/
structure Vw where
  ra : Int
  he : Int
  wt : Int
def vw0 : Vw := ⟨0, 0, 0⟩
instance : Inhabited Vw := ⟨vw0⟩
def vwC (x : Vw) : Nat → Value
  | 0 => .int .i64 x.ra
  | 1 => .int .i64 x.he
  | _ => .int .i64 x.wt
def vwWf (x : Vw) : Prop := (Lit.int .i64 x.ra).wf = true ∧ (Lit.int .i64 x.he).wf = true ∧ (Lit.int .i64 x.wt).wf = true
/-- The slice value v reads as the viewers vs. -/
def Vws (w : World) (v : Value) (vs : List Vw) : Prop := Recs w v vs.length 3 fun j c => vwC (vs.getD j vw0) c
theorem Vws.below {B : Nat} {w w' : World} {v : Value} {vs : List Vw} (h : Vws w v vs) (hb : Below B w w') (hB : w.heap.size ≤ B) : Vws w' v vs := Recs.below h hb hB
theorem Vws.drewN {w : World} {v : Value} {vs : List Vw} (h : Vws w v vs) (q : Nat) : Vws (w.drewN q) v vs := h
theorem Vws.parts {w : World} {v : Value} {vs : List Vw} (h : Vws w v vs) : ∃ a cap, v = .slice a vs.length cap := Recs.parts h
theorem Vws.cells {w : World} {b off n cap : Nat} {vs : List Vw} (h : Vws w (.slice (some ⟨b, off, none⟩) n cap) vs) (j : Nat) (hj : j < vs.length) :
    w.cell? ⟨b, off + j * 3, none⟩ = some (.int .i64 (vs.getD j vw0).ra) ∧ w.cell? ⟨b, off + j * 3 + 1, none⟩ = some (.int .i64 (vs.getD j vw0).he) ∧ w.cell? ⟨b, off + j * 3 + 2, none⟩ = some (.int .i64 (vs.getD j vw0).wt) := by
  rcases h with ⟨a, c, hv, h0⟩ | ⟨b', off', cap', hv, hne, hlt, hl, hm, hc⟩
  · omega
  · simp only [Value.slice.injEq, Option.some.injEq, Addr.mk.injEq, and_true] at hv
    obtain ⟨⟨rfl, rfl⟩, rfl, rfl⟩ := hv
    exact ⟨hc j hj 0 (by omega), hc j hj 1 (by omega), hc j hj 2 (by omega)⟩
theorem Vws.spot {w : World} {v : Value} {vs : List Vw} (h : Vws w v vs) (h0 : 0 < vs.length) : ∃ b off cap, v = .slice (some ⟨b, off, none⟩) vs.length cap ∧ b < w.heap.size ∧ vs.length ≤ cap ∧ cap ≤ maxLen := by
  rcases h with ⟨a, c, hv, h1⟩ | ⟨b', off', cap', hv, hne, hlt, hl, hm, hc⟩
  · omega
  · exact ⟨b', off', cap', hv, hlt, hl, hm⟩
theorem Vws.max {w : World} {a : Option Addr} {n cap : Nat} {vs : List Vw} (h : Vws w (.slice a n cap) vs) : n = vs.length ∧ vs.length ≤ maxLen := by
  rcases h with ⟨a, c, hv, h0⟩ | ⟨b', off', cap', hv, hne, hlt, hl, hm, hc⟩
  · simp only [Value.slice.injEq] at hv
    exact ⟨by omega, by unfold maxLen; omega⟩
  · simp only [Value.slice.injEq] at hv
    exact ⟨hv.2.1, by omega⟩

theorem vw_open {H : Type} {enc : TypeId × Value → H} {P : Program} {w : World} {base : Nat} {held : Bool} {e i : TypeId} {f0 f1 f2 : Field} {fuel : Nat} {v0 v1 v2 : Value} {x : DataW H × List MemPlace}
    (he : P.underlying e = some (.struct #[f0, f1, f2])) (o : f0.offset = 0 ∧ f1.offset = 1 ∧ f2.offset = 2) (t : f0.type = i ∧ f1.type = i ∧ f2.type = i) (ci : P.cellsOf i = 1) (ui : P.underlying i = some (.int .i64))
    (h : DataW.trod enc P w base (fun _ => true) held fuel e [v0, v1, v2] = some x) :
    ∃ y : Vw, vwWf y ∧ v0 = .int .i64 y.ra ∧ v1 = .int .i64 y.he ∧ v2 = .int .i64 y.wt := by
  obtain ⟨o0, o1, o2⟩ := o
  obtain ⟨t0, t1, t2⟩ := t
  obtain ⟨xs, n, _, _, _, hxl, hf⟩ := DataW.trod_struct he h
  match xs, hxl with
  | [y0, y1, y2], _ =>
    have g0 := hf 0 f0 rfl
    have g1 := hf 1 f1 rfl
    have g2 := hf 2 f2 rfl
    simp [o0, o1, o2, t0, t1, t2, ci] at g0 g1 g2
    obtain ⟨a0, e0, -, w0⟩ := DataW.trod_int ui g0
    obtain ⟨a1, e1, -, w1⟩ := DataW.trod_int ui g1
    obtain ⟨a2, e2, -, w2⟩ := DataW.trod_int ui g2
    simp only [List.cons.injEq, and_true] at e0 e1 e2
    exact ⟨⟨a0, a1, a2⟩, ⟨w0, w1, w2⟩, e0, e1, e2⟩
/-- What the frame of a law hands over. -/
theorem Vws.ofTrod {H : Type} {enc : TypeId × Value → H} {P : Program} {w : World} {base : Nat} {held : Bool} {t e i : TypeId} {f0 f1 f2 : Field} {fuel : Nat} {a : Option Addr} {len cap : Nat} {x : DataW H × List MemPlace}
    (ht : P.underlying t = some (.slice e)) (ce : P.cellsOf e = 3)
    (he : P.underlying e = some (.struct #[f0, f1, f2])) (o : f0.offset = 0 ∧ f1.offset = 1 ∧ f2.offset = 2)
    (t' : f0.type = i ∧ f1.type = i ∧ f2.type = i) (ci : P.cellsOf i = 1) (ui : P.underlying i = some (.int .i64))
    (h : DataW.trod enc P w base (fun _ => true) held fuel t [.slice a len cap] = some x) :
    ∃ vs, Vws w (.slice a len cap) vs ∧ vs.length = len ∧ ∀ y ∈ vs, vwWf y := by
  obtain ⟨F, hF, hel⟩ := Recs.ofTrod ht ce (by omega) h
  have hex : ∀ j, j < len → ∃ y : Vw, vwWf y ∧ ∀ c, c < 3 → F j c = vwC y c := by
    intro j hj
    obtain ⟨n, d, hd⟩ := hel j hj
    have hd' : DataW.trod enc P w base (fun _ => true) held n e [F j 0, F j 1, F j 2] = some d := hd
    obtain ⟨y, hy, e0, e1, e2⟩ := vw_open he o t' ci ui hd'
    refine ⟨y, hy, fun c hc => ?_⟩
    have : c = 0 ∨ c = 1 ∨ c = 2 := by omega
    rcases this with rfl | rfl | rfl
    · exact e0
    · exact e1
    · exact e2
  obtain ⟨f, hf⟩ := choose_lt hex
  refine ⟨(List.range len).map f, ?_, by simp, fun y hy => ?_⟩
  · unfold Vws
    rw [List.length_map, List.length_range]
    refine hF.congr fun j hj c hc => ?_
    have e : ((List.range len).map f).getD j vw0 = f j := by simp [List.getD_eq_getElem?_getD, hj]
    rw [e]
    exact (hf j hj).2 c hc
  · obtain ⟨i, hi, rfl⟩ := List.mem_map.1 hy
    exact (hf i (by simpa using hi)).1

def vwOk (v : Vw) : Prop := (0 ≤ v.ra ∧ v.ra ≤ 1000000000) ∧ (1 ≤ v.he ∧ v.he ≤ 10000) ∧ (1 ≤ v.wt ∧ v.wt ≤ 1000000)
instance (v : Vw) : Decidable (vwOk v) := by unfold vwOk; infer_instance
/-- What is wrong with a crowd. -/
def cwF (vs : List Vw) : Int := if 200 < vs.length then 2 else if ∃ j, j < vs.length ∧ ¬ vwOk (vs.getD j vw0) then 1 else 0
theorem cwF_large {vs : List Vw} (h : 200 < vs.length) : cwF vs = 2 := by rw [cwF, if_pos h]
theorem cwF_bad {vs : List Vw} (h : vs.length ≤ 200) (j : Nat) (hj : j < vs.length) (hn : ¬ vwOk (vs.getD j vw0)) : cwF vs = 1 := by rw [cwF, if_neg (by omega), if_pos ⟨j, hj, hn⟩]
theorem cwF_good {vs : List Vw} (h : vs.length ≤ 200) (hn : ∀ j, j < vs.length → vwOk (vs.getD j vw0)) : cwF vs = 0 := by
  rw [cwF, if_neg (by omega), if_neg (by rintro ⟨j, hj, h2⟩; exact h2 (hn j hj))]
theorem cwF_zero {vs : List Vw} (h : cwF vs = 0) : vs.length ≤ 200 ∧ ∀ j, j < vs.length → vwOk (vs.getD j vw0) := by
  unfold cwF at h
  split at h
  · omega
  · split at h
    · omega
    · rename_i h1 h2
      exact ⟨by omega, fun j hj => Decidable.byContradiction fun hn => h2 ⟨j, hj, hn⟩⟩

/-- A viewer can take a rendition. -/
def canT (v : Vw) (r : Rung) : Bool := decide (r.ra ≤ v.ra) && decide (r.he ≤ v.he)
/-- Which of the first renditions a viewer takes, if any. -/
def tkI (v : Vw) (rs : List Rung) : Nat → Option Nat
  | 0 => none
  | k + 1 => if canT v (rs.getD k rung0) = true ∧ (tkI v rs k = none ∨ (rs.getD ((tkI v rs k).getD 0) rung0).qu < (rs.getD k rung0).qu) then some k else tkI v rs k
theorem tkI_lt (v : Vw) (rs : List Rung) : ∀ k i, tkI v rs k = some i → i < k
  | 0, i, h => by simp [tkI] at h
  | k + 1, i, h => by
    rw [tkI] at h
    split at h
    · simp only [Option.some.injEq] at h; omega
    · have := tkI_lt v rs k i h; omega
/-- What a viewer adds to the worth. -/
def tkQ (v : Vw) (rs : List Rung) : Int := match tkI v rs rs.length with | none => 0 | some i => v.wt * (rs.getD i rung0).qu
def worthTo (rs : List Rung) (vs : List Vw) : Nat → Int
  | 0 => 0
  | k + 1 => worthTo rs vs k + tkQ (vs.getD k vw0) rs
theorem tkQ_bd {v : Vw} {rs : List Rung} (hv : vwOk v) (g : OkRs rs) : 0 ≤ tkQ v rs ∧ tkQ v rs ≤ 1000000000000 := by
  unfold tkQ
  cases h : tkI v rs rs.length with
  | none => simp
  | some i =>
    have hi := tkI_lt v rs _ _ h
    obtain ⟨q0, q1⟩ := (g.ok i hi).qu
    obtain ⟨-, -, w0, w1⟩ := hv
    refine ⟨Int.mul_nonneg (by omega) q0, ?_⟩
    exact Int.le_trans (Int.mul_le_mul w1 q1 q0 (by decide)) (by decide)
theorem worthTo_bd {rs : List Rung} {vs : List Vw} (g : OkRs rs) : ∀ k, k ≤ vs.length → (∀ j, j < vs.length → vwOk (vs.getD j vw0)) → 0 ≤ worthTo rs vs k ∧ worthTo rs vs k ≤ 1000000000000 * k
  | 0, _, _ => by simp [worthTo]
  | k + 1, hk, hv => by
    have h1 := worthTo_bd g k (by omega) hv
    have h2 := tkQ_bd (hv k (by omega)) g
    rw [worthTo]
    omega

end Go.Proofs.Ytinckidkophobaa
