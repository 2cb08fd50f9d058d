/- What the frame of a law hands over of a playlist. -/
import Derived.Test.YtikpemmfmkdndaaEnts
import Derived.Lib.SmallJoins
import Derived.WideShapes
namespace Go.Proofs.Ytikpemmfmkdndaa
set_option linter.unusedVariables false
set_option linter.unusedSimpArgs false
open Go.RowKit Go.Deep Go.WideShapes Go.ChangeShapes

theorem wf_bd6 {n : Int} (h : (Lit.int .i64 n).wf = true) : -9223372036854775808 ≤ n ∧ n ≤ 9223372036854775807 := by
  have h1 : IntKind.i64.min = -9223372036854775808 := by decide
  have h2 : IntKind.i64.max = 9223372036854775807 := by decide
  simpa only [Lit.wf, Bool.and_eq_true, decide_eq_true_eq, h1, h2] using h
theorem arr5 {α : Type} {cs : Array α} (h : cs.size = 5) : ∃ c0 c1 c2 c3 c4, cs = #[c0, c1, c2, c3, c4] := by
  obtain ⟨l⟩ := cs
  match l, h with
  | [c0, c1, c2, c3, c4], _ => exact ⟨c0, c1, c2, c3, c4, rfl⟩
theorem lst_open {H : Type} {enc : TypeId × Value → H} {P : Program} {w : World} {base b0 : Nat} {r : Reach} {held : Bool} {t sl e s i l bo : TypeId} {g0 g1 g2 g3 g4 f0 f1 f2 f3 f4 f5 f6 : Field} {v : Value} {d : DataW H} {p : List MemPlace}
    (ht : P.underlying t = some (.struct #[g0, g1, g2, g3, g4])) (hC : P.cellsOf t = 5) (og : g0.offset = 0 ∧ g1.offset = 1 ∧ g2.offset = 2 ∧ g3.offset = 3 ∧ g4.offset = 4)
    (tg : g0.type = i ∧ g1.type = i ∧ g2.type = i ∧ g3.type = sl ∧ g4.type = bo)
    (hsl : P.underlying sl = some (.slice e)) (ce : P.cellsOf e = 7)
    (he : P.underlying e = some (.struct #[f0, f1, f2, f3, f4, f5, f6])) (o : f0.offset = 0 ∧ f1.offset = 1 ∧ f2.offset = 2 ∧ f3.offset = 3 ∧ f4.offset = 4 ∧ f5.offset = 5 ∧ f6.offset = 6)
    (t' : f0.type = s ∧ f1.type = i ∧ f2.type = bo ∧ f3.type = i ∧ f4.type = s ∧ f5.type = bo ∧ f6.type = l) (cs : P.cellsOf s = 1) (ci : P.cellsOf i = 1) (cb : P.cellsOf bo = 1) (cl : P.cellsOf l = 1) (csl : P.cellsOf sl = 1)
    (us : P.underlying s = some .string) (ui : P.underlying i = some (.int .i64)) (ub : P.underlying bo = some .bool) (ul : P.underlying l = some (.slice s))
    (hv : Value.okWide P w r b0 t v) (h : DataW.Trod enc P w base (fun _ => true) held t v d p) :
    ∃ (x0 x1 x2 : Int) (a : Option Addr) (len cap : Nat) (en : Bool), v = .agg #[.int .i64 x0, .int .i64 x1, .int .i64 x2, .slice a len cap, .bool en] ∧ ∃ es, Ents w (.slice a len cap) es ∧ es.length = len ∧ ∀ y ∈ es, EntWf y := by
  obtain ⟨cs', rfl, hsz⟩ := okWide_struct ht hv
  obtain ⟨c0, c1, c2, c3, c4, rfl⟩ := arr5 (hsz.trans hC)
  obtain ⟨fuel, hf⟩ := h
  have hf' : DataW.trod enc P w base (fun _ => true) held fuel t [c0, c1, c2, c3, c4] = some (d, p) := by simpa [Value.cells] using hf
  obtain ⟨o0, o1, o2, o3, o4⟩ := og
  obtain ⟨t0, t1, t2, t3, t4⟩ := tg
  obtain ⟨xs, n, _, _, _, hxl, hfs⟩ := DataW.trod_struct ht hf'
  match xs, hxl with
  | [y0, y1, y2, y3, y4], _ =>
    have q0 := hfs 0 g0 rfl
    have q1 := hfs 1 g1 rfl
    have q2 := hfs 2 g2 rfl
    have q3 := hfs 3 g3 rfl
    have q4 := hfs 4 g4 rfl
    simp [o0, o1, o2, o3, o4, t0, t1, t2, t3, t4, ci, cb, csl] at q0 q1 q2 q3 q4
    obtain ⟨a0, e0, -, -⟩ := DataW.trod_int ui q0
    obtain ⟨a1, e1, -, -⟩ := DataW.trod_int ui q1
    obtain ⟨a2, e2, -, -⟩ := DataW.trod_int ui q2
    obtain ⟨a3, l3, c3', e3⟩ := Go.Joins.slice_form hsl q3
    obtain ⟨a4, e4, -⟩ := DataW.trod_bool ub q4
    simp only [List.cons.injEq, and_true] at e0 e1 e2 e3 e4
    subst e0 e1 e2 e3 e4
    exact ⟨_, _, _, _, _, _, _, rfl, Ents.ofTrod hsl ce he o t' cs ci cb cl us ui ub ul q3⟩

end Go.Proofs.Ytikpemmfmkdndaa
