/- slices.Clone, slices.Delete at renditions; LadderMoreIsWorthMore. -/
import Derived.Test.YtinckidkophobaaWorth
import Derived.Test.YtinckidkophobaaMorePlain
import Derived.Test.YtinckidkophobaaMean5
import Derived.Shelf.SlicesE.Clone
import Derived.Deep.RegionLaw
import Derived.Lib.SliceRun
namespace Go.Proofs.Ytinckidkophobaa
set_option linter.unusedVariables false
set_option linter.unusedSimpArgs false
open Go.RowKit Go.Shelf Go.Deep

def rcells (rs : List Rung) : List Value := rs.flatMap fun y => [.string y.nm, .int .i64 y.ra, .int .i64 y.he, .int .i64 y.qu]
theorem rcells_cons (p : Rung) (ss : List Rung) : rcells (p :: ss) = .string p.nm :: .int .i64 p.ra :: .int .i64 p.he :: .int .i64 p.qu :: rcells ss := rfl
theorem rcells_len (ss : List Rung) : (rcells ss).length = ss.length * 4 := by
  induction ss with
  | nil => rfl
  | cons p ps ih => rw [rcells_cons]; simp [ih]; omega
theorem rcells_at (ss : List Rung) : ∀ j, j < ss.length → ∀ c, c < 4 → (rcells ss)[j * 4 + c]? = some (rungC (ss.getD j rung0) c) := by
  induction ss with
  | nil => intro j hj; simp at hj
  | cons p ps ih =>
    intro j hj c hc
    cases j with
    | zero =>
      have : c = 0 ∨ c = 1 ∨ c = 2 ∨ c = 3 := by omega
      rcases this with rfl | rfl | rfl | rfl <;> rfl
    | succ j =>
      have h0 := ih j (by simpa using hj) c hc
      rw [rcells_cons, show (j + 1) * 4 + c = j * 4 + c + 1 + 1 + 1 + 1 by omega]
      simp only [List.getElem?_cons_succ, List.getD_cons_succ]
      exact h0
theorem rcells_one (ss : List Rung) : ∀ u ∈ rcells ss, u.oneCell' = true := by
  intro u hu
  obtain ⟨y, -, hy⟩ := List.mem_flatMap.1 hu
  simp only [List.mem_cons, List.not_mem_nil, or_false] at hy
  rcases hy with rfl | rfl | rfl | rfl <;> rfl
theorem Try.infoRung : (Try.prog.info? 56).map (fun i => (i.zero, i.size, i.bytes)) = some (some (.agg #[.string ⟨#[]⟩, .int .i64 0, .int .i64 0, .int .i64 0]), 4, 40) := by kernel_rfl
/-- clear at a slice of one rendition. -/
theorem run_clear_rung (w : World) (ty : TypeId) (b o c : Nat) (hc : ∀ j, j < 4 → (w.cell? ⟨b, o + j, none⟩).isSome = true) (hf : ∀ j, j < 4 → w.frozen? ⟨b, o + j, none⟩ = false) :
    (Builtin.clear_ #[22] ty #[.slice (some ⟨b, o, none⟩) 1 c]).run Try.prog w = .ok (.tuple #[]) (w.setCells b o [.string ⟨#[]⟩, .int .i64 0, .int .i64 0, .int .i64 0]) := by
  have hzc : (Builtin.zeroCells (Value.agg #[.string ⟨#[]⟩, .int .i64 0, .int .i64 0, .int .i64 0]).cells 1).toList = [.string ⟨#[]⟩, .int .i64 0, .int .i64 0, .int .i64 0] := by kernel_rfl
  have hst := run_storeCells_cells (P := Try.prog) b o [.string ⟨#[]⟩, .int .i64 0, .int .i64 0, .int .i64 0] 0 w (by simpa using hc) (by simpa using hf) (by intro v hv'; simp only [List.mem_cons, List.not_mem_nil, or_false] at hv'; rcases hv' with rfl | rfl | rfl | rfl <;> rfl)
  simp only [Nat.add_zero] at hst
  simp [Builtin.clear_, run_underlying Try.underlying22, Try.zeroValue56, hzc, hst]
theorem keeps_setCells {B : Nat} {a : World} (b : Nat) (hb : B ≤ b) : ∀ (vs : List Value) (o : Nat) {w : World}, Below B a w → Below B a (w.setCells b o vs)
  | [], _, _, h => h
  | v :: vs, o, w, h => keeps_setCells b hb vs (o + 1) (h.setCell (p := ⟨b, o, none⟩) hb v)
theorem without_cells {rs : List Rung} {n i : Nat} (hn : rs.length = n) (hi : i < n) (t : Nat) (ht : t < (n - (i + 1)) * 4) : ((rcells rs).drop ((i + 1) * 4))[t]? = some (rungC (rs.getD (i + 1 + t / 4) rung0) (t % 4)) := by
  rw [List.getElem?_drop, show (i + 1) * 4 + t = (i + 1 + t / 4) * 4 + t % 4 by omega]
  exact rcells_at rs _ (by omega) _ (by omega)
end Go.Proofs.Ytinckidkophobaa
