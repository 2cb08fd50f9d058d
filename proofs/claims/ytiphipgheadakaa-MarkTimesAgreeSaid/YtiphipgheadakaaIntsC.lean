/- Slices of integers with their capacity: what may be sliced again. -/
import Derived.Test.YtiphipgheadakaaInts
namespace Go.Proofs.Ytiphipgheadakaa
set_option linter.unusedVariables false
set_option linter.unusedSimpArgs false
open Go.RowKit

/-- The slice value v reads as the numbers zs, and is no longer than its capacity. -/
def NumsC (w : World) (v : Value) (zs : List Int) : Prop :=
  (∃ a cap, v = .slice a 0 cap ∧ zs = []) ∨
  ∃ b off cap, v = .slice (some ⟨b, off, none⟩) zs.length cap ∧ zs ≠ [] ∧ b < w.heap.size ∧ zs.length ≤ cap ∧ cap ≤ maxLen ∧ ∀ j, j < zs.length → w.cell? ⟨b, off + j, none⟩ = some (.int .i64 (zs.getD j 0))
theorem NumsC.nums {w : World} {v : Value} {zs : List Int} (h : NumsC w v zs) : Nums w v zs := by
  rcases h with h | ⟨b, off, cap, hv, hne, hlt, hl, hm, hc⟩
  · exact .inl h
  · exact .inr ⟨b, off, cap, hv, hne, hlt, by omega, hc⟩
theorem NumsC.below {B : Nat} {w w' : World} {v : Value} {zs : List Int} (h : NumsC w v zs) (hb : Below B w w') (hB : w.heap.size ≤ B) : NumsC w' v zs := by
  rcases h with h | ⟨b, off, cap, hv, hne, hlt, hl, hm, hc⟩
  · exact .inl h
  · refine .inr ⟨b, off, cap, hv, hne, Nat.lt_of_lt_of_le hlt hb.size, hl, hm, fun j hj => ?_⟩
    rw [hb.cell (p := ⟨b, off + j, none⟩) (by show b < B; omega)]
    exact hc j hj
theorem NumsC.drewN {w : World} {v : Value} {zs : List Int} (h : NumsC w v zs) (n : Nat) : NumsC (w.drewN n) v zs := h
theorem NumsC.parts {w : World} {v : Value} {zs : List Int} (h : NumsC w v zs) : ∃ a cap, v = .slice a zs.length cap ∧ zs.length ≤ maxLen := by
  rcases h with ⟨a, c, rfl, rfl⟩ | ⟨b, o, c, rfl, -, -, hl, hm, -⟩
  · exact ⟨a, c, rfl, by simp [maxLen]⟩
  · exact ⟨_, c, rfl, by omega⟩
theorem NumsC.ofOwn {w : World} {base : Nat} {e : TypeId} {v : Value} {zs : List Int} (h : w.ownsRow base e 1 v zs.length (zs.map (Value.int .i64))) : NumsC w v zs := by
  by_cases hz : zs = []
  · subst hz
    rcases h.2 with ⟨rfl, _⟩ | ⟨g, cap, cur, rfl, _⟩
    · exact .inl ⟨_, _, rfl, rfl⟩
    · exact .inl ⟨_, _, rfl, rfl⟩
  · have hl : 0 < zs.length := List.length_pos_iff.2 hz
    have hlt := h.lt
    rcases h.2 with ⟨_, h0⟩ | ⟨g, cap, cur, rfl, hb, hg, hnc, hcm, hcs, htake⟩
    · omega
    · refine .inr ⟨g, 0, cap, rfl, hz, (hlt g rfl).2, hnc, hcm, fun j hj => ?_⟩
      rw [Nat.zero_add, World.ownsRow.cellAt h j (by omega)]
      simp [List.getD_eq_getElem?_getD, hj]
/-- What the frame of a law hands over. -/
theorem NumsC.ofRow {w : World} {a : Option Addr} {len cap : Nat}
    (h : ∃ zs : List Int, (a = none ∧ len = 0 ∧ cap = 0 ∧ zs = []) ∨ ∃ x, a = some x ∧ len ≤ cap ∧ cap ≤ maxLen ∧ zs.length = cap ∧ (∀ i, i < zs.length → w.cell? (x.add i) = some (.int .i64 (zs.getD i 0))) ∧ ∀ n ∈ zs, (Lit.int .i64 n).wf = true) :
    ∃ ys, NumsC w (.slice a len cap) ys ∧ ys.length = len ∧ ∀ n ∈ ys, (Lit.int .i64 n).wf = true := by
  obtain ⟨zs, h⟩ := h
  have h' := h
  obtain ⟨ys, h1, h2, h3⟩ := Nums.ofRow h
  refine ⟨ys, ?_, h2, h3⟩
  rcases h1 with h1 | ⟨b, off, cap', hv, hne, hlt, hm, hc⟩
  · exact .inl h1
  · rcases h' with ⟨rfl, rfl, rfl, -⟩ | ⟨x, rfl, hlc, hcm, -⟩
    · simp at hv
    · simp only [Value.slice.injEq, Option.some.injEq] at hv
      obtain ⟨rfl, hl, rfl⟩ := hv
      exact .inr ⟨b, off, cap, by rw [h2], hne, hlt, by omega, hcm, hc⟩
theorem Try.infoInt8 : (Try.prog.info? 3).map (fun i => (i.zero, i.size, i.bytes)) = some (some (.int .i64 0), 1, 8) := by kernel_rfl

end Go.Proofs.Ytiphipgheadakaa
