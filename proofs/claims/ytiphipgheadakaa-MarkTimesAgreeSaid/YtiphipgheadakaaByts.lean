/- Slices of bytes: what reads as a list of numbers from 0 to 255. -/
import Derived.Test.YtiphipgheadakaaNum0
import Derived.RegionTactic
import Derived.ChangeAlike
import Derived.Deep.QuietTactic
import Derived.BigQuiet
import Derived.Lib.Hide
import Derived.Deep.DeepCutAuto
import Derived.Deep.CutBlock
import Derived.Below
import Derived.Laws.OwnMore
namespace Go.Proofs.Ytiphipgheadakaa
set_option linter.unusedVariables false
set_option linter.unusedSimpArgs false
open Go.RowKit

/-- The slice value v reads as the bytes xs. -/
def Byts (w : World) (v : Value) (xs : List Int) : Prop :=
  (∃ a cap, v = .slice a 0 cap ∧ xs = []) ∨
  ∃ b off cap, v = .slice (some ⟨b, off, none⟩) xs.length cap ∧ xs ≠ [] ∧ b < w.heap.size ∧ xs.length ≤ cap ∧ cap ≤ maxLen ∧ ∀ j, j < xs.length → w.cell? ⟨b, off + j, none⟩ = some (.int .u8 (xs.getD j 0))
/-- Each is a byte. -/
def isByts (xs : List Int) : Prop := ∀ j, j < xs.length → 0 ≤ xs.getD j 0 ∧ xs.getD j 0 < 256
theorem Byts.nil (w : World) : Byts w (.slice none 0 0) [] := .inl ⟨none, 0, rfl, rfl⟩
theorem Byts.below {B : Nat} {w w' : World} {v : Value} {xs : List Int} (h : Byts w v xs) (hb : Below B w w') (hB : w.heap.size ≤ B) : Byts w' v xs := by
  rcases h with h | ⟨b, off, cap, hv, hne, hlt, hl, hm, hc⟩
  · exact .inl h
  · refine .inr ⟨b, off, cap, hv, hne, Nat.lt_of_lt_of_le hlt hb.size, hl, hm, fun j hj => ?_⟩
    rw [hb.cell (p := ⟨b, off + j, none⟩) (by show b < B; omega)]
    exact hc j hj
theorem Byts.drewN {w : World} {v : Value} {xs : List Int} (h : Byts w v xs) (n : Nat) : Byts (w.drewN n) v xs := h
theorem Byts.parts {w : World} {v : Value} {xs : List Int} (h : Byts w v xs) : ∃ a cap, v = .slice a xs.length cap ∧ xs.length ≤ maxLen := by
  rcases h with ⟨a, c, rfl, rfl⟩ | ⟨b, o, c, rfl, -, -, hl, hm, -⟩
  · exact ⟨a, c, rfl, by simp [maxLen]⟩
  · exact ⟨_, c, rfl, by omega⟩
theorem Byts.spot {w : World} {a : Option Addr} {n cap : Nat} {xs : List Int} (h : Byts w (.slice a n cap) xs) (h0 : 0 < n) : ∃ b off, a = some ⟨b, off, none⟩ ∧ b < w.heap.size ∧ n ≤ cap ∧ cap ≤ maxLen ∧ ∀ j, j < n → w.cell? ⟨b, off + j, none⟩ = some (.int .u8 (xs.getD j 0)) := by
  rcases h with ⟨a', c, hv, rfl⟩ | ⟨b, off, cap', hv, -, hlt, hl, hm, hc⟩
  · simp only [Value.slice.injEq] at hv
    omega
  · simp only [Value.slice.injEq] at hv
    obtain ⟨rfl, rfl, rfl⟩ := hv
    exact ⟨b, off, rfl, hlt, hl, hm, hc⟩
theorem Byts.ofOwn {w : World} {base : Nat} {e : TypeId} {v : Value} {xs : List Int} (h : w.ownsRow base e 1 v xs.length (xs.map (Value.int .u8))) : Byts w v xs := by
  by_cases hz : xs = []
  · subst hz
    rcases h.2 with ⟨rfl, _⟩ | ⟨g, cap, cur, rfl, _⟩
    · exact .inl ⟨_, _, rfl, rfl⟩
    · exact .inl ⟨_, _, rfl, rfl⟩
  · have hl : 0 < xs.length := List.length_pos_iff.2 hz
    have hlt := h.lt
    rcases h.2 with ⟨_, h0⟩ | ⟨g, cap, cur, rfl, hb, hg, hnc, hcm, hcs, htake⟩
    · omega
    · refine .inr ⟨g, 0, cap, rfl, hz, (hlt g rfl).2, hnc, hcm, fun j hj => ?_⟩
      rw [Nat.zero_add, World.ownsRow.cellAt h j (by omega)]
      simp [List.getD_eq_getElem?_getD, hj]
/-- What the frame of a law hands over. -/
theorem Byts.ofRow {w : World} {a : Option Addr} {len cap : Nat}
    (h : ∃ zs : List Int, (a = none ∧ len = 0 ∧ cap = 0 ∧ zs = []) ∨ ∃ x, a = some x ∧ len ≤ cap ∧ cap ≤ maxLen ∧ zs.length = cap ∧ (∀ i, i < zs.length → w.cell? (x.add i) = some (.int .u8 (zs.getD i 0))) ∧ ∀ n ∈ zs, (Lit.int .u8 n).wf = true) :
    ∃ ys, Byts w (.slice a len cap) ys ∧ ys.length = len ∧ isByts ys := by
  obtain ⟨zs, h⟩ := h
  rcases h with ⟨rfl, rfl, rfl, rfl⟩ | ⟨x, rfl, hlc, hcm, hzl, hc, hwf⟩
  · exact ⟨[], .nil w, rfl, fun j hj => by simp at hj⟩
  · have hby : isByts (zs.take len) := fun j hj => by
      have hj' : j < len ∧ j < zs.length := by simp at hj; omega
      have e : (zs.take len).getD j 0 = zs[j]'hj'.2 := by simp [List.getD_eq_getElem?_getD, List.getElem?_take, hj'.1, hj'.2]
      have := hwf _ (List.getElem_mem hj'.2)
      rw [e]
      simp [Lit.wf, IntKind.min, IntKind.max, IntKind.signed, IntKind.bits] at this
      omega
    refine ⟨zs.take len, ?_, by simp; omega, hby⟩
    by_cases h0 : len = 0
    · subst h0
      exact .inl ⟨_, _, rfl, by simp⟩
    · obtain ⟨b, off, rfl, hc'⟩ := ints_at hc (by omega)
      have hb : b < w.heap.size := by
        have := World.block_lt_of_cell? w _ (hc' 0 (by omega))
        exact this
      refine .inr ⟨b, off, cap, by rw [List.length_take]; congr 2 <;> omega, fun h => by have := congrArg List.length h; rw [List.length_take, List.length_nil] at this; omega, hb, by rw [List.length_take]; omega, hcm, fun j hj => ?_⟩
      have hj' : j < len := by simp at hj; omega
      rw [hc' j (by omega)]
      simp [List.getD_eq_getElem?_getD, List.getElem?_take, hj']
theorem Try.infoByte8 : (Try.prog.info? 5).map (fun i => (i.zero, i.size, i.bytes)) = some (some (.int .u8 0), 1, 1) := by kernel_rfl

end Go.Proofs.Ytiphipgheadakaa
