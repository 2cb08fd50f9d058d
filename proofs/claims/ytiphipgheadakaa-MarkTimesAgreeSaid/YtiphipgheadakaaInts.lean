/- Slices of integers: what reads as a list of numbers; slices.Equal. -/
import Derived.Test.YtiphipgheadakaaNum0
import Derived.Test.YtiphipgheadakaaShelf
import Derived.RegionTactic
import Derived.ChangeAlike
import Derived.Deep.QuietTactic
import Derived.BigQuiet
import Derived.Lib.Hide
import Derived.Lib.ItoaNum
import Derived.Deep.DeepCutAuto
import Derived.Deep.CutBlock
import Derived.Below
import Derived.Laws.OwnMore
namespace Go.Proofs.Ytiphipgheadakaa
set_option linter.unusedVariables false
set_option linter.unusedSimpArgs false
open Go.RowKit

/-- The slice value v reads as the numbers zs. -/
def Nums (w : World) (v : Value) (zs : List Int) : Prop :=
  (∃ a cap, v = .slice a 0 cap ∧ zs = []) ∨
  ∃ b off cap, v = .slice (some ⟨b, off, none⟩) zs.length cap ∧ zs ≠ [] ∧ b < w.heap.size ∧ zs.length ≤ maxLen ∧ ∀ j, j < zs.length → w.cell? ⟨b, off + j, none⟩ = some (.int .i64 (zs.getD j 0))

theorem ret2_vi {u v : Value} {a b : Int} (hu : u = v) (h : a = b) : Ending.returned (.tuple #[u, .int .i64 a]) = .returned (.tuple #[v, .int .i64 b]) := by rw [hu, h]

theorem Nums.nil (w : World) : Nums w (.slice none 0 0) [] := .inl ⟨none, 0, rfl, rfl⟩

theorem Nums.below {B : Nat} {w w' : World} {v : Value} {zs : List Int} (h : Nums w v zs) (hb : Below B w w') (hB : w.heap.size ≤ B) : Nums w' v zs := by
  rcases h with h | ⟨b, off, cap, hv, hne, hlt, hm, hc⟩
  · exact .inl h
  · refine .inr ⟨b, off, cap, hv, hne, Nat.lt_of_lt_of_le hlt hb.size, hm, fun j hj => ?_⟩
    rw [hb.cell (p := ⟨b, off + j, none⟩) (by show b < B; omega)]
    exact hc j hj

theorem Nums.drewN {w : World} {v : Value} {zs : List Int} (h : Nums w v zs) (n : Nat) : Nums (w.drewN n) v zs := h

theorem Nums.ofOwn {w : World} {base : Nat} {e : TypeId} {v : Value} {zs : List Int} (h : w.ownsRow base e 1 v zs.length (zs.map (Value.int .i64))) : Nums w v zs := by
  by_cases hz : zs = []
  · subst hz
    rcases h.2 with ⟨rfl, _⟩ | ⟨g, cap, cur, rfl, _⟩
    · exact .nil w
    · exact .inl ⟨_, _, rfl, rfl⟩
  · have hl : 0 < zs.length := List.length_pos_iff.2 hz
    have hlt := h.lt
    rcases h.2 with ⟨_, h0⟩ | ⟨g, cap, cur, rfl, hb, hg, hnc, hcm, hcs, htake⟩
    · omega
    · refine .inr ⟨g, 0, cap, rfl, hz, (hlt g rfl).2, by omega, fun j hj => ?_⟩
      rw [Nat.zero_add, World.ownsRow.cellAt h j (by omega)]
      simp [List.getD_eq_getElem?_getD, hj]

theorem getD_eq_get (zs : List Int) (j : Nat) (h : j < zs.length) : zs.getD j 0 = zs[j] := by simp [List.getD_eq_getElem?_getD, h]

/-- What the frame of a law hands over. -/
theorem Nums.ofRow {w : World} {a : Option Addr} {len cap : Nat} {zs : List Int}
    (h : (a = none ∧ len = 0 ∧ cap = 0 ∧ zs = []) ∨ ∃ x, a = some x ∧ len ≤ cap ∧ cap ≤ maxLen ∧ zs.length = cap ∧ (∀ i, i < zs.length → w.cell? (x.add i) = some (.int .i64 (zs.getD i 0))) ∧ ∀ n ∈ zs, (Lit.int .i64 n).wf = true) :
    ∃ ys, Nums w (.slice a len cap) ys ∧ ys.length = len ∧ ∀ n ∈ ys, (Lit.int .i64 n).wf = true := by
  rcases h with ⟨rfl, rfl, rfl, rfl⟩ | ⟨x, rfl, hlc, hcm, hzl, hc, hwf⟩
  · exact ⟨[], .nil w, rfl, by simp⟩
  · refine ⟨zs.take len, ?_, by simp; omega, fun n hn => hwf n (List.mem_of_mem_take hn)⟩
    by_cases h0 : len = 0
    · subst h0
      exact .inl ⟨_, _, rfl, by simp⟩
    · obtain ⟨b, off, rfl, hc'⟩ := ints_at hc (by omega)
      have hb : b < w.heap.size := by
        have := World.block_lt_of_cell? w _ (hc' 0 (by omega))
        exact this
      refine .inr ⟨b, off, cap, by rw [List.length_take]; congr 2 <;> omega, fun h => by have := congrArg List.length h; rw [List.length_take, List.length_nil] at this; omega, hb, by rw [List.length_take]; omega, fun j hj => ?_⟩
      have hj' : j < len := by simp at hj; omega
      rw [hc' j (by omega)]
      simp [List.getD_eq_getElem?_getD, List.getElem?_take, hj']

set_option maxHeartbeats 400000 in
theorem equal_none (a1 a2 : Option Addr) (n c d : Nat) (w : World) (h : 0 < n) (hm : n ≤ 9223372036854775807) :
    Calls Try.prog 30 #[.slice a1 n c, .slice a2 0 d] w fun e w' => e = .returned (.bool false) ∧ w = w' := by
  have e1 : ((n : Int) == 0) = false := by simp; omega
  go_enter Try.func30, Try.ntmps30
  go_wp2
  go_ret
  exact ⟨rfl, rfl⟩

theorem equal_any (u v : Value) (xs ys : List Int) (w : World) (hx : Nums w u xs) (hy : Nums w v ys) :
    Calls Try.prog 30 #[u, v] w fun e w' => e = .returned (.bool (xs == ys)) ∧ ∃ q, w' = w.drewN q := by
  have hm : ∀ {n : Nat}, n ≤ maxLen → n ≤ 9223372036854775807 := fun h => by unfold maxLen at h; omega
  rcases hx with ⟨a, c, rfl, rfl⟩ | ⟨b, o, c, rfl, hne, -, hl, hc⟩
  · rcases hy with ⟨a', c', rfl, rfl⟩ | ⟨b', o', c', rfl, hne', -, hl', hc'⟩
    · refine (Try.slices_Equal_int_empty _ _ _ _ _ w (by omega)).mono ?_
      rintro e w' ⟨rfl, rfl⟩
      exact ⟨by simp, 0, rfl⟩
    · refine (Try.slices_Equal_int_empty _ _ _ _ _ w (hm hl')).mono ?_
      rintro e w' ⟨rfl, rfl⟩
      refine ⟨ret_bool ?_, 0, rfl⟩
      cases ys
      · simp at hne'
      · simp
  · rcases hy with ⟨a', c', rfl, rfl⟩ | ⟨b', o', c', rfl, hne', -, hl', hc'⟩
    · refine (equal_none _ _ _ _ _ w (List.length_pos_iff.2 hne) (hm hl)).mono ?_
      rintro e w' ⟨rfl, rfl⟩
      refine ⟨ret_bool ?_, 0, rfl⟩
      cases xs
      · simp at hne
      · simp
    · refine (Try.slices_Equal_int b o _ c b' o' _ c' xs ys w (Nat.le_refl _) (Nat.le_refl _) (hm hl) (hm hl') hc hc').mono ?_
      rintro e w' ⟨rfl, hw⟩
      exact ⟨by simp, hw⟩

end Go.Proofs.Ytiphipgheadakaa
