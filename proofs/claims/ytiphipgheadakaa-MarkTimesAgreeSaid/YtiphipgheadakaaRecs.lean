/- Slices of records: what reads as n records of k cells each; what the frame of a law hands over. -/
import Derived.Test.YtiphipgheadakaaBoxPlain
import Derived.WalkKit
import Derived.WalkSpells
import Derived.WalkLawsBesides
import Derived.Handy
import Derived.Below
import Derived.Deep.SlicePairs
namespace Go.Proofs.Ytiphipgheadakaa
set_option linter.unusedVariables false
set_option linter.unusedSimpArgs false
open Go.RowKit Go.Deep

/-- The slice value v reads as n records of k cells, cell c of number j being F j c. -/
def Recs (w : World) (v : Value) (n k : Nat) (F : Nat → Nat → Value) : Prop :=
  (∃ a cap, v = .slice a 0 cap ∧ n = 0) ∨
  ∃ b off cap, v = .slice (some ⟨b, off, none⟩) n cap ∧ 0 < n ∧ b < w.heap.size ∧ n ≤ cap ∧ cap ≤ maxLen ∧ ∀ j, j < n → ∀ c, c < k → w.cell? ⟨b, off + j * k + c, none⟩ = some (F j c)

theorem Recs.nil (w : World) (k : Nat) (F : Nat → Nat → Value) : Recs w (.slice none 0 0) 0 k F := .inl ⟨none, 0, rfl, rfl⟩
theorem Recs.below {B : Nat} {w w' : World} {v : Value} {n k : Nat} {F : Nat → Nat → Value} (h : Recs w v n k F) (hb : Below B w w') (hB : w.heap.size ≤ B) : Recs w' v n k F := by
  rcases h with h | ⟨b, off, cap, hv, hne, hlt, hl, hm, hc⟩
  · exact .inl h
  · refine .inr ⟨b, off, cap, hv, hne, Nat.lt_of_lt_of_le hlt hb.size, hl, hm, fun j hj c hc' => ?_⟩
    rw [hb.cell (p := ⟨b, off + j * k + c, none⟩) (by show b < B; omega)]
    exact hc j hj c hc'
theorem Recs.drewN {w : World} {v : Value} {n k : Nat} {F : Nat → Nat → Value} (h : Recs w v n k F) (q : Nat) : Recs (w.drewN q) v n k F := h
theorem Recs.parts {w : World} {v : Value} {n k : Nat} {F : Nat → Nat → Value} (h : Recs w v n k F) : ∃ a cap, v = .slice a n cap := by
  rcases h with ⟨a, c, rfl, rfl⟩ | ⟨b, o, c, rfl, -⟩
  · exact ⟨a, c, rfl⟩
  · exact ⟨_, c, rfl⟩
theorem Recs.congr {w : World} {v : Value} {n k : Nat} {F G : Nat → Nat → Value} (h : Recs w v n k F) (e : ∀ j, j < n → ∀ c, c < k → F j c = G j c) : Recs w v n k G := by
  rcases h with h | ⟨b, off, cap, hv, hne, hlt, hl, hm, hc⟩
  · exact .inl h
  · exact .inr ⟨b, off, cap, hv, hne, hlt, hl, hm, fun j hj c hc' => by rw [← e j hj c hc']; exact hc j hj c hc'⟩

/-- What the frame of a law hands over. -/
theorem Recs.ofTrod {H : Type} {enc : TypeId × Value → H} {P : Program} {w : World} {base : Nat} {held : Bool} {t e : TypeId} {k fuel : Nat} {a : Option Addr} {len cap : Nat} {x : DataW H × List MemPlace}
    (ht : P.underlying t = some (.slice e)) (ce : P.cellsOf e = k) (hk : 0 < k) (h : DataW.trod enc P w base (fun _ => true) held fuel t [.slice a len cap] = some x) :
    ∃ F : Nat → Nat → Value, Recs w (.slice a len cap) len k F ∧ ∀ j, j < len → ∃ n d, DataW.trod enc P w base (fun _ => true) held n e ((List.range k).map (F j)) = some d := by
  rcases open_slice ht h with ⟨hcs, _⟩ | ⟨y, l, c, m, n, D, Pl, hcs, _, hl, hm, hmm, _, hall⟩
  · simp only [List.cons.injEq, Value.slice.injEq, and_true] at hcs
    obtain ⟨rfl, rfl, rfl⟩ := hcs
    exact ⟨fun _ _ => .int .i64 0, .nil w k _, fun j hj => by omega⟩
  · simp only [List.cons.injEq, Value.slice.injEq, and_true] at hcs
    obtain ⟨rfl, rfl, rfl⟩ := hcs
    rw [if_pos rfl] at hmm
    by_cases h0 : len = 0
    · subst h0
      exact ⟨fun _ _ => .int .i64 0, .inl ⟨_, _, rfl, rfl⟩, fun j hj => by omega⟩
    · have hex : ∀ i, i < len → ∃ cs : List Value, cs.length = k ∧ (∀ c, c < k → w.cell? ((y.add (i * k)).add c) = cs[c]?) ∧ ∃ n d, DataW.trod enc P w base (fun _ => true) held n e cs = some d := by
        intro i hi
        obtain ⟨cs, h1, h2⟩ := hall i (by omega)
        rw [ce] at h1
        obtain ⟨_, hlen, hcell⟩ := World.cells?_some h1
        exact ⟨cs, hlen, fun c hc => hcell c hc, _, _, h2⟩
      obtain ⟨f, hf⟩ := choose_lt hex
      obtain ⟨b, off, spot⟩ := y
      have hF : ∀ j, j < len → ∀ c, c < k → w.cell? (((⟨b, off, spot⟩ : Addr).add (j * k)).add c) = some ((f j).getD c (.int .i64 0)) := by
        intro j hj c hc
        obtain ⟨h1, h2, -⟩ := hf j hj
        rw [h2 c hc]
        simp [List.getD_eq_getElem?_getD, h1, hc]
      have hspot : spot = none := by
        have := hF 0 (by omega) 0 hk
        simpa [Addr.add] using World.cell?_spot this
      subst hspot
      have hcell : ∀ j, j < len → ∀ c, c < k → w.cell? ⟨b, off + j * k + c, none⟩ = some ((f j).getD c (.int .i64 0)) := by
        intro j hj c hc
        have := hF j hj c hc
        rw [Go.WideShapes.add_plain, Go.WideShapes.add_plain] at this
        exact this
      refine ⟨fun j c => (f j).getD c (.int .i64 0), .inr ⟨b, off, cap, rfl, by omega, ?_, by omega, hm, hcell⟩, fun j hj => ?_⟩
      · exact World.block_lt_of_cell? w _ (hcell 0 (by omega) 0 hk)
      · obtain ⟨h1, -, n', d, h3⟩ := hf j hj
        refine ⟨n', d, ?_⟩
        have e1 : (List.range k).map (fun c => (f j).getD c (.int .i64 0)) = f j := by
          apply List.ext_getElem
          · simp [h1]
          · intro i h4 h5
            simp [List.getD_eq_getElem?_getD, h5]
        rw [e1]
        exact h3

end Go.Proofs.Ytiphipgheadakaa
