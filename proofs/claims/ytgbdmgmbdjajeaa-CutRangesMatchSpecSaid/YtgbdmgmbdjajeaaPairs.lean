/- Slices of pairs of integers (anchors, spans): what reads as a list of pairs. -/
import Derived.Test.YtgbdmgmbdjajeaaInts
import Derived.Deep.SlicePairs
namespace Go.Proofs.Ytgbdmgmbdjajeaa
set_option linter.unusedVariables false
set_option linter.unusedSimpArgs false
open Go.RowKit Go.Deep

abbrev Pr := Int × Int

/-- The slice value v reads as the pairs ps. -/
def Pairs (w : World) (v : Value) (ps : List Pr) : Prop :=
  (∃ a cap, v = .slice a 0 cap ∧ ps = []) ∨
  ∃ b off cap, v = .slice (some ⟨b, off, none⟩) ps.length cap ∧ ps ≠ [] ∧ b < w.heap.size ∧ ps.length ≤ cap ∧ cap ≤ maxLen ∧
    ∀ j, j < ps.length → w.cell? ⟨b, off + j * 2, none⟩ = some (.int .i64 (ps.getD j (0, 0)).1) ∧ w.cell? ⟨b, off + j * 2 + 1, none⟩ = some (.int .i64 (ps.getD j (0, 0)).2)

theorem Pairs.nil (w : World) : Pairs w (.slice none 0 0) [] := .inl ⟨none, 0, rfl, rfl⟩

theorem Pairs.below {B : Nat} {w w' : World} {v : Value} {ps : List Pr} (h : Pairs w v ps) (hb : Below B w w') (hB : w.heap.size ≤ B) : Pairs w' v ps := by
  rcases h with h | ⟨b, off, cap, hv, hne, hlt, hl, hm, hc⟩
  · exact .inl h
  · refine .inr ⟨b, off, cap, hv, hne, Nat.lt_of_lt_of_le hlt hb.size, hl, hm, fun j hj => ?_⟩
    rw [hb.cell (p := ⟨b, off + j * 2, none⟩) (by show b < B; omega), hb.cell (p := ⟨b, off + j * 2 + 1, none⟩) (by show b < B; omega)]
    exact hc j hj

theorem Pairs.drewN {w : World} {v : Value} {ps : List Pr} (h : Pairs w v ps) (n : Nat) : Pairs (w.drewN n) v ps := h

theorem Pairs.parts {w : World} {v : Value} {ps : List Pr} (h : Pairs w v ps) : ∃ a cap, v = .slice a ps.length cap ∧ ps.length ≤ maxLen := by
  rcases h with ⟨a, c, rfl, rfl⟩ | ⟨b, o, c, rfl, -, -, hl, hm, -⟩
  · exact ⟨a, c, rfl, by simp [maxLen]⟩
  · exact ⟨_, c, rfl, by omega⟩

theorem pgetD (ps : List Pr) (j : Nat) (h : j < ps.length) : ps.getD j (0, 0) = ps[j] := by simp [List.getD_eq_getElem?_getD, h]

/-- What the frame of a law hands over. -/
theorem Pairs.ofTrod {H : Type} {enc : TypeId × Value → H} {P : Program} {w : World} {base : Nat} {held : Bool} {t e : TypeId} {f0 f1 : Field} {fuel : Nat} {a : Option Addr} {len cap : Nat} {x : DataW H × List MemPlace}
    (ht : P.underlying t = some (.slice e)) (he : P.underlying e = some (.struct #[f0, f1])) (ce : P.cellsOf e = 2) (o0 : f0.offset = 0) (o1 : f1.offset = 1) (c0 : P.cellsOf f0.type = 1) (c1 : P.cellsOf f1.type = 1)
    (u0 : P.underlying f0.type = some (.int .i64)) (u1 : P.underlying f1.type = some (.int .i64)) (h : DataW.trod enc P w base (fun _ => true) held fuel t [.slice a len cap] = some x) :
    ∃ ps, Pairs w (.slice a len cap) ps ∧ ps.length = len ∧ ∀ p ∈ ps, (Lit.int .i64 p.1).wf = true ∧ (Lit.int .i64 p.2).wf = true := by
  rcases open_slice_pairs ht he ce o0 o1 c0 c1 h with ⟨hcs, _⟩ | ⟨x, l, c, m, n, V0, V1, D0, D1, P0, P1, hcs, _, hl, hm, hmm, _, hall⟩
  · simp only [List.cons.injEq, Value.slice.injEq, and_true] at hcs
    obtain ⟨rfl, rfl, rfl⟩ := hcs
    exact ⟨[], .nil w, rfl, by simp⟩
  · simp only [List.cons.injEq, Value.slice.injEq, and_true] at hcs
    obtain ⟨rfl, rfl, rfl⟩ := hcs
    by_cases h0 : len = 0
    · subst h0
      exact ⟨[], .inl ⟨_, _, rfl, rfl⟩, rfl, by simp⟩
    · rw [if_pos rfl] at hmm
      have hex : ∀ i, i < len → ∃ p : Pr, V0 i = .int .i64 p.1 ∧ V1 i = .int .i64 p.2 ∧ (Lit.int .i64 p.1).wf = true ∧ (Lit.int .i64 p.2).wf = true := by
        intro i hi
        obtain ⟨-, -, h2, h3⟩ := hall i (by omega)
        obtain ⟨y, e0, -, w0⟩ := DataW.trod_int u0 h2
        obtain ⟨z, e1, -, w1⟩ := DataW.trod_int u1 h3
        simp only [List.cons.injEq, and_true] at e0 e1
        exact ⟨(y, z), e0, e1, w0, w1⟩
      obtain ⟨f, hf⟩ := choose_lt hex
      obtain ⟨b, off, spot⟩ := x
      have hspot : spot = none := by
        have := (hall 0 (by omega)).1
        simpa [Addr.add] using World.cell?_spot this
      subst hspot
      have hc : ∀ j, j < len → w.cell? ⟨b, off + j * 2, none⟩ = some (V0 j) ∧ w.cell? ⟨b, off + j * 2 + 1, none⟩ = some (V1 j) := by
        intro j hj
        obtain ⟨h1, h2, -, -⟩ := hall j (by omega)
        rw [Go.WideShapes.add_plain] at h1 h2
        exact ⟨h1, by rw [Nat.add_assoc]; exact h2⟩
      refine ⟨(List.range len).map f, .inr ⟨b, off, cap, by simp, fun hx => ?_, ?_, by simp; omega, hm, fun j hj => ?_⟩, by simp, fun p hp => ?_⟩
      · have := congrArg List.length hx
        simp at this
        omega
      · have := World.block_lt_of_cell? w _ (hc 0 (by omega)).1
        exact this
      · have hj' : j < len := by simpa using hj
        have e : ((List.range len).map f).getD j (0, 0) = f j := by simp [List.getD_eq_getElem?_getD, hj']
        rw [e, ← (hf j hj').1, ← (hf j hj').2.1]
        exact hc j hj'
      · obtain ⟨i, hi, rfl⟩ := List.mem_map.1 hp
        exact (hf i (by simpa using hi)).2.2

/-- The cells of pairs. -/
def pcells (ps : List Pr) : List Value := ps.flatMap fun p => [.int .i64 p.1, .int .i64 p.2]

theorem pcells_snoc (ps : List Pr) (p : Pr) : pcells (ps ++ [p]) = pcells ps ++ [.int .i64 p.1, .int .i64 p.2] := by simp [pcells]
theorem pcells_len (ps : List Pr) : (pcells ps).length = ps.length * 2 := by
  induction ps with
  | nil => rfl
  | cons p ps ih => simp only [pcells, List.flatMap_cons, List.length_append] at *; simp [ih]; omega
theorem pcells_at (ps : List Pr) : ∀ j, j < ps.length → (pcells ps)[j * 2]? = some (.int .i64 (ps.getD j (0, 0)).1) ∧ (pcells ps)[j * 2 + 1]? = some (.int .i64 (ps.getD j (0, 0)).2) := by
  induction ps with
  | nil => intro j hj; simp at hj
  | cons p ps ih =>
    intro j hj
    cases j with
    | zero => simp [pcells]
    | succ j =>
      obtain ⟨h1, h2⟩ := ih j (by simpa using hj)
      have e : pcells (p :: ps) = .int .i64 p.1 :: .int .i64 p.2 :: pcells ps := rfl
      rw [e, show (j + 1) * 2 = j * 2 + 1 + 1 by omega, List.getElem?_cons_succ, List.getElem?_cons_succ, List.getElem?_cons_succ, List.getElem?_cons_succ]
      exact ⟨by simpa using h1, by simpa using h2⟩

theorem Pairs.ofOwn {w : World} {base : Nat} {e : TypeId} {v : Value} {ps : List Pr} (h : w.ownsRow base e 2 v ps.length (pcells ps)) : Pairs w v ps := by
  by_cases hz : ps = []
  · subst hz
    rcases h.2 with ⟨rfl, _⟩ | ⟨g, cap, cur, rfl, _⟩
    · exact .nil w
    · exact .inl ⟨_, _, rfl, rfl⟩
  · have hl : 0 < ps.length := List.length_pos_iff.2 hz
    have hlt := h.lt
    rcases h.2 with ⟨_, h0⟩ | ⟨g, cap, cur, rfl, hb, hg, hnc, hcm, hcs, htake⟩
    · omega
    · refine .inr ⟨g, 0, cap, rfl, hz, (hlt g rfl).2, hnc, hcm, fun j hj => ?_⟩
      rw [Nat.zero_add, World.ownsRow.cellAt h (j * 2) (by omega), World.ownsRow.cellAt h (j * 2 + 1) (by omega)]
      exact pcells_at ps j hj

theorem ownsRow_below {w w' : World} {base : Nat} {e : TypeId} {size : Nat} {v : Value} {n B : Nat} {xs : List Value} (h : w.ownsRow base e size v n xs) (hb : Below B w w') (hB : w.heap.size ≤ B) : w'.ownsRow base e size v n xs := by
  have hl := h.lt
  refine ⟨h.1, ?_⟩
  rcases h.2 with h' | ⟨g, cap, cur, rfl, h1, h2, h3⟩
  · exact .inl h'
  · refine .inr ⟨g, cap, cur, rfl, h1, ?_, h3⟩
    have := (hl g rfl).2
    rw [hb.block g (by omega)]
    exact h2

end Go.Proofs.Ytgbdmgmbdjajeaa
