/- Several texts in one: Pairs, EqF, RStepPlain, RSteps, StepsAny, StepsAny2, CapW, Cap, RCap, StepsLaw2. -/
import Derived.Test.YtinckidkophobaaInts
import Derived.Deep.SlicePairs
import Derived.Shelf.SlicesQ.Equal
import Derived.Laws.StructEq
import Derived.Test.YtinckidkophobaaStepPlain3
import Derived.Test.YtinckidkophobaaRStepW
import Derived.Test.YtinckidkophobaaNext
import Derived.Test.YtinckidkophobaaSteps
import Derived.Test.YtinckidkophobaaRHull2
import Derived.Test.YtinckidkophobaaWrong
import Derived.Test.YtinckidkophobaaRWrong
import Derived.Test.YtinckidkophobaaSens
import Derived.Test.YtinckidkophobaaCrowd
import Derived.Test.YtinckidkophobaaWorth
import Derived.Test.YtinckidkophobaaPeak0
import Derived.Test.YtinckidkophobaaBelowX
import Derived.Laws.OwnMore
import Derived.Test.YtinckidkophobaaRChkR
import Derived.Test.YtinckidkophobaaChkSeg
import Derived.Test.YtinckidkophobaaMean5
/- Slices of pairs of integers (anchors, spans): what reads as a list of pairs. -/
namespace Go.Proofs.Ytinckidkophobaa
set_option linter.unusedVariables false
set_option linter.unusedSimpArgs false
open Go.RowKit Go.Deep

abbrev Pr := Int × Int

/-- The slice value v reads as the pairs ps. -/
def Pairs (w : World) (v : Value) (ps : List Pr) : Prop :=
  (∃ a cap, v = .slice a 0 cap ∧ ps = []) ∨
  ∃ b off cap, v = .slice (some ⟨b, off, none⟩) ps.length cap ∧ ps ≠ [] ∧ b < w.heap.size ∧ ps.length ≤ cap ∧ cap ≤ maxLen ∧
    ∀ j, j < ps.length → w.cell? ⟨b, off + j * 2, none⟩ = some (.int .i64 (ps.getD j (0, 0)).1) ∧ w.cell? ⟨b, off + j * 2 + 1, none⟩ = some (.int .i64 (ps.getD j (0, 0)).2)

theorem Pairs.nil (w : World) : Pairs w (.slice none 0 0) [] := .inl ⟨none, 0, rfl, rfl⟩

theorem Pairs.below {B : Nat} {w w' : World} {v : Value} {ps : List Pr} (h : Pairs w v ps) (hb : Below B w w') (hB : w.heap.size ≤ B) : Pairs w' v ps := by
  rcases h with h | ⟨b, off, cap, hv, hne, hlt, hl, hm, hc⟩
  · exact .inl h
  · refine .inr ⟨b, off, cap, hv, hne, Nat.lt_of_lt_of_le hlt hb.size, hl, hm, fun j hj => ?_⟩
    rw [hb.cell (p := ⟨b, off + j * 2, none⟩) (by show b < B; omega), hb.cell (p := ⟨b, off + j * 2 + 1, none⟩) (by show b < B; omega)]
    exact hc j hj

theorem Pairs.drewN {w : World} {v : Value} {ps : List Pr} (h : Pairs w v ps) (n : Nat) : Pairs (w.drewN n) v ps := h

theorem Pairs.parts {w : World} {v : Value} {ps : List Pr} (h : Pairs w v ps) : ∃ a cap, v = .slice a ps.length cap ∧ ps.length ≤ maxLen := by
  rcases h with ⟨a, c, rfl, rfl⟩ | ⟨b, o, c, rfl, -, -, hl, hm, -⟩
  · exact ⟨a, c, rfl, by simp [maxLen]⟩
  · exact ⟨_, c, rfl, by omega⟩

theorem pgetD (ps : List Pr) (j : Nat) (h : j < ps.length) : ps.getD j (0, 0) = ps[j] := by simp [List.getD_eq_getElem?_getD, h]

/-- What the frame of a law hands over. -/
theorem Pairs.ofTrod {H : Type} {enc : TypeId × Value → H} {P : Program} {w : World} {base : Nat} {held : Bool} {t e : TypeId} {f0 f1 : Field} {fuel : Nat} {a : Option Addr} {len cap : Nat} {x : DataW H × List MemPlace}
    (ht : P.underlying t = some (.slice e)) (he : P.underlying e = some (.struct #[f0, f1])) (ce : P.cellsOf e = 2) (o0 : f0.offset = 0) (o1 : f1.offset = 1) (c0 : P.cellsOf f0.type = 1) (c1 : P.cellsOf f1.type = 1)
    (u0 : P.underlying f0.type = some (.int .i64)) (u1 : P.underlying f1.type = some (.int .i64)) (h : DataW.trod enc P w base (fun _ => true) held fuel t [.slice a len cap] = some x) :
    ∃ ps, Pairs w (.slice a len cap) ps ∧ ps.length = len ∧ ∀ p ∈ ps, (Lit.int .i64 p.1).wf = true ∧ (Lit.int .i64 p.2).wf = true := by
  rcases open_slice_pairs ht he ce o0 o1 c0 c1 h with ⟨hcs, _⟩ | ⟨x, l, c, m, n, V0, V1, D0, D1, P0, P1, hcs, _, hl, hm, hmm, _, hall⟩
  · simp only [List.cons.injEq, Value.slice.injEq, and_true] at hcs
    obtain ⟨rfl, rfl, rfl⟩ := hcs
    exact ⟨[], .nil w, rfl, by simp⟩
  · simp only [List.cons.injEq, Value.slice.injEq, and_true] at hcs
    obtain ⟨rfl, rfl, rfl⟩ := hcs
    by_cases h0 : len = 0
    · subst h0
      exact ⟨[], .inl ⟨_, _, rfl, rfl⟩, rfl, by simp⟩
    · rw [if_pos rfl] at hmm
      have hex : ∀ i, i < len → ∃ p : Pr, V0 i = .int .i64 p.1 ∧ V1 i = .int .i64 p.2 ∧ (Lit.int .i64 p.1).wf = true ∧ (Lit.int .i64 p.2).wf = true := by
        intro i hi
        obtain ⟨-, -, h2, h3⟩ := hall i (by omega)
        obtain ⟨y, e0, -, w0⟩ := DataW.trod_int u0 h2
        obtain ⟨z, e1, -, w1⟩ := DataW.trod_int u1 h3
        simp only [List.cons.injEq, and_true] at e0 e1
        exact ⟨(y, z), e0, e1, w0, w1⟩
      obtain ⟨f, hf⟩ := choose_lt hex
      obtain ⟨b, off, spot⟩ := x
      have hspot : spot = none := by
        have := (hall 0 (by omega)).1
        simpa [Addr.add] using World.cell?_spot this
      subst hspot
      have hc : ∀ j, j < len → w.cell? ⟨b, off + j * 2, none⟩ = some (V0 j) ∧ w.cell? ⟨b, off + j * 2 + 1, none⟩ = some (V1 j) := by
        intro j hj
        obtain ⟨h1, h2, -, -⟩ := hall j (by omega)
        rw [Go.WideShapes.add_plain] at h1 h2
        exact ⟨h1, by rw [Nat.add_assoc]; exact h2⟩
      refine ⟨(List.range len).map f, .inr ⟨b, off, cap, by simp, fun hx => ?_, ?_, by simp; omega, hm, fun j hj => ?_⟩, by simp, fun p hp => ?_⟩
      · have := congrArg List.length hx
        simp at this
        omega
      · have := World.block_lt_of_cell? w _ (hc 0 (by omega)).1
        exact this
      · have hj' : j < len := by simpa using hj
        have e : ((List.range len).map f).getD j (0, 0) = f j := by simp [List.getD_eq_getElem?_getD, hj']
        rw [e, ← (hf j hj').1, ← (hf j hj').2.1]
        exact hc j hj'
      · obtain ⟨i, hi, rfl⟩ := List.mem_map.1 hp
        exact (hf i (by simpa using hi)).2.2

/-- The cells of pairs. -/
def pcells (ps : List Pr) : List Value := ps.flatMap fun p => [.int .i64 p.1, .int .i64 p.2]

theorem pcells_snoc (ps : List Pr) (p : Pr) : pcells (ps ++ [p]) = pcells ps ++ [.int .i64 p.1, .int .i64 p.2] := by simp [pcells]
theorem pcells_len (ps : List Pr) : (pcells ps).length = ps.length * 2 := by
  induction ps with
  | nil => rfl
  | cons p ps ih => simp only [pcells, List.flatMap_cons, List.length_append] at *; simp [ih]; omega
theorem pcells_at (ps : List Pr) : ∀ j, j < ps.length → (pcells ps)[j * 2]? = some (.int .i64 (ps.getD j (0, 0)).1) ∧ (pcells ps)[j * 2 + 1]? = some (.int .i64 (ps.getD j (0, 0)).2) := by
  induction ps with
  | nil => intro j hj; simp at hj
  | cons p ps ih =>
    intro j hj
    cases j with
    | zero => simp [pcells]
    | succ j =>
      obtain ⟨h1, h2⟩ := ih j (by simpa using hj)
      have e : pcells (p :: ps) = .int .i64 p.1 :: .int .i64 p.2 :: pcells ps := rfl
      rw [e, show (j + 1) * 2 = j * 2 + 1 + 1 by omega, List.getElem?_cons_succ, List.getElem?_cons_succ, List.getElem?_cons_succ, List.getElem?_cons_succ]
      exact ⟨by simpa using h1, by simpa using h2⟩

theorem Pairs.ofOwn {w : World} {base : Nat} {e : TypeId} {v : Value} {ps : List Pr} (h : w.ownsRow base e 2 v ps.length (pcells ps)) : Pairs w v ps := by
  by_cases hz : ps = []
  · subst hz
    rcases h.2 with ⟨rfl, _⟩ | ⟨g, cap, cur, rfl, _⟩
    · exact .nil w
    · exact .inl ⟨_, _, rfl, rfl⟩
  · have hl : 0 < ps.length := List.length_pos_iff.2 hz
    have hlt := h.lt
    rcases h.2 with ⟨_, h0⟩ | ⟨g, cap, cur, rfl, hb, hg, hnc, hcm, hcs, htake⟩
    · omega
    · refine .inr ⟨g, 0, cap, rfl, hz, (hlt g rfl).2, hnc, hcm, fun j hj => ?_⟩
      rw [Nat.zero_add, World.ownsRow.cellAt h (j * 2) (by omega), World.ownsRow.cellAt h (j * 2 + 1) (by omega)]
      exact pcells_at ps j hj

theorem ownsRow_below {w w' : World} {base : Nat} {e : TypeId} {size : Nat} {v : Value} {n B : Nat} {xs : List Value} (h : w.ownsRow base e size v n xs) (hb : Below B w w') (hB : w.heap.size ≤ B) : w'.ownsRow base e size v n xs := by
  have hl := h.lt
  refine ⟨h.1, ?_⟩
  rcases h.2 with h' | ⟨g, cap, cur, rfl, h1, h2, h3⟩
  · exact .inl h'
  · refine .inr ⟨g, cap, cur, rfl, h1, ?_, h3⟩
    have := (hl g rfl).2
    rw [hb.block g (by omega)]
    exact h2

end Go.Proofs.Ytinckidkophobaa

/- slices.Equal at flaws. -/
namespace Go.Proofs.Ytinckidkophobaa
set_option linter.unusedVariables false
set_option linter.unusedSimpArgs false
open Go.RowKit Go.Shelf Go.Deep

def equalFRen : Go.Shelf.Ren := ⟨fun | 8 => 13 | n => n, fun | 0 => 0 | 3 => 3 | 4 => 4 | 22 => 32 | 24 => 37 | n => n, fun | n => n⟩
theorem equalFLays : Go.Proofs.SlLaysQ.n8 Try.prog equalFRen := {
  mixed := by kernel_rfl
  f8 := ⟨"slices.Equal[[]headend/api.Flaw,headend/api.Flaw]", by kernel_rfl, Try.func13.trans (congrArg some (by kernel_rfl))⟩
  t0 := Try.underlying0
  a0 := Try.isAgg0
  z0 := Try.sizeOf0
  v0 := Try.zeroValue0
  t3 := Try.underlying3
  a3 := Try.isAgg3
  z3 := Try.sizeOf3
  v3 := Try.zeroValue3
  t4 := Try.underlying4
  a4 := Try.isAgg4
  z4 := Try.sizeOf4
  v4 := Try.zeroValue4
  t22 := Try.underlying32
  a22 := Try.isAgg32
  z22 := Try.sizeOf32
  v22 := Try.zeroValue32 }
def prEnc (y : Pr) : List Value := [.int .i64 y.1, .int .i64 y.2]
def prEq (x y : Pr) : Bool := x.1 == y.1 && x.2 == y.2
theorem prEq_iff (x y : Pr) : prEq x y = true ↔ x = y := by
  obtain ⟨a, b⟩ := x; obtain ⟨a', b'⟩ := y
  simp [prEq]
theorem prNeq : NeqAt Try.prog 37 (fun x => .agg (prEnc x).toArray) prEq := by
  refine ⟨fun x y w => ?_, GuardAt.agg _ (by kernel_rfl)⟩
  have u3 := Try.underlying3
  have a3 := Try.isAgg3
  have z3 := Try.sizeOf3
  have hS : Try.prog.underlying 37 = some (.struct (Try.prog.fieldsOf 37)) := by kernel_rfl
  have hp : Try.prog.stoodInHeld 37 = false := by kernel_rfl
  obtain ⟨a, b⟩ := x; obtain ⟨a', b'⟩ := y
  simp only [prEnc, prEq]
  rw [run_neq_struct, show (10000 : Nat) = 9999 + 1 from rfl, run_equalIn_agg w 9999 37 _ _ hS hp]
  simp only [Program.fieldsOf, Try.underlying37]
  go_simp
  by_cases h1 : a = a' <;> by_cases h2 : b = b' <;> simp [h1, h2]
set_option maxHeartbeats 1000000 in
theorem equalF_lens (a1 a2 : Option Addr) (n m c d : Nat) (w : World) (h : n ≠ m) (hm : n ≤ 9223372036854775807) (hm2 : m ≤ 9223372036854775807) :
    Calls Try.prog 13 #[.slice a1 n c, .slice a2 m d] w fun e w' => e = .returned (.bool false) ∧ w = w' := by
  have e1 : ((n : Int) == (m : Int)) = false := by simp; omega
  have e2 : ((n : Int) != (m : Int)) = true := by simp; omega
  go_enter Try.func13, Try.ntmps13
  go_wp2
  go_ret
  exact ⟨rfl, rfl⟩
set_option maxHeartbeats 1000000 in
theorem equalF_empty (a1 a2 : Option Addr) (c d : Nat) (w : World) :
    Calls Try.prog 13 #[.slice a1 0 c, .slice a2 0 d] w fun e w' => e = .returned (.bool true) ∧ w = w' := by
  go_enter Try.func13, Try.ntmps13
  go_wp2_with fail
  refine wp_loop_rounds 1 ?_
  rw [rounds_succ]
  go_wp2_with fail
  go_ret
  exact ⟨rfl, rfl⟩
theorem allEq_prs : ∀ (xs ys : List Pr), Lib.allEq prEq xs ys = decide (xs = ys) := by
  intro xs
  induction xs with
  | nil => intro ys; cases ys <;> simp [Lib.allEq]
  | cons x xs ih =>
    intro ys
    cases ys with
    | nil => simp [Lib.allEq]
    | cons y ys =>
      have := ih ys
      by_cases h : x = y
      · subst h
        have e : prEq x x = true := (prEq_iff x x).2 rfl
        simp [Lib.allEq, e, this] at *
        try simp [this]
      · have e : prEq x y = false := by rw [Bool.eq_false_iff]; intro hh; exact h ((prEq_iff x y).1 hh)
        simp [Lib.allEq, e, h]
/-- slices.Equal at one list of ranges twice. -/
theorem equalF_same (u v : Value) (xs : List Pr) (w : World) (hx : Pairs w u xs) (hy : Pairs w v xs) :
    Calls Try.prog 13 #[u, v] w fun e w' => e = .returned (.bool true) ∧ ∃ q, w' = w.drewN q := by
  have mx : ∀ {u : Value}, Pairs w u xs → xs.length ≤ 9223372036854775807 := fun h => by
    obtain ⟨a, c, -, h2⟩ := h.parts
    unfold maxLen at h2; omega
  have hm := mx hx
  rcases hx with ⟨a, c, rfl, hx0⟩ | ⟨b, o, c, rfl, hne, hlt, hl, hmm, hc⟩
  · rcases hy with ⟨a', c', rfl, hy0⟩ | ⟨b', o', c', rfl, hne', hlt', hl', hm', hc'⟩
    · refine (equalF_empty _ _ _ _ w).mono ?_
      rintro e w' ⟨rfl, rfl⟩
      exact ⟨rfl, 0, rfl⟩
    · exact absurd hx0 hne'
  · rcases hy with ⟨a', c', rfl, hy0⟩ | ⟨b', o', c', rfl, hne', hlt', hl', hm', hc'⟩
    · exact absurd hy0 hne
    · have cellsOf : ∀ {b o : Nat}, (∀ j, j < xs.length → w.cell? ⟨b, o + j * 2, none⟩ = some (.int .i64 (xs.getD j (0, 0)).1) ∧ w.cell? ⟨b, o + j * 2 + 1, none⟩ = some (.int .i64 (xs.getD j (0, 0)).2)) → ∀ j, j < xs.length → ∀ i v, (prEnc xs[j]!)[i]? = some v → w.cell? ⟨b, o + j * 2 + i, none⟩ = some v := by
        intro b o hh j hj i v hv
        rw [show xs[j]! = xs.getD j (0, 0) by rw [List.getElem!_eq_getElem?_getD, List.getD_eq_getElem?_getD]; rfl] at hv
        have hi : i < 2 := by
          have := (List.getElem?_eq_some_iff.1 hv).1
          simpa [prEnc] using this
        have : i = 0 ∨ i = 1 := by omega
        rcases this with rfl | rfl
        · rw [← hv]; exact (hh j hj).1
        · rw [← hv]; exact (hh j hj).2
      have := Go.Proofs.AnyQ.slices_Equal equalFLays 2 Try.isAgg37 Try.sizeOf37 prEnc (fun _ => rfl) prEq prNeq b o xs.length c b' o' xs.length c' xs xs w (Nat.le_refl _) (Nat.le_refl _) hm hm (cellsOf hc) (cellsOf hc')
      rw [List.take_of_length_le (Nat.le_refl _), allEq_prs] at this
      have e : decide (xs = xs) = true := by simp
      rw [e] at this
      exact this

end Go.Proofs.Ytinckidkophobaa

/- Plain facts of steps: the reference's table; both find the same row. -/
namespace Go.Proofs.Ytinckidkophobaa
set_option linter.unusedVariables false
set_option linter.unusedSimpArgs false

/-- The least number of more steps from number i, of the m numbers after it. -/
def minR (L : Nat → Nat) (rs : List Rung) (p q : Int) (i : Nat) : Nat → Nat
  | 0 => 1000
  | m + 1 => if gapB (rs.getD i rung0) (rs.getD (i + 1 + m) rung0) p q = true then minR L rs p q i m else min (minR L rs p q i m) (L (i + 1 + m) + 1)
def tabR (rs : List Rung) (p q : Int) (e : Nat) : Nat → Nat → Nat
  | 0 => fun _ => 0
  | m + 1 => updN (tabR rs p q e m) (e - 1 - m) (minR (tabR rs p q e m) rs p q (e - 1 - m) (m + 1))
theorem tabR_step (rs : List Rung) (p q : Int) (e i : Nat) (h : i < e) : tabR rs p q e (e - i) = updN (tabR rs p q e (e - (i + 1))) i (minR (tabR rs p q e (e - (i + 1))) rs p q i (e - i)) := by
  rw [show e - i = (e - (i + 1)) + 1 by omega, tabR, show e - 1 - (e - (i + 1)) = i by omega]
theorem minR_le (L : Nat → Nat) (rs : List Rung) (p q : Int) (i : Nat) : ∀ m, minR L rs p q i m ≤ 1000
  | 0 => Nat.le_refl _
  | m + 1 => by
    rw [minR]
    have := minR_le L rs p q i m
    split
    · exact this
    · omega
theorem minR_lo (L : Nat → Nat) (rs : List Rung) (p q : Int) (i : Nat) : ∀ m k, i < k → k ≤ i + m → gapB (rs.getD i rung0) (rs.getD k rung0) p q = false → minR L rs p q i m ≤ L k + 1
  | 0, k, h1, h2, _ => by omega
  | m + 1, k, h1, h2, h3 => by
    rw [minR]
    by_cases hk : k = i + 1 + m
    · subst hk
      rw [if_neg (by rw [h3]; exact Bool.false_ne_true)]
      omega
    · have := minR_lo L rs p q i m k h1 (by omega) h3
      split
      · exact this
      · omega
theorem minR_ex (L : Nat → Nat) (rs : List Rung) (p q : Int) (i : Nat) : ∀ m, minR L rs p q i m = 1000 ∨ ∃ k, i < k ∧ k ≤ i + m ∧ gapB (rs.getD i rung0) (rs.getD k rung0) p q = false ∧ minR L rs p q i m = L k + 1
  | 0 => .inl rfl
  | m + 1 => by
    rw [minR]
    by_cases hg : gapB (rs.getD i rung0) (rs.getD (i + 1 + m) rung0) p q = true
    · rw [if_pos hg]
      rcases minR_ex L rs p q i m with h | ⟨k, h1, h2, h3, h4⟩
      · exact .inl h
      · exact .inr ⟨k, h1, by omega, h3, h4⟩
    · rw [if_neg hg]
      by_cases hl : minR L rs p q i m ≤ L (i + 1 + m) + 1
      · rw [Nat.min_eq_left hl]
        rcases minR_ex L rs p q i m with h | ⟨k, h1, h2, h3, h4⟩
        · exact .inl h
        · exact .inr ⟨k, h1, by omega, h3, h4⟩
      · rw [Nat.min_eq_right (by omega)]
        exact .inr ⟨i + 1 + m, by omega, by omega, Bool.eq_false_iff.2 hg, rfl⟩
/-- Rates rise: what is not too dear at k is not too dear before k, nor after a greater one. -/
def Mono (rs : List Rung) (p q : Int) (e : Nat) : Prop := ∀ i i' k k', i ≤ i' → k' ≤ k → i' ≤ e → k ≤ e → gapB (rs.getD i rung0) (rs.getD k rung0) p q = false → gapB (rs.getD i' rung0) (rs.getD k' rung0) p q = false
theorem mono_of {rs : List Rung} {p q : Int} {e : Nat} (h : StOk rs p q) (he : e < rs.length) : Mono rs p q e := by
  intro i i' k k' hi hk hie hke hg
  unfold gapB at hg ⊢
  rw [decide_eq_false_iff_not] at hg ⊢
  have a1 := h.ok.rate i i' hi (by omega)
  have a2 := h.ok.rate k' k hk (by omega)
  have b1 : (rs.getD i rung0).ra * p ≤ (rs.getD i' rung0).ra * p := Int.mul_le_mul_of_nonneg_right a1 (by have := h.hp; omega)
  have b2 : (rs.getD k' rung0).ra * q ≤ (rs.getD k rung0).ra * q := Int.mul_le_mul_of_nonneg_right a2 (by have := h.hq; omega)
  omega
/-- What the scan finds: the first one of the least. -/
theorem scanN_best (lf : Nat → Nat) (rs : List Rung) (p q : Int) (i e : Nat) (hm : Mono rs p q e) : ∀ f k c, k + f = e + 1 → i < c → c < k → (∀ j, i < j → j < k → lf c ≤ lf j) → (∀ j, i < j → j < c → lf c < lf j) →
    (∀ j, i < j → j ≤ e → gapB (rs.getD i rung0) (rs.getD j rung0) p q = false → lf (scanN lf rs p q i f k c) ≤ lf j) ∧ (∀ j, i < j → j < scanN lf rs p q i f k c → lf (scanN lf rs p q i f k c) < lf j)
  | 0, k, c, hf, _, hc, h1, h2 => ⟨fun j hj hje _ => h1 j hj (by omega), h2⟩
  | f + 1, k, c, hf, hic, hc, h1, h2 => by
    rw [scanN]
    split
    · rename_i hg
      refine ⟨fun j hj hje hn => h1 j hj ?_, h2⟩
      by_cases hjk : j < k
      · exact hjk
      · have := hm i i j k (Nat.le_refl _) (by omega) (by omega) hje hn
        rw [this] at hg
        exact Bool.noConfusion hg
    · split
      · rename_i hl
        refine scanN_best lf rs p q i e hm f (k + 1) k (by omega) (by omega) (by omega) (fun j hj hjk => ?_) (fun j hj hjk => ?_)
        · by_cases e1 : j = k
          · rw [e1]; exact Nat.le_refl _
          · have := h1 j hj (by omega); omega
        · have := h1 j hj hjk; omega
      · rename_i hl
        refine scanN_best lf rs p q i e hm f (k + 1) c (by omega) hic (by omega) (fun j hj hjk => ?_) h2
        by_cases e1 : j = k
        · rw [e1]; omega
        · exact h1 j hj (by omega)
theorem bestN_best (rs : List Rung) (p q : Int) (e i : Nat) (hi : i < e) (hm : Mono rs p q e) :
    (∀ j, i < j → j ≤ e → gapB (rs.getD i rung0) (rs.getD j rung0) p q = false → (tabN rs p q e (e - (i + 1))).2 (bestN rs p q e i) ≤ (tabN rs p q e (e - (i + 1))).2 j) ∧ (∀ j, i < j → j < bestN rs p q e i → (tabN rs p q e (e - (i + 1))).2 (bestN rs p q e i) < (tabN rs p q e (e - (i + 1))).2 j) :=
  scanN_best _ rs p q i e hm _ _ _ (by omega) (by omega) (by omega) (fun j hj hjk => by rw [show j = i + 1 by omega]; exact Nat.le_refl _) (fun j hj hjk => by omega)
/-- With no gap both tables are one. -/
theorem tab_same (rs : List Rung) (p q : Int) (e : Nat) (hg : NoGaps rs p q e) (hm : Mono rs p q e) (he : e < 100) : ∀ m, m ≤ e → tabR rs p q e m = (tabN rs p q e m).2
  | 0, _ => rfl
  | m + 1, hme => by
    have ih := tab_same rs p q e hg hm he m (by omega)
    have hi : e - (m + 1) < e := by omega
    have s1 := tabR_step rs p q e (e - (m + 1)) hi
    have s2 := tabN_step rs p q e (e - (m + 1)) hi
    have e1 : e - (e - (m + 1) + 1) = m := by omega
    have e2 : e - (e - (m + 1)) = m + 1 := by omega
    obtain ⟨b1, b2, b3⟩ := bestN_ok rs p q e (e - (m + 1)) hi hg
    obtain ⟨c1, c2⟩ := bestN_best rs p q e (e - (m + 1)) hi hm
    rw [e1, e2] at s1 s2
    rw [e1] at c1 c2
    rw [s1, s2, ih]
    show updN _ _ _ = updN _ _ _
    congr 1
    obtain ⟨B, hB⟩ : ∃ B, bestN rs p q e (e - (m + 1)) = B := ⟨_, rfl⟩
    rw [hB] at b1 b2 b3 c1 c2 ⊢
    have l1 := minR_lo (tabN rs p q e m).2 rs p q (e - (m + 1)) (m + 1) B b1 (by omega) b3
    have l2 := (tabN_ok rs p q e hg m (by omega)).lle B
    rcases minR_ex (tabN rs p q e m).2 rs p q (e - (m + 1)) (m + 1) with h | ⟨k, h1, h2, h3, h4⟩
    · omega
    · have := c1 k h1 (by omega) h3
      omega
/-- A gap: the first one is far. -/
theorem tabR_far (rs : List Rung) (p q : Int) (e j : Nat) (hj : j < e) (hg : gapB (rs.getD j rung0) (rs.getD (j + 1) rung0) p q = true) (hm : Mono rs p q e) : ∀ m, m ≤ e → ∀ i, e - m ≤ i → i ≤ j → tabR rs p q e m i = 1000
  | 0, _, i, h1, h2 => by omega
  | m + 1, hme, i, h1, h2 => by
    have ih := tabR_far rs p q e j hj hg hm m (by omega)
    have hi : e - (m + 1) < e := by omega
    have s1 := tabR_step rs p q e (e - (m + 1)) hi
    have e1 : e - (e - (m + 1) + 1) = m := by omega
    have e2 : e - (e - (m + 1)) = m + 1 := by omega
    rw [e1, e2] at s1
    rw [s1]
    unfold updN
    by_cases h3 : i = e - (m + 1)
    · rw [if_pos h3]
      have l0 := minR_le (tabR rs p q e m) rs p q (e - (m + 1)) (m + 1)
      rcases minR_ex (tabR rs p q e m) rs p q (e - (m + 1)) (m + 1) with h | ⟨k, k1, k2, k3, k4⟩
      · exact h
      · by_cases hkj : k ≤ j
        · have := ih k (by omega) hkj
          omega
        · have := hm (e - (m + 1)) j k (j + 1) (by omega) (by omega) (by omega) (by omega) k3
          rw [this] at hg
          exact Bool.noConfusion hg
    · rw [if_neg h3]
      exact ih i (by omega) h2
/-- A row of the table stays as it is once it is known. -/
theorem tabN_stay (rs : List Rung) (p q : Int) (e j : Nat) : ∀ m m', m ≤ m' → m' ≤ e → e - m ≤ j → (tabN rs p q e m').1 j = (tabN rs p q e m).1 j ∧ (tabN rs p q e m').2 j = (tabN rs p q e m).2 j
  | m, 0, h1, _, _ => by rw [show m = 0 by omega]; exact ⟨rfl, rfl⟩
  | m, m' + 1, h1, h2, h3 => by
    by_cases h : m = m' + 1
    · rw [h]; exact ⟨rfl, rfl⟩
    · have ih := tabN_stay rs p q e j m m' (by omega) (by omega) h3
      have hne : j ≠ e - 1 - m' := by omega
      have e1 : (tabN rs p q e (m' + 1)).1 j = (tabN rs p q e m').1 j := by
        show updN _ _ _ j = _
        unfold updN
        rw [if_neg hne]
      have e2 : (tabN rs p q e (m' + 1)).2 j = (tabN rs p q e m').2 j := by
        show updN _ _ _ j = _
        unfold updN
        rw [if_neg hne]
      rw [e1, e2]
      exact ih
def leftN (rs : List Rung) (p q : Int) (e : Nat) : Nat → Nat := (tabN rs p q e e).2
/-- The number after number i is the first near one with one step less. -/
theorem next_first (rs : List Rung) (p q : Int) (e i : Nat) (hg : NoGaps rs p q e) (hm : Mono rs p q e) (hi : i < e) :
    leftN rs p q e i = leftN rs p q e (nextN rs p q e i) + 1 ∧ ∀ k, i < k → k < nextN rs p q e i → leftN rs p q e k ≠ leftN rs p q e (nextN rs p q e i) := by
  have s2 := tabN_step rs p q e i hi
  obtain ⟨b1, b2, b3⟩ := bestN_ok rs p q e i hi hg
  obtain ⟨c1, c2⟩ := bestN_best rs p q e i hi hm
  have t1 := tabN_stay rs p q e i (e - i) e (by omega) (Nat.le_refl _) (by omega)
  rw [s2] at t1
  have n1 : nextN rs p q e i = bestN rs p q e i := by
    unfold nextN
    rw [t1.1]
    show updN _ _ _ i = _
    unfold updN
    rw [if_pos rfl]
  have st : ∀ j, i < j → leftN rs p q e j = (tabN rs p q e (e - (i + 1))).2 j := fun j hj => (tabN_stay rs p q e j (e - (i + 1)) e (by omega) (Nat.le_refl _) (by omega)).2
  rw [n1]
  constructor
  · have : leftN rs p q e i = updN (tabN rs p q e (e - (i + 1))).2 i ((tabN rs p q e (e - (i + 1))).2 (bestN rs p q e i) + 1) i := t1.2
    rw [this, st _ b1]
    unfold updN
    rw [if_pos rfl]
  · intro k h1 h2
    rw [st k h1, st _ b1]
    have := c2 k h1 h2
    omega

end Go.Proofs.Ytinckidkophobaa

/- Steps (reference): its table. -/
namespace Go.Proofs.Ytinckidkophobaa
set_option linter.unusedVariables false
set_option linter.unusedSimpArgs false
open Go.RowKit Go.Shelf Go.Deep

theorem updN_self (f : Nat → Nat) (i v : Nat) : updN f i v i = v := by unfold updN; rw [if_pos rfl]
theorem updN_ne (f : Nat → Nat) (i v k : Nat) (h : k ≠ i) : updN f i v k = f k := by unfold updN; rw [if_neg h]
theorem tabR_le (rs : List Rung) (p q : Int) (e : Nat) : ∀ m k, tabR rs p q e m k ≤ 1000
  | 0, k => Nat.zero_le _
  | m + 1, k => by
    rw [tabR]
    unfold updN
    split
    · exact minR_le _ _ _ _ _ _
    · exact tabR_le rs p q e m k
theorem TbAt.drew' {W : World} {g n : Nat} {f : Nat → Nat} (h : TbAt W g n f) : TbAt W.drew g n f := ⟨h.lt, h.c, h.f⟩
set_option maxRecDepth 100000 in
set_option maxHeartbeats 16000000 in
theorem rsteps_walk (b off n cap e : Nat) (rs : List Rung) (p q : Int) (w : World) (hz : rs.length = n) (hne : Hid (n = e + 1)) (hlt : b < w.heap.size) (hS : Rungs w (.slice (some ⟨b, off, none⟩) n cap) rs) (h0 : stF rs p q = 0) (hwf : ∀ y ∈ rs, y.nm.size ≤ maxLen) :
    Calls Try.prog 7 #[.slice (some ⟨b, off, none⟩) n cap, .agg #[.int .i64 p, .int .i64 q]] w fun r w' => (∃ v, r = .returned (.tuple #[v, .bool (stepsB rs p q), .int .i64 0]) ∧ NumsC w' v (stepsL rs p q)) ∧ Below w.heap.size w w' := by
  obtain ⟨i0, hi, hi0, hi1, hi2⟩ := info_parts Try.infoInt8
  have hst := (stF_zero rs p q).1 h0
  have hn : n ≤ 100 := by rw [← hz]; exact hst.ok.len
  have HNE := hne
  have he : e < n := by have := HNE.out; omega
  have hst0 : isStB p q = true := by
    have e := stF_ref rs p q
    rw [h0, if_pos ((rgF_zero rs).2 hst.ok)] at e
    by_cases h : isStB p q = true
    · exact h
    · rw [if_neg h] at e; exact absurd e (by decide)
  have HC : Hid (∀ W, Below w.heap.size w W → Calls Try.prog 23 #[.slice (some ⟨b, off, none⟩) n cap] W fun e w' => e = .returned (.int .i64 0) ∧ Below W.heap.size W w') := Lib.hid (fun W hb => by rw [← (rgF_zero rs).2 hst.ok]; exact rchkr_any _ rs W (hS.below hb (Nat.le_refl _)) hwf)
  have HIS : Hid (∀ W, Calls Try.prog 24 #[.agg #[.int .i64 p, .int .i64 q]] W fun e w' => e = .returned (.bool true) ∧ Below W.heap.size W w') := Lib.hid (fun W => by rw [← hst0]; exact isStep_any p q W)
  have HNA : Hid (∀ W i k, i < n → k < n → Calls Try.prog 25 #[.int .i64 (rs.getD i rung0).ra, .int .i64 (rs.getD k rung0).ra, .agg #[.int .i64 p, .int .i64 q]] W fun e w' => e = .returned (.bool (!gapB (rs.getD i rung0) (rs.getD k rung0) p q)) ∧ Below W.heap.size W w') := Lib.hid (fun W i k hi hk => near_any _ _ p q W (hst.ok.ok i (by omega)) (hst.ok.ok k (by omega)) hst.hp hst.hq)
  have HMO : Hid (Mono rs p q e) := Lib.hid (mono_of hst (by omega))
  have HCC := Lib.hid (fun j (hj : j < n) => (hS.cells j (by omega)).2.1)
  have HF1 : Hid (∀ j, j < n → gapAt rs p q j = true → stepsB rs p q = false ∧ stepsL rs p q = []) := Lib.hid (fun j hj h => by
    have e1 : stepsB rs p q = false := by rw [stepsB, noGapB_false (by rw [hz]; exact hj) h, Bool.and_false, Bool.and_false]
    exact ⟨e1, stepsL_none e1⟩)
  have HF2 : Hid ((∀ j, j < n → gapAt rs p q j = false) → stepsB rs p q = true ∧ stepsL rs p q = natI (stepsN (nextN rs p q e) e)) := Lib.hid (fun h => by
    have e1 : stepsB rs p q = true := by rw [stepsB, noGapB_true (by rw [hz]; exact h), decide_eq_true h0, decide_eq_true (by omega : 0 < rs.length)]; rfl
    have e2 : rs.length - 1 = e := by have := HNE.out; omega
    refine ⟨e1, ?_⟩
    rw [stepsL, if_pos e1, e2])
  have hmk := fun W => run_make_row' (P := Try.prog) 25 3 (.int .i64 0) 8 Try.underlying25 Try.infoInt8 rfl .i64 .i64 n (by omega) (by omega) W
  have b1 : Below w.heap.size w (w.alloc (.cells #[.int .i64 p, .int .i64 q] 24)) := (Below.refl _ w).alloc (Nat.le_refl _) _
  have T1 := Two.new w p q 24
  obtain ⟨SB, hSB⟩ : ∃ SB, stepsB rs p q = SB := ⟨_, rfl⟩
  obtain ⟨SL, hSL⟩ : ∃ SL, stepsL rs p q = SL := ⟨_, rfl⟩
  rw [hSB, hSL] at HF1 HF2 ⊢
  clear hS h0 hwf hst hz hSB hSL hne hst0
  go_enter Try.func7, Try.ntmps7
  go_upto_region 1 with fail
  generalize w.alloc (.cells #[.int .i64 p, .int .i64 q] 24) = W at *
  go_wp2_with fail
  refine (HC.out _ b1).mono ?_; rintro r w2 ⟨rfl, b2⟩
  have T1 := T1.below b2 T1.lt
  have b1 := b1.trans (b2.mono b1.size)
  have k0 := T1.c0; have k1 := T1.c1; have kl := T1.lt
  clear b2 HC
  go_wp2_with fail
  refine (HIS.out _).mono ?_; rintro r w3 ⟨rfl, b3⟩
  have T1 := T1.below b3 T1.lt
  have b1 := b1.trans (b3.mono b1.size)
  clear b3 HIS k0 k1 kl
  have hn0 : ((n : Int) == 0) = false := by simp; omega
  have TG := TbAt.made w3 n
  have ba : Below w3.heap.size w3 (w3.alloc (.cells (madeCells #[.int .i64 0] n) 3)) := (Below.refl _ _).alloc (Nat.le_refl _) _
  have T2 := T1.below ba T1.lt
  have b2 := b1.trans (ba.mono b1.size)
  have hXg : w.heap.size < w3.heap.size := T1.lt
  obtain ⟨X, hXe⟩ : ∃ X, w.heap.size = X := ⟨_, rfl⟩
  have HX := Lib.hid hXe
  rw [hXe] at T2 hXg b2 hlt
  simp only [hXe]
  clear T1 b1 ba hXe
  go_upto_region 9 with fail
  generalize w3.alloc (.cells (madeCells #[.int .i64 0] n) 3) = W4 at *
  generalize w3.heap.size = g at *
  clear hmk
  have hbX : b < X := hlt
  go_wp2_with fail
  go_loopw [9] (fun v9 wr => ∃ d : Nat, d ≤ e ∧ v9 = .int .i64 ((d : Int) - 1) ∧ TbAt wr g n (tabR rs p q e (e - d)) ∧ Two wr X p q ∧ Below X w wr) (fun v9 _ => (intOf v9 + 1).toNat)
  case atStart =>
    refine ⟨e, Nat.le_refl _, ?_, by rw [Nat.sub_self]; exact TG, T2, b2⟩
    rw [show (n : Int) - 2 = (e : Int) - 1 by have := HNE.out; omega]
  case round =>
    clear TG T2 b2
    obtain ⟨d, hd, rfl, tg, T1, hbr⟩ := hrel
    cases d with
    | zero =>
      have z0 : ((0 : Nat) : Int) - 1 = -1 := rfl
      rw [z0]
      rw [Nat.sub_zero] at tg
      clear z0
      by_cases hall : ∀ j, j < n → gapAt rs p q j = false
      · obtain ⟨e1, e2⟩ := HF2.out hall
        have hng : NoGaps rs p q e := noGaps_of (by rw [← HNE.out]; exact hall)
        have hsame : tabR rs p q e e = leftN rs p q e := tab_same rs p q e hng HMO.out (by omega) e (Nat.le_refl _)
        rw [hsame] at tg
        have HX2 : Hid (∀ j, j < e → j < nextN rs p q e j ∧ nextN rs p q e j ≤ e) := Lib.hid (fun j hj => ⟨(nextN_ok rs p q e hng j hj).1, (nextN_ok rs p q e hng j hj).2.1⟩)
        have HNF := Lib.hid (fun i (hi : i < e) => next_first rs p q e i hng HMO.out hi)
        have HGN : Hid (∀ i, i < e → ∀ k, k ≤ nextN rs p q e i → gapB (rs.getD i rung0) (rs.getD k rung0) p q = false) := Lib.hid (fun i hi k hk => HMO.out i i (nextN rs p q e i) k (Nat.le_refl _) hk (by omega) (nextN_ok rs p q e hng i hi).2.1 (nextN_ok rs p q e hng i hi).2.2)
        have HL : Hid (∀ j, leftN rs p q e j ≤ e) := Lib.hid (fun j => by have := (tabN_ok rs p q e hng e (Nat.le_refl _)).lle j; unfold leftN; omega)
        have HSL := Lib.hid e2
        obtain ⟨nx, hnx⟩ : ∃ nx, nextN rs p q e = nx := ⟨_, rfl⟩
        obtain ⟨L, hL⟩ : ∃ L, leftN rs p q e = L := ⟨_, rfl⟩
        rw [hnx] at HX2 HSL HGN
        rw [hL] at HL tg
        simp only [hnx, hL] at HNF
        subst e1
        have s0 : wr.cell? ⟨g, 0, none⟩ = some (.int .i64 (L 0 : Int)) := tg.c 0 (by omega)
        have l0 : decide ((1000 : Int) ≤ (L 0 : Int)) = false := by have := HL.out 0; simp; omega
        have i0n : (0 : Int) < (n : Int) := by omega
        have hwz : X ≤ wr.heap.size := by have := hbr.size; have := HX.out; omega
        obtain ⟨Z, hZ⟩ : ∃ Z, wr.heap.size = Z := ⟨_, rfl⟩
        have HSZ : Hid (∀ wy, Below Z wr wy → Z ≤ wy.heap.size) := Lib.hid (fun wy hb => by have := hb.size; omega)
        have hgZ : g < Z := by have := tg.lt; omega
        have hXZ : X < Z := by have := T1.lt; omega
        have hown : (wr.alloc (.cells #[.int .i64 0] 3)).ownsRow Z 3 1 (.slice (some ⟨wr.heap.size, 0, none⟩) 1 1) 1 #[.int .i64 0].toList := World.ownsRow_lit wr #[.int .i64 0] 1 (by omega) (by unfold maxLen; omega) rfl
        have hbel : Below Z wr (wr.alloc (.cells #[.int .i64 0] 3)) := (Below.refl _ _).alloc (by omega) _
        have HTG : Hid (∀ wy, Below Z wr wy → TbAt wy g n L) := Lib.hid (fun wy hb => tg.below hb hgZ)
        have HT1 : Hid (∀ wy, Below Z wr wy → Two wy X p q) := Lib.hid (fun wy hb => T1.below hb hXZ)
        have HBX : Hid (∀ wy, Below Z wr wy → Below X w wy) := Lib.hid (fun wy hb => hbr.trans (hb.mono (by omega)))
        have HFU : Hid ([0] ++ walkN nx e (e - 0) 0 = stepsN nx e) := Lib.hid rfl
        clear hZ hnx hL hall hng hsame e2 tg T1
        generalize wr = WT at *
        go_upto_region 21 with fail
        generalize WT.alloc (.cells #[.int .i64 0] 3) = W5 at *
        generalize WT.heap.size = Y5 at *
        clear s0 l0
        go_wp2_with fail
        go_loopw [11, 12] (fun v11 v12 wy => ∃ (a : Nat) (xs : List Nat), a ≤ e ∧ v12 = .int .i64 (a : Int) ∧ wy.ownsRow Z 3 1 v11 xs.length (natV xs) ∧ Hid (xs ++ walkN nx e (e - a) a = stepsN nx e) ∧ Below Z WT wy ∧ xs.length ≤ a + 1) (fun _ v12 _ => e - (intOf v12).toNat)
        case atStart => exact ⟨0, [0], Nat.zero_le _, rfl, hown, HFU, hbel, Nat.le_refl _⟩
        case round =>
          clear hown HFU hbel
          obtain ⟨a, xs, ha, rfl, hown, HFU, hbel, hxl⟩ := hrel
          obtain ⟨a3, c3, rfl⟩ := sown_form hown
          have wn1 : IntKind.i64.wrap ((n : Int) - 1) = (e : Int) := by have := HNE.out; rw [show (n : Int) - 1 = (e : Int) by omega]; exact IntWalk.i64_in _ ⟨by omega, by omega⟩
          by_cases hae : a < e
          · obtain ⟨hc1, hc2⟩ := HX2.out a hae
            obtain ⟨hf1, hf2⟩ := HNF.out a hae
            have hgn := HGN.out a hae
            obtain ⟨c, hc⟩ : ∃ c, nx a = c := ⟨_, rfl⟩
            have HFN : Hid (xs ++ [c] ++ walkN nx e (e - c) c = stepsN nx e) := Lib.hid (by
              rw [← HFU.out, walkN_at nx e a HX2.out hae, hc, List.append_assoc]; rfl)
            rw [hc] at hc1 hc2 hf1 hf2 hgn
            have HF2' := Lib.hid hf2
            have HGN' := Lib.hid hgn
            have HF1' := Lib.hid hf1
            have aD : decide ((a : Int) < (e : Int)) = true := by simp; omega
            have aI : (a : Int) < (n : Int) := by omega
            have wa1 : IntKind.i64.wrap ((a : Int) + 1) = (a : Int) + 1 := IntWalk.i64_in _ ⟨by omega, by omega⟩
            clear hc hf1 hf2 hgn
            go_wp2_with fail
            go_loopw [11, 12, 13] (fun v11 v12 v13 wz => ∃ k : Nat, a < k ∧ k ≤ c ∧ v11 = .slice a3 xs.length c3 ∧ v12 = .int .i64 (a : Int) ∧ v13 = .int .i64 (k : Int) ∧ wz.ownsRow Z 3 1 (.slice a3 xs.length c3) xs.length (natV xs) ∧ Below Z WT wz) (fun _ _ v13 _ => c - (intOf v13).toNat)
            case atStart => exact ⟨a + 1, by omega, by omega, rfl, rfl, by go_num, hown, hbel⟩
            case round =>
              clear hown hbel
              obtain ⟨k, hk1, hk2, rfl, rfl, rfl, hown, hbel⟩ := hrel
              have hbw := HBX.out _ hbel
              have tg := HTG.out _ hbel
              have T1 := HT1.out _ hbel
              have hzr := HSZ.out _ hbel
              have hkn : k < n := by have := HNE.out; omega
              have han : a < n := by omega
              have f0 := HCC.out a han
              have f1 := HCC.out k hkn
              rw [← hbw.cell (p := ⟨b, off + a * 4 + 1, none⟩) hbX] at f0
              rw [← hbw.cell (p := ⟨b, off + k * 4 + 1, none⟩) hbX] at f1
              have HCA := Lib.hid (fun W' => HNA.out W' a k han hkn)
              rw [HGN'.out k hk2] at HCA
              obtain ⟨x, hx⟩ : ∃ x, (rs.getD a rung0).ra = x := ⟨_, rfl⟩
              obtain ⟨y, hy⟩ : ∃ y, (rs.getD k rung0).ra = y := ⟨_, rfl⟩
              rw [hx] at HCA f0
              rw [hy] at HCA f1
              have g1 := tg.c k hkn
              have g2 := tg.c a han
              have gl := tg.lt
              have hLa := HF1'.out
              have hLe := HL.out a
              obtain ⟨R, hR⟩ : ∃ R : Bool, ((L k : Int) == (L a : Int) - 1) = R := ⟨_, rfl⟩
              have HRR : Hid (R = decide (k = c)) := Lib.hid (by
                rw [← hR]
                by_cases hkc : k = c
                · rw [decide_eq_true hkc, hkc]; simp; omega
                · have := HF2'.out k hk1 (by omega)
                  rw [decide_eq_false hkc]; simp; omega)
              have wL : IntKind.i64.wrap ((L a : Int) - 1) = (L a : Int) - 1 := IntWalk.i64_in _ ⟨by omega, by omega⟩
              have kI : (k : Int) < (n : Int) := by omega
              have wk1 : IntKind.i64.wrap ((k : Int) + 1) = (k : Int) + 1 := IntWalk.i64_in _ ⟨by omega, by omega⟩
              have hbz : b < wr.heap.size := by have := hbw.size; have := HX.out; omega
              clear hx hy hLa hLe
              go_upto_region 26 with fail
              go_cut [112] (fun s112 wx => s112 = .bool R ∧ Below wr.heap.size wr wx)
              case first =>
                have k0 := T1.c0; have k1 := T1.c1; have kl := T1.lt
                clear T1 tg hbw
                refine wp_region_noPanic ?_
                refine wp_region_held_drew (S := fun w' => Below wr.heap.size wr w') (by kernel_rfl) ?hS0 (fun hHeld => ?_)
                case hS0 => exact (Below.refl _ wr).drew
                have hS : Below wr.heap.size wr wr.drew := (Below.refl _ wr).drew
                clear hHeld
                generalize wr.drew = wd at *
                refine wpAnyH_take (i := 0) (v := ?_) rfl (by kernel_rfl) (by kernel_rfl) (by kernel_rfl) (fun _ _ _ h => h) (Or.inl ⟨by kernel_rfl, ?hy⟩) (by assumption) ?_
                case hy => (intro wq hSw; have q0 := (hSw.cell (p := ⟨X, 0, none⟩) kl).trans k0; have q1 := (hSw.cell (p := ⟨X, 1, none⟩) kl).trans k1; have u0 := (hSw.cell (p := ⟨b, off + a * 4 + 1, none⟩) hbz).trans f0; have u1 := (hSw.cell (p := ⟨b, off + k * 4 + 1, none⟩) hbz).trans f1; have u2 := (hSw.cell (p := ⟨g, k, none⟩) gl).trans g1; have u3 := (hSw.cell (p := ⟨g, a, none⟩) gl).trans g2; have s1 := Nat.lt_of_lt_of_le kl hSw.size; have s2 := Nat.lt_of_lt_of_le hbz hSw.size; have s3 := Nat.lt_of_lt_of_le gl hSw.size; go_simp; try (with_reducible rfl))
                try simp only [Act.put, List.setIfInBounds_toArray, List.set_cons_zero, List.set_cons_succ]
                refine wpAnyH_take (i := 1) (v := ?_) rfl (by kernel_rfl) (by kernel_rfl) (by kernel_rfl) (fun _ _ _ h => h) (Or.inl ⟨by kernel_rfl, ?hy⟩) (by assumption) ?_
                case hy => (intro wq hSw; have q0 := (hSw.cell (p := ⟨X, 0, none⟩) kl).trans k0; have q1 := (hSw.cell (p := ⟨X, 1, none⟩) kl).trans k1; have u0 := (hSw.cell (p := ⟨b, off + a * 4 + 1, none⟩) hbz).trans f0; have u1 := (hSw.cell (p := ⟨b, off + k * 4 + 1, none⟩) hbz).trans f1; have u2 := (hSw.cell (p := ⟨g, k, none⟩) gl).trans g1; have u3 := (hSw.cell (p := ⟨g, a, none⟩) gl).trans g2; have s1 := Nat.lt_of_lt_of_le kl hSw.size; have s2 := Nat.lt_of_lt_of_le hbz hSw.size; have s3 := Nat.lt_of_lt_of_le gl hSw.size; go_simp; try (with_reducible rfl))
                try simp only [Act.put, List.setIfInBounds_toArray, List.set_cons_zero, List.set_cons_succ]
                refine wpAnyH_take (i := 2) (v := ?_) rfl (by kernel_rfl) (by kernel_rfl) (by kernel_rfl) (fun _ _ _ h => h) (Or.inl ⟨by kernel_rfl, ?hy⟩) (by assumption) ?_
                case hy => (intro wq hSw; have q0 := (hSw.cell (p := ⟨X, 0, none⟩) kl).trans k0; have q1 := (hSw.cell (p := ⟨X, 1, none⟩) kl).trans k1; have u0 := (hSw.cell (p := ⟨b, off + a * 4 + 1, none⟩) hbz).trans f0; have u1 := (hSw.cell (p := ⟨b, off + k * 4 + 1, none⟩) hbz).trans f1; have u2 := (hSw.cell (p := ⟨g, k, none⟩) gl).trans g1; have u3 := (hSw.cell (p := ⟨g, a, none⟩) gl).trans g2; have s1 := Nat.lt_of_lt_of_le kl hSw.size; have s2 := Nat.lt_of_lt_of_le hbz hSw.size; have s3 := Nat.lt_of_lt_of_le gl hSw.size; go_simp; try (with_reducible rfl))
                try simp only [Act.put, List.setIfInBounds_toArray, List.set_cons_zero, List.set_cons_succ]
                refine wpAnyH_take (i := 3) (v := ?_) rfl (by kernel_rfl) (by kernel_rfl) (by kernel_rfl) (fun _ _ _ h => h) (Or.inl ⟨by kernel_rfl, ?hy⟩) (by assumption) ?_
                case hy => (intro wq hSw; have q0 := (hSw.cell (p := ⟨X, 0, none⟩) kl).trans k0; have q1 := (hSw.cell (p := ⟨X, 1, none⟩) kl).trans k1; have u0 := (hSw.cell (p := ⟨b, off + a * 4 + 1, none⟩) hbz).trans f0; have u1 := (hSw.cell (p := ⟨b, off + k * 4 + 1, none⟩) hbz).trans f1; have u2 := (hSw.cell (p := ⟨g, k, none⟩) gl).trans g1; have u3 := (hSw.cell (p := ⟨g, a, none⟩) gl).trans g2; have s1 := Nat.lt_of_lt_of_le kl hSw.size; have s2 := Nat.lt_of_lt_of_le hbz hSw.size; have s3 := Nat.lt_of_lt_of_le gl hSw.size; go_simp; try (with_reducible rfl))
                try simp only [Act.put, List.setIfInBounds_toArray, List.set_cons_zero, List.set_cons_succ]
                refine wpAnyH_take (i := 4) (v := ?_) rfl (by kernel_rfl) (by kernel_rfl) (by kernel_rfl) (fun _ _ _ h => h) (Or.inl ⟨by kernel_rfl, ?hy⟩) (by assumption) ?_
                case hy => (intro wq hSw; have q0 := (hSw.cell (p := ⟨X, 0, none⟩) kl).trans k0; have q1 := (hSw.cell (p := ⟨X, 1, none⟩) kl).trans k1; have u0 := (hSw.cell (p := ⟨b, off + a * 4 + 1, none⟩) hbz).trans f0; have u1 := (hSw.cell (p := ⟨b, off + k * 4 + 1, none⟩) hbz).trans f1; have u2 := (hSw.cell (p := ⟨g, k, none⟩) gl).trans g1; have u3 := (hSw.cell (p := ⟨g, a, none⟩) gl).trans g2; have s1 := Nat.lt_of_lt_of_le kl hSw.size; have s2 := Nat.lt_of_lt_of_le hbz hSw.size; have s3 := Nat.lt_of_lt_of_le gl hSw.size; go_simp; try (with_reducible rfl))
                try simp only [Act.put, List.setIfInBounds_toArray, List.set_cons_zero, List.set_cons_succ]
                refine wpAnyH_take (i := 5) (v := ?_) rfl (by kernel_rfl) (by kernel_rfl) (by kernel_rfl) (fun _ _ _ h => h) (Or.inl ⟨by kernel_rfl, ?hy⟩) (by assumption) ?_
                case hy => (intro wq hSw; have q0 := (hSw.cell (p := ⟨X, 0, none⟩) kl).trans k0; have q1 := (hSw.cell (p := ⟨X, 1, none⟩) kl).trans k1; have u0 := (hSw.cell (p := ⟨b, off + a * 4 + 1, none⟩) hbz).trans f0; have u1 := (hSw.cell (p := ⟨b, off + k * 4 + 1, none⟩) hbz).trans f1; have u2 := (hSw.cell (p := ⟨g, k, none⟩) gl).trans g1; have u3 := (hSw.cell (p := ⟨g, a, none⟩) gl).trans g2; have s1 := Nat.lt_of_lt_of_le kl hSw.size; have s2 := Nat.lt_of_lt_of_le hbz hSw.size; have s3 := Nat.lt_of_lt_of_le gl hSw.size; go_simp; try (with_reducible rfl))
                try simp only [Act.put, List.setIfInBounds_toArray, List.set_cons_zero, List.set_cons_succ]
                refine wpAnyH_take (i := 6) (v := ?_) rfl (by kernel_rfl) (by kernel_rfl) (by kernel_rfl) (fun _ _ _ h => h) (Or.inl ⟨by kernel_rfl, ?hy⟩) (by assumption) ?_
                case hy => (intro wq hSw; have q0 := (hSw.cell (p := ⟨X, 0, none⟩) kl).trans k0; have q1 := (hSw.cell (p := ⟨X, 1, none⟩) kl).trans k1; have u0 := (hSw.cell (p := ⟨b, off + a * 4 + 1, none⟩) hbz).trans f0; have u1 := (hSw.cell (p := ⟨b, off + k * 4 + 1, none⟩) hbz).trans f1; have u2 := (hSw.cell (p := ⟨g, k, none⟩) gl).trans g1; have u3 := (hSw.cell (p := ⟨g, a, none⟩) gl).trans g2; have s1 := Nat.lt_of_lt_of_le kl hSw.size; have s2 := Nat.lt_of_lt_of_le hbz hSw.size; have s3 := Nat.lt_of_lt_of_le gl hSw.size; go_simp; try (with_reducible rfl))
                try simp only [Act.put, List.setIfInBounds_toArray, List.set_cons_zero, List.set_cons_succ]
                refine wpAnyH_take (i := 7) (v := ?_) rfl (by kernel_rfl) (by kernel_rfl) (by kernel_rfl) (fun _ _ _ h => h) (Or.inl ⟨by kernel_rfl, ?hy⟩) (by assumption) ?_
                case hy => (intro wq hSw; have q0 := (hSw.cell (p := ⟨X, 0, none⟩) kl).trans k0; have q1 := (hSw.cell (p := ⟨X, 1, none⟩) kl).trans k1; have u0 := (hSw.cell (p := ⟨b, off + a * 4 + 1, none⟩) hbz).trans f0; have u1 := (hSw.cell (p := ⟨b, off + k * 4 + 1, none⟩) hbz).trans f1; have u2 := (hSw.cell (p := ⟨g, k, none⟩) gl).trans g1; have u3 := (hSw.cell (p := ⟨g, a, none⟩) gl).trans g2; have s1 := Nat.lt_of_lt_of_le kl hSw.size; have s2 := Nat.lt_of_lt_of_le hbz hSw.size; have s3 := Nat.lt_of_lt_of_le gl hSw.size; go_simp; try (with_reducible rfl))
                try simp only [Act.put, List.setIfInBounds_toArray, List.set_cons_zero, List.set_cons_succ]
                refine wpAnyH_take (i := 8) (v := ?_) rfl (by kernel_rfl) (by kernel_rfl) (by kernel_rfl) (fun _ _ _ h => h) (Or.inl ⟨by kernel_rfl, ?hy⟩) (by assumption) ?_
                case hy => (intro wq hSw; have q0 := (hSw.cell (p := ⟨X, 0, none⟩) kl).trans k0; have q1 := (hSw.cell (p := ⟨X, 1, none⟩) kl).trans k1; have u0 := (hSw.cell (p := ⟨b, off + a * 4 + 1, none⟩) hbz).trans f0; have u1 := (hSw.cell (p := ⟨b, off + k * 4 + 1, none⟩) hbz).trans f1; have u2 := (hSw.cell (p := ⟨g, k, none⟩) gl).trans g1; have u3 := (hSw.cell (p := ⟨g, a, none⟩) gl).trans g2; have s1 := Nat.lt_of_lt_of_le kl hSw.size; have s2 := Nat.lt_of_lt_of_le hbz hSw.size; have s3 := Nat.lt_of_lt_of_le gl hSw.size; go_simp; try (with_reducible rfl))
                try simp only [Act.put, List.setIfInBounds_toArray, List.set_cons_zero, List.set_cons_succ]
                refine wpAnyH_take (i := 9) (v := ?_) rfl (by kernel_rfl) (by kernel_rfl) (by kernel_rfl) (fun _ _ _ h => h) (Or.inl ⟨by kernel_rfl, ?hy⟩) (by assumption) ?_
                case hy => (intro wq hSw; have q0 := (hSw.cell (p := ⟨X, 0, none⟩) kl).trans k0; have q1 := (hSw.cell (p := ⟨X, 1, none⟩) kl).trans k1; have u0 := (hSw.cell (p := ⟨b, off + a * 4 + 1, none⟩) hbz).trans f0; have u1 := (hSw.cell (p := ⟨b, off + k * 4 + 1, none⟩) hbz).trans f1; have u2 := (hSw.cell (p := ⟨g, k, none⟩) gl).trans g1; have u3 := (hSw.cell (p := ⟨g, a, none⟩) gl).trans g2; have s1 := Nat.lt_of_lt_of_le kl hSw.size; have s2 := Nat.lt_of_lt_of_le hbz hSw.size; have s3 := Nat.lt_of_lt_of_le gl hSw.size; go_simp; try (with_reducible rfl))
                try simp only [Act.put, List.setIfInBounds_toArray, List.set_cons_zero, List.set_cons_succ]
                refine wpAnyH_take (i := 10) (v := ?_) rfl (by kernel_rfl) (by kernel_rfl) (by kernel_rfl) (fun _ _ _ h => h) (Or.inl ⟨by kernel_rfl, ?hy⟩) (by assumption) ?_
                case hy => (intro wq hSw; have q0 := (hSw.cell (p := ⟨X, 0, none⟩) kl).trans k0; have q1 := (hSw.cell (p := ⟨X, 1, none⟩) kl).trans k1; have u0 := (hSw.cell (p := ⟨b, off + a * 4 + 1, none⟩) hbz).trans f0; have u1 := (hSw.cell (p := ⟨b, off + k * 4 + 1, none⟩) hbz).trans f1; have u2 := (hSw.cell (p := ⟨g, k, none⟩) gl).trans g1; have u3 := (hSw.cell (p := ⟨g, a, none⟩) gl).trans g2; have s1 := Nat.lt_of_lt_of_le kl hSw.size; have s2 := Nat.lt_of_lt_of_le hbz hSw.size; have s3 := Nat.lt_of_lt_of_le gl hSw.size; go_simp; try (with_reducible rfl))
                try simp only [Act.put, List.setIfInBounds_toArray, List.set_cons_zero, List.set_cons_succ]
                refine wpAnyH_ready (rs := [11]) (by kernel_rfl) (by simp) ?_
                refine AllReadyH.cons rfl (fun K hK => ?_) AllReadyH.nil
                go_simp
                refine (HCA.out _).mono ?_; rintro e' w5 ⟨rfl, b3⟩; have hS : Below wr.heap.size wr w5 := hS.trans (b3.mono hS.size)
                refine hK.out _ _ hS (fun hHeld => ?_)
                clear hK K hHeld
                try simp only [Act.put, List.setIfInBounds_toArray, List.set_cons_zero, List.set_cons_succ]
                refine wpAnyH_take (i := 12) (v := ?_) rfl (by kernel_rfl) (by kernel_rfl) (by kernel_rfl) (fun _ _ _ h => h) (Or.inl ⟨by kernel_rfl, ?hy⟩) (by assumption) ?_
                case hy => (intro wq hSw; have q0 := (hSw.cell (p := ⟨X, 0, none⟩) kl).trans k0; have q1 := (hSw.cell (p := ⟨X, 1, none⟩) kl).trans k1; have u0 := (hSw.cell (p := ⟨b, off + a * 4 + 1, none⟩) hbz).trans f0; have u1 := (hSw.cell (p := ⟨b, off + k * 4 + 1, none⟩) hbz).trans f1; have u2 := (hSw.cell (p := ⟨g, k, none⟩) gl).trans g1; have u3 := (hSw.cell (p := ⟨g, a, none⟩) gl).trans g2; have s1 := Nat.lt_of_lt_of_le kl hSw.size; have s2 := Nat.lt_of_lt_of_le hbz hSw.size; have s3 := Nat.lt_of_lt_of_le gl hSw.size; go_simp; try (with_reducible rfl))
                try simp only [Act.put, List.setIfInBounds_toArray, List.set_cons_zero, List.set_cons_succ]
                refine wpAnyH_take (i := 13) (v := ?_) rfl (by kernel_rfl) (by kernel_rfl) (by kernel_rfl) (fun _ _ _ h => h) (Or.inl ⟨by kernel_rfl, ?hy⟩) (by assumption) ?_
                case hy => (intro wq hSw; have q0 := (hSw.cell (p := ⟨X, 0, none⟩) kl).trans k0; have q1 := (hSw.cell (p := ⟨X, 1, none⟩) kl).trans k1; have u0 := (hSw.cell (p := ⟨b, off + a * 4 + 1, none⟩) hbz).trans f0; have u1 := (hSw.cell (p := ⟨b, off + k * 4 + 1, none⟩) hbz).trans f1; have u2 := (hSw.cell (p := ⟨g, k, none⟩) gl).trans g1; have u3 := (hSw.cell (p := ⟨g, a, none⟩) gl).trans g2; have s1 := Nat.lt_of_lt_of_le kl hSw.size; have s2 := Nat.lt_of_lt_of_le hbz hSw.size; have s3 := Nat.lt_of_lt_of_le gl hSw.size; go_simp; try (with_reducible rfl))
                try simp only [Act.put, List.setIfInBounds_toArray, List.set_cons_zero, List.set_cons_succ]
                refine wpAnyH_take (i := 14) (v := ?_) rfl (by kernel_rfl) (by kernel_rfl) (by kernel_rfl) (fun _ _ _ h => h) (Or.inl ⟨by kernel_rfl, ?hy⟩) (by assumption) ?_
                case hy => (intro wq hSw; have q0 := (hSw.cell (p := ⟨X, 0, none⟩) kl).trans k0; have q1 := (hSw.cell (p := ⟨X, 1, none⟩) kl).trans k1; have u0 := (hSw.cell (p := ⟨b, off + a * 4 + 1, none⟩) hbz).trans f0; have u1 := (hSw.cell (p := ⟨b, off + k * 4 + 1, none⟩) hbz).trans f1; have u2 := (hSw.cell (p := ⟨g, k, none⟩) gl).trans g1; have u3 := (hSw.cell (p := ⟨g, a, none⟩) gl).trans g2; have s1 := Nat.lt_of_lt_of_le kl hSw.size; have s2 := Nat.lt_of_lt_of_le hbz hSw.size; have s3 := Nat.lt_of_lt_of_le gl hSw.size; go_simp; try (with_reducible rfl))
                try simp only [Act.put, List.setIfInBounds_toArray, List.set_cons_zero, List.set_cons_succ]
                refine wpAnyH_take (i := 15) (v := ?_) rfl (by kernel_rfl) (by kernel_rfl) (by kernel_rfl) (fun _ _ _ h => h) (Or.inl ⟨by kernel_rfl, ?hy⟩) (by assumption) ?_
                case hy => (intro wq hSw; have q0 := (hSw.cell (p := ⟨X, 0, none⟩) kl).trans k0; have q1 := (hSw.cell (p := ⟨X, 1, none⟩) kl).trans k1; have u0 := (hSw.cell (p := ⟨b, off + a * 4 + 1, none⟩) hbz).trans f0; have u1 := (hSw.cell (p := ⟨b, off + k * 4 + 1, none⟩) hbz).trans f1; have u2 := (hSw.cell (p := ⟨g, k, none⟩) gl).trans g1; have u3 := (hSw.cell (p := ⟨g, a, none⟩) gl).trans g2; have s1 := Nat.lt_of_lt_of_le kl hSw.size; have s2 := Nat.lt_of_lt_of_le hbz hSw.size; have s3 := Nat.lt_of_lt_of_le gl hSw.size; go_simp; try (with_reducible rfl))
                try simp only [Act.put, List.setIfInBounds_toArray, List.set_cons_zero, List.set_cons_succ]
                refine wpAnyH_take (i := 16) (v := ?_) rfl (by kernel_rfl) (by kernel_rfl) (by kernel_rfl) (fun _ _ _ h => h) (Or.inl ⟨by kernel_rfl, ?hy⟩) (by assumption) ?_
                case hy => (intro wq hSw; have q0 := (hSw.cell (p := ⟨X, 0, none⟩) kl).trans k0; have q1 := (hSw.cell (p := ⟨X, 1, none⟩) kl).trans k1; have u0 := (hSw.cell (p := ⟨b, off + a * 4 + 1, none⟩) hbz).trans f0; have u1 := (hSw.cell (p := ⟨b, off + k * 4 + 1, none⟩) hbz).trans f1; have u2 := (hSw.cell (p := ⟨g, k, none⟩) gl).trans g1; have u3 := (hSw.cell (p := ⟨g, a, none⟩) gl).trans g2; have s1 := Nat.lt_of_lt_of_le kl hSw.size; have s2 := Nat.lt_of_lt_of_le hbz hSw.size; have s3 := Nat.lt_of_lt_of_le gl hSw.size; go_simp; try (with_reducible rfl))
                try simp only [Act.put, List.setIfInBounds_toArray, List.set_cons_zero, List.set_cons_succ]
                refine wpAnyH_take (i := 17) (v := ?_) rfl (by kernel_rfl) (by kernel_rfl) (by kernel_rfl) (fun _ _ _ h => h) (Or.inl ⟨by kernel_rfl, ?hy⟩) (by assumption) ?_
                case hy => (intro wq hSw; have q0 := (hSw.cell (p := ⟨X, 0, none⟩) kl).trans k0; have q1 := (hSw.cell (p := ⟨X, 1, none⟩) kl).trans k1; have u0 := (hSw.cell (p := ⟨b, off + a * 4 + 1, none⟩) hbz).trans f0; have u1 := (hSw.cell (p := ⟨b, off + k * 4 + 1, none⟩) hbz).trans f1; have u2 := (hSw.cell (p := ⟨g, k, none⟩) gl).trans g1; have u3 := (hSw.cell (p := ⟨g, a, none⟩) gl).trans g2; have s1 := Nat.lt_of_lt_of_le kl hSw.size; have s2 := Nat.lt_of_lt_of_le hbz hSw.size; have s3 := Nat.lt_of_lt_of_le gl hSw.size; go_simp; try (with_reducible rfl))
                try simp only [Act.put, List.setIfInBounds_toArray, List.set_cons_zero, List.set_cons_succ]
                refine wpAnyH_take (i := 18) (v := ?_) rfl (by kernel_rfl) (by kernel_rfl) (by kernel_rfl) (fun _ _ _ h => h) (Or.inl ⟨by kernel_rfl, ?hy⟩) (by assumption) ?_
                case hy => (intro wq hSw; have q0 := (hSw.cell (p := ⟨X, 0, none⟩) kl).trans k0; have q1 := (hSw.cell (p := ⟨X, 1, none⟩) kl).trans k1; have u0 := (hSw.cell (p := ⟨b, off + a * 4 + 1, none⟩) hbz).trans f0; have u1 := (hSw.cell (p := ⟨b, off + k * 4 + 1, none⟩) hbz).trans f1; have u2 := (hSw.cell (p := ⟨g, k, none⟩) gl).trans g1; have u3 := (hSw.cell (p := ⟨g, a, none⟩) gl).trans g2; have s1 := Nat.lt_of_lt_of_le kl hSw.size; have s2 := Nat.lt_of_lt_of_le hbz hSw.size; have s3 := Nat.lt_of_lt_of_le gl hSw.size; go_simp; try (with_reducible rfl))
                try simp only [Act.put, List.setIfInBounds_toArray, List.set_cons_zero, List.set_cons_succ]
                refine wpAnyH_take (i := 19) (v := ?_) rfl (by kernel_rfl) (by kernel_rfl) (by kernel_rfl) (fun _ _ _ h => h) (Or.inl ⟨by kernel_rfl, ?hy⟩) (by assumption) ?_
                case hy => (intro wq hSw; have q0 := (hSw.cell (p := ⟨X, 0, none⟩) kl).trans k0; have q1 := (hSw.cell (p := ⟨X, 1, none⟩) kl).trans k1; have u0 := (hSw.cell (p := ⟨b, off + a * 4 + 1, none⟩) hbz).trans f0; have u1 := (hSw.cell (p := ⟨b, off + k * 4 + 1, none⟩) hbz).trans f1; have u2 := (hSw.cell (p := ⟨g, k, none⟩) gl).trans g1; have u3 := (hSw.cell (p := ⟨g, a, none⟩) gl).trans g2; have s1 := Nat.lt_of_lt_of_le kl hSw.size; have s2 := Nat.lt_of_lt_of_le hbz hSw.size; have s3 := Nat.lt_of_lt_of_le gl hSw.size; go_simp; try (with_reducible rfl))
                try simp only [Act.put, List.setIfInBounds_toArray, List.set_cons_zero, List.set_cons_succ]
                refine wpAnyH_take (i := 20) (v := ?_) rfl (by kernel_rfl) (by kernel_rfl) (by kernel_rfl) (fun _ _ _ h => h) (Or.inl ⟨by kernel_rfl, ?hy⟩) (by assumption) ?_
                case hy => (intro wq hSw; have q0 := (hSw.cell (p := ⟨X, 0, none⟩) kl).trans k0; have q1 := (hSw.cell (p := ⟨X, 1, none⟩) kl).trans k1; have u0 := (hSw.cell (p := ⟨b, off + a * 4 + 1, none⟩) hbz).trans f0; have u1 := (hSw.cell (p := ⟨b, off + k * 4 + 1, none⟩) hbz).trans f1; have u2 := (hSw.cell (p := ⟨g, k, none⟩) gl).trans g1; have u3 := (hSw.cell (p := ⟨g, a, none⟩) gl).trans g2; have s1 := Nat.lt_of_lt_of_le kl hSw.size; have s2 := Nat.lt_of_lt_of_le hbz hSw.size; have s3 := Nat.lt_of_lt_of_le gl hSw.size; go_simp; try (with_reducible rfl))
                try simp only [Act.put, List.setIfInBounds_toArray, List.set_cons_zero, List.set_cons_succ]
                refine wpAnyH_take (i := 21) (v := ?_) rfl (by kernel_rfl) (by kernel_rfl) (by kernel_rfl) (fun _ _ _ h => h) (Or.inl ⟨by kernel_rfl, ?hy⟩) (by assumption) ?_
                case hy => (intro wq hSw; have q0 := (hSw.cell (p := ⟨X, 0, none⟩) kl).trans k0; have q1 := (hSw.cell (p := ⟨X, 1, none⟩) kl).trans k1; have u0 := (hSw.cell (p := ⟨b, off + a * 4 + 1, none⟩) hbz).trans f0; have u1 := (hSw.cell (p := ⟨b, off + k * 4 + 1, none⟩) hbz).trans f1; have u2 := (hSw.cell (p := ⟨g, k, none⟩) gl).trans g1; have u3 := (hSw.cell (p := ⟨g, a, none⟩) gl).trans g2; have s1 := Nat.lt_of_lt_of_le kl hSw.size; have s2 := Nat.lt_of_lt_of_le hbz hSw.size; have s3 := Nat.lt_of_lt_of_le gl hSw.size; go_simp; try (with_reducible rfl))
                try simp only [Act.put, List.setIfInBounds_toArray, List.set_cons_zero, List.set_cons_succ]
                refine wpAnyH_take (i := 22) (v := ?_) rfl (by kernel_rfl) (by kernel_rfl) (by kernel_rfl) (fun _ _ _ h => h) (Or.inl ⟨by kernel_rfl, ?hy⟩) (by assumption) ?_
                case hy => (intro wq hSw; have q0 := (hSw.cell (p := ⟨X, 0, none⟩) kl).trans k0; have q1 := (hSw.cell (p := ⟨X, 1, none⟩) kl).trans k1; have u0 := (hSw.cell (p := ⟨b, off + a * 4 + 1, none⟩) hbz).trans f0; have u1 := (hSw.cell (p := ⟨b, off + k * 4 + 1, none⟩) hbz).trans f1; have u2 := (hSw.cell (p := ⟨g, k, none⟩) gl).trans g1; have u3 := (hSw.cell (p := ⟨g, a, none⟩) gl).trans g2; have s1 := Nat.lt_of_lt_of_le kl hSw.size; have s2 := Nat.lt_of_lt_of_le hbz hSw.size; have s3 := Nat.lt_of_lt_of_le gl hSw.size; go_simp; try (with_reducible rfl))
                try simp only [Act.put, List.setIfInBounds_toArray, List.set_cons_zero, List.set_cons_succ]
                refine wpAnyH_take (i := 23) (v := ?_) rfl (by kernel_rfl) (by kernel_rfl) (by kernel_rfl) (fun _ _ _ h => h) (Or.inl ⟨by kernel_rfl, ?hy⟩) (by assumption) ?_
                case hy => (intro wq hSw; have q0 := (hSw.cell (p := ⟨X, 0, none⟩) kl).trans k0; have q1 := (hSw.cell (p := ⟨X, 1, none⟩) kl).trans k1; have u0 := (hSw.cell (p := ⟨b, off + a * 4 + 1, none⟩) hbz).trans f0; have u1 := (hSw.cell (p := ⟨b, off + k * 4 + 1, none⟩) hbz).trans f1; have u2 := (hSw.cell (p := ⟨g, k, none⟩) gl).trans g1; have u3 := (hSw.cell (p := ⟨g, a, none⟩) gl).trans g2; have s1 := Nat.lt_of_lt_of_le kl hSw.size; have s2 := Nat.lt_of_lt_of_le hbz hSw.size; have s3 := Nat.lt_of_lt_of_le gl hSw.size; go_simp; try (with_reducible rfl))
                try simp only [Act.put, List.setIfInBounds_toArray, List.set_cons_zero, List.set_cons_succ]
                refine wpAnyH_done (by kernel_rfl) ?_ _
                refine NoPanic.normal ?_
                try go_simp
                go_wp2_with fail
                go_meet
                exact ⟨rfl, hS⟩
              case rest =>
                obtain ⟨rfl, bx⟩ := hcut
                have hown := ownsRow_kept hown bx (Nat.le_refl _)
                have hbel := hbel.trans (bx.mono hzr)
                have hzr := HSZ.out _ hbel
                clear bx f0 f1 g1 g2 T1 tg hbw hR
                cases R
                · have hkc : k ≠ c := by
                    intro h
                    have := HRR.out
                    rw [decide_eq_true h] at this
                    exact Bool.noConfusion this
                  go_wp2_with fail
                  go_roundw
                  case rel => exact ⟨k + 1, by omega, by omega, rfl, rfl, by go_num, hown, hbel⟩
                  case measure => first | (simp [intOf]; done) | (simp [intOf]; omega)
                · have hkc : k = c := of_decide_eq_true HRR.out.symm
                  subst hkc
                  go_wp2_with (at_builtin; refine wpList_append_own _ rfl _ _ 25 rfl Z 3 i0 (.int .i64 0) 1 8 Try.underlying25 hi hi0 hi1 hi2 rfl (by decide) _ _ _ rfl (hown.alloc _) ⟨wc.heap.size, 0, none⟩ 1 1 [.int .i64 (k : Int)] rfl rfl ?B1 ?B2 ?B3 ?B4 ?B5 ?_)
                  try case B1 =>
                    have := World.news_of_block (cs := #[.int .i64 (k : Int)]) (t := 3) (fr := (0, 0)) (heap_alloc_new wc (.cells #[.int .i64 (k : Int)] 3))
                    simpa using this
                  case B2 => simp [Value.oneCell']
                  case B3 => unfold maxLen; omega
                  case B4 => omega
                  case B5 => first | omega | (simp; omega)
                  intro v' w2 hown1 hgrow _
                  have hb3 : Below Z wc w2 := (((Below.refl Z wc).alloc hzr _).grown hgrow (by simp; omega) (fun q hq => (hown.lt q hq).1))
                  have hb2 := hbel.trans hb3
                  clear hgrow hown
                  go_wp2_with fail
                  go_roundw
                  case rel =>
                    refine ⟨k, xs ++ [k], hc2, rfl, ?_, HFN, hb2, by rw [List.length_append]; simp; omega⟩
                    rw [natV_snoc, List.length_append]; exact hown1
                  case measure => first | (simp [intOf]; done) | (simp [intOf]; omega)
          · have hx : a = e := by omega
            have HFN : Hid (xs = stepsN nx e) := Lib.hid (by
              rw [← HFU.out, hx, walkN_end, List.append_nil])
            have aD : decide ((a : Int) < (e : Int)) = false := by simp; omega
            clear hx
            go_wp2_with fail
            refine bodyPost_ret (by simp [results, Try.results7, go_sem]; try rfl) rfl ?_
            refine ⟨⟨_, rfl, ?_⟩, by rw [HX.out]; exact HBX.out _ hbel⟩
            rw [HSL.out, ← HFN.out]
            exact nat_nums hown
      · have hex : ∃ j, j < n ∧ gapAt rs p q j = true := by
          apply Classical.byContradiction
          intro h
          exact hall (fun j hj => by
            cases hg : gapAt rs p q j with
            | false => rfl
            | true => exact absurd ⟨j, hj, hg⟩ h)
        obtain ⟨j, hj, hg⟩ := hex
        obtain ⟨e1, e2⟩ := HF1.out j hj hg
        subst e1 e2
        have hj0 : 0 < j := by
          rcases Nat.eq_zero_or_pos j with h | h
          · subst h; exact absurd hg (by unfold gapAt; simp)
          · exact h
        have hg2 : gapB (rs.getD (j - 1) rung0) (rs.getD (j - 1 + 1) rung0) p q = true := by
          unfold gapAt at hg
          rw [decide_eq_true hj0, Bool.true_and] at hg
          rwa [show j - 1 + 1 = j by omega]
        have hfar := tabR_far rs p q e (j - 1) (by have := HNE.out; omega) hg2 HMO.out e (Nat.le_refl _) 0 (by omega) (Nat.zero_le _)
        have s0 : wr.cell? ⟨g, 0, none⟩ = some (.int .i64 1000) := by have := tg.c 0 (by omega); rwa [hfar] at this
        have i0n : (0 : Int) < (n : Int) := by omega
        clear hall hg hg2 hfar
        go_wp2_with fail
        refine bodyPost_ret (by simp [results, Try.results7, go_sem]; try rfl) rfl ?_
        exact ⟨⟨_, rfl, .inl ⟨_, _, rfl, rfl⟩⟩, by rw [HX.out]; exact hbr⟩
    | succ i =>
      have z0 : ((i + 1 : Nat) : Int) - 1 = (i : Int) := by omega
      rw [z0]
      have HST := Lib.hid (tabR_step rs p q e i (by omega))
      obtain ⟨t, ht⟩ : ∃ t, tabR rs p q e (e - (i + 1)) = t := ⟨_, rfl⟩
      rw [ht] at HST tg
      have HTL : Hid (∀ k, t k ≤ 1000) := Lib.hid (by rw [← ht]; exact tabR_le rs p q e _)
      clear ht z0
      have hi : i < n := by have := HNE.out; omega
      have i1 : (i : Int) < (n : Int) := by omega
      have s1 := tg.c i hi
      have s2 := tg.f i
      have wi1 : IntKind.i64.wrap ((i : Int) + 1) = (i : Int) + 1 := IntWalk.i64_in _ ⟨by omega, by omega⟩
      go_wp2_with fail
      go_loopw [10] (fun v10 wx => ∃ m : Nat, m ≤ e - i ∧ v10 = .int .i64 ((i + 1 + m : Nat) : Int) ∧ TbAt wx g n (updN t i (minR t rs p q i m)) ∧ Two wx X p q ∧ Below X w wx) (fun v10 _ => n - (intOf v10).toNat)
      case atStart => exact ⟨0, Nat.zero_le _, by go_num, tg.set i 1000 _ hi rfl, T1.other (by omega), hbr.setCell (p := ⟨g, i, none⟩) (by show X ≤ g; omega) _⟩
      case round =>
        clear tg T1 hbr s1 s2
        obtain ⟨m, hm, rfl, tg, T1, hbr⟩ := hrel
        by_cases hk : i + 1 + m < n
        · obtain ⟨k, hke⟩ : ∃ k, i + 1 + m = k := ⟨_, rfl⟩
          have HKE := Lib.hid hke
          have HMN : Hid (minR t rs p q i (m + 1) = if gapB (rs.getD i rung0) (rs.getD k rung0) p q = true then minR t rs p q i m else min (minR t rs p q i m) (t k + 1)) := Lib.hid (by rw [minR, hke])
          rw [hke] at hk ⊢
          have hki : k ≠ i := by omega
          have hik : i < k := by omega
          have hmn : m < e - i := by have := HNE.out; omega
          clear hke
          obtain ⟨G, hG⟩ : ∃ G, gapB (rs.getD i rung0) (rs.getD k rung0) p q = G := ⟨_, rfl⟩
          rw [hG] at HMN
          have HCA := Lib.hid (fun W' => HNA.out W' i k hi hk)
          rw [hG] at HCA
          have f0 := HCC.out i hi
          have f1 := HCC.out k hk
          rw [← hbr.cell (p := ⟨b, off + i * 4 + 1, none⟩) hbX] at f0
          rw [← hbr.cell (p := ⟨b, off + k * 4 + 1, none⟩) hbX] at f1
          obtain ⟨x, hx⟩ : ∃ x, (rs.getD i rung0).ra = x := ⟨_, rfl⟩
          obtain ⟨y, hy⟩ : ∃ y, (rs.getD k rung0).ra = y := ⟨_, rfl⟩
          rw [hx] at HCA f0
          rw [hy] at HCA f1
          obtain ⟨M, hM⟩ : ∃ M, minR t rs p q i m = M := ⟨_, rfl⟩
          have hM5 : M ≤ 1000 := by rw [← hM]; exact minR_le _ _ _ _ _ _
          have htk := HTL.out k
          rw [hM] at tg HMN
          have kI : (k : Int) < (n : Int) := by omega
          have kN : (0 : Int) ≤ (k : Int) := by omega
          have wk1 : IntKind.i64.wrap ((k : Int) + 1) = (k : Int) + 1 := IntWalk.i64_in _ ⟨by omega, by omega⟩
          have wt1 : IntKind.i64.wrap ((t k : Int) + 1) = (t k : Int) + 1 := IntWalk.i64_in _ ⟨by omega, by omega⟩
          have hbz : b < wr.heap.size := by have := hbr.size; have := HX.out; omega
          clear hG hx hy hM
          go_upto_region 16 with fail
          go_cut [57] (fun s57 wx => s57 = .bool (!G) ∧ Below wr.heap.size wr wx)
          case first =>
            have k0 := T1.c0; have k1 := T1.c1; have kl := T1.lt
            clear T1 tg HMN
            refine wp_region_noPanic ?_
            refine wp_region_held_drew (S := fun w' => Below wr.heap.size wr w') (by kernel_rfl) ?hS0 (fun hHeld => ?_)
            case hS0 => exact (Below.refl _ wr).drew
            have hS : Below wr.heap.size wr wr.drew := (Below.refl _ wr).drew
            clear hHeld
            generalize wr.drew = wd at *
            refine wpAnyH_take (i := 0) (v := ?_) rfl (by kernel_rfl) (by kernel_rfl) (by kernel_rfl) (fun _ _ _ h => h) (Or.inl ⟨by kernel_rfl, ?hy⟩) (by assumption) ?_
            case hy => (intro wq hSw; have q0 := (hSw.cell (p := ⟨X, 0, none⟩) kl).trans k0; have q1 := (hSw.cell (p := ⟨X, 1, none⟩) kl).trans k1; have u0 := (hSw.cell (p := ⟨b, off + i * 4 + 1, none⟩) hbz).trans f0; have u1 := (hSw.cell (p := ⟨b, off + k * 4 + 1, none⟩) hbz).trans f1; have s1 := Nat.lt_of_lt_of_le kl hSw.size; have s2 := Nat.lt_of_lt_of_le hbz hSw.size; go_simp; try (with_reducible rfl))
            try simp only [Act.put, List.setIfInBounds_toArray, List.set_cons_zero, List.set_cons_succ]
            refine wpAnyH_take (i := 1) (v := ?_) rfl (by kernel_rfl) (by kernel_rfl) (by kernel_rfl) (fun _ _ _ h => h) (Or.inl ⟨by kernel_rfl, ?hy⟩) (by assumption) ?_
            case hy => (intro wq hSw; have q0 := (hSw.cell (p := ⟨X, 0, none⟩) kl).trans k0; have q1 := (hSw.cell (p := ⟨X, 1, none⟩) kl).trans k1; have u0 := (hSw.cell (p := ⟨b, off + i * 4 + 1, none⟩) hbz).trans f0; have u1 := (hSw.cell (p := ⟨b, off + k * 4 + 1, none⟩) hbz).trans f1; have s1 := Nat.lt_of_lt_of_le kl hSw.size; have s2 := Nat.lt_of_lt_of_le hbz hSw.size; go_simp; try (with_reducible rfl))
            try simp only [Act.put, List.setIfInBounds_toArray, List.set_cons_zero, List.set_cons_succ]
            refine wpAnyH_take (i := 2) (v := ?_) rfl (by kernel_rfl) (by kernel_rfl) (by kernel_rfl) (fun _ _ _ h => h) (Or.inl ⟨by kernel_rfl, ?hy⟩) (by assumption) ?_
            case hy => (intro wq hSw; have q0 := (hSw.cell (p := ⟨X, 0, none⟩) kl).trans k0; have q1 := (hSw.cell (p := ⟨X, 1, none⟩) kl).trans k1; have u0 := (hSw.cell (p := ⟨b, off + i * 4 + 1, none⟩) hbz).trans f0; have u1 := (hSw.cell (p := ⟨b, off + k * 4 + 1, none⟩) hbz).trans f1; have s1 := Nat.lt_of_lt_of_le kl hSw.size; have s2 := Nat.lt_of_lt_of_le hbz hSw.size; go_simp; try (with_reducible rfl))
            try simp only [Act.put, List.setIfInBounds_toArray, List.set_cons_zero, List.set_cons_succ]
            refine wpAnyH_take (i := 3) (v := ?_) rfl (by kernel_rfl) (by kernel_rfl) (by kernel_rfl) (fun _ _ _ h => h) (Or.inl ⟨by kernel_rfl, ?hy⟩) (by assumption) ?_
            case hy => (intro wq hSw; have q0 := (hSw.cell (p := ⟨X, 0, none⟩) kl).trans k0; have q1 := (hSw.cell (p := ⟨X, 1, none⟩) kl).trans k1; have u0 := (hSw.cell (p := ⟨b, off + i * 4 + 1, none⟩) hbz).trans f0; have u1 := (hSw.cell (p := ⟨b, off + k * 4 + 1, none⟩) hbz).trans f1; have s1 := Nat.lt_of_lt_of_le kl hSw.size; have s2 := Nat.lt_of_lt_of_le hbz hSw.size; go_simp; try (with_reducible rfl))
            try simp only [Act.put, List.setIfInBounds_toArray, List.set_cons_zero, List.set_cons_succ]
            refine wpAnyH_take (i := 4) (v := ?_) rfl (by kernel_rfl) (by kernel_rfl) (by kernel_rfl) (fun _ _ _ h => h) (Or.inl ⟨by kernel_rfl, ?hy⟩) (by assumption) ?_
            case hy => (intro wq hSw; have q0 := (hSw.cell (p := ⟨X, 0, none⟩) kl).trans k0; have q1 := (hSw.cell (p := ⟨X, 1, none⟩) kl).trans k1; have u0 := (hSw.cell (p := ⟨b, off + i * 4 + 1, none⟩) hbz).trans f0; have u1 := (hSw.cell (p := ⟨b, off + k * 4 + 1, none⟩) hbz).trans f1; have s1 := Nat.lt_of_lt_of_le kl hSw.size; have s2 := Nat.lt_of_lt_of_le hbz hSw.size; go_simp; try (with_reducible rfl))
            try simp only [Act.put, List.setIfInBounds_toArray, List.set_cons_zero, List.set_cons_succ]
            refine wpAnyH_take (i := 5) (v := ?_) rfl (by kernel_rfl) (by kernel_rfl) (by kernel_rfl) (fun _ _ _ h => h) (Or.inl ⟨by kernel_rfl, ?hy⟩) (by assumption) ?_
            case hy => (intro wq hSw; have q0 := (hSw.cell (p := ⟨X, 0, none⟩) kl).trans k0; have q1 := (hSw.cell (p := ⟨X, 1, none⟩) kl).trans k1; have u0 := (hSw.cell (p := ⟨b, off + i * 4 + 1, none⟩) hbz).trans f0; have u1 := (hSw.cell (p := ⟨b, off + k * 4 + 1, none⟩) hbz).trans f1; have s1 := Nat.lt_of_lt_of_le kl hSw.size; have s2 := Nat.lt_of_lt_of_le hbz hSw.size; go_simp; try (with_reducible rfl))
            try simp only [Act.put, List.setIfInBounds_toArray, List.set_cons_zero, List.set_cons_succ]
            refine wpAnyH_take (i := 6) (v := ?_) rfl (by kernel_rfl) (by kernel_rfl) (by kernel_rfl) (fun _ _ _ h => h) (Or.inl ⟨by kernel_rfl, ?hy⟩) (by assumption) ?_
            case hy => (intro wq hSw; have q0 := (hSw.cell (p := ⟨X, 0, none⟩) kl).trans k0; have q1 := (hSw.cell (p := ⟨X, 1, none⟩) kl).trans k1; have u0 := (hSw.cell (p := ⟨b, off + i * 4 + 1, none⟩) hbz).trans f0; have u1 := (hSw.cell (p := ⟨b, off + k * 4 + 1, none⟩) hbz).trans f1; have s1 := Nat.lt_of_lt_of_le kl hSw.size; have s2 := Nat.lt_of_lt_of_le hbz hSw.size; go_simp; try (with_reducible rfl))
            try simp only [Act.put, List.setIfInBounds_toArray, List.set_cons_zero, List.set_cons_succ]
            refine wpAnyH_take (i := 7) (v := ?_) rfl (by kernel_rfl) (by kernel_rfl) (by kernel_rfl) (fun _ _ _ h => h) (Or.inl ⟨by kernel_rfl, ?hy⟩) (by assumption) ?_
            case hy => (intro wq hSw; have q0 := (hSw.cell (p := ⟨X, 0, none⟩) kl).trans k0; have q1 := (hSw.cell (p := ⟨X, 1, none⟩) kl).trans k1; have u0 := (hSw.cell (p := ⟨b, off + i * 4 + 1, none⟩) hbz).trans f0; have u1 := (hSw.cell (p := ⟨b, off + k * 4 + 1, none⟩) hbz).trans f1; have s1 := Nat.lt_of_lt_of_le kl hSw.size; have s2 := Nat.lt_of_lt_of_le hbz hSw.size; go_simp; try (with_reducible rfl))
            try simp only [Act.put, List.setIfInBounds_toArray, List.set_cons_zero, List.set_cons_succ]
            refine wpAnyH_take (i := 8) (v := ?_) rfl (by kernel_rfl) (by kernel_rfl) (by kernel_rfl) (fun _ _ _ h => h) (Or.inl ⟨by kernel_rfl, ?hy⟩) (by assumption) ?_
            case hy => (intro wq hSw; have q0 := (hSw.cell (p := ⟨X, 0, none⟩) kl).trans k0; have q1 := (hSw.cell (p := ⟨X, 1, none⟩) kl).trans k1; have u0 := (hSw.cell (p := ⟨b, off + i * 4 + 1, none⟩) hbz).trans f0; have u1 := (hSw.cell (p := ⟨b, off + k * 4 + 1, none⟩) hbz).trans f1; have s1 := Nat.lt_of_lt_of_le kl hSw.size; have s2 := Nat.lt_of_lt_of_le hbz hSw.size; go_simp; try (with_reducible rfl))
            try simp only [Act.put, List.setIfInBounds_toArray, List.set_cons_zero, List.set_cons_succ]
            refine wpAnyH_take (i := 9) (v := ?_) rfl (by kernel_rfl) (by kernel_rfl) (by kernel_rfl) (fun _ _ _ h => h) (Or.inl ⟨by kernel_rfl, ?hy⟩) (by assumption) ?_
            case hy => (intro wq hSw; have q0 := (hSw.cell (p := ⟨X, 0, none⟩) kl).trans k0; have q1 := (hSw.cell (p := ⟨X, 1, none⟩) kl).trans k1; have u0 := (hSw.cell (p := ⟨b, off + i * 4 + 1, none⟩) hbz).trans f0; have u1 := (hSw.cell (p := ⟨b, off + k * 4 + 1, none⟩) hbz).trans f1; have s1 := Nat.lt_of_lt_of_le kl hSw.size; have s2 := Nat.lt_of_lt_of_le hbz hSw.size; go_simp; try (with_reducible rfl))
            try simp only [Act.put, List.setIfInBounds_toArray, List.set_cons_zero, List.set_cons_succ]
            refine wpAnyH_take (i := 10) (v := ?_) rfl (by kernel_rfl) (by kernel_rfl) (by kernel_rfl) (fun _ _ _ h => h) (Or.inl ⟨by kernel_rfl, ?hy⟩) (by assumption) ?_
            case hy => (intro wq hSw; have q0 := (hSw.cell (p := ⟨X, 0, none⟩) kl).trans k0; have q1 := (hSw.cell (p := ⟨X, 1, none⟩) kl).trans k1; have u0 := (hSw.cell (p := ⟨b, off + i * 4 + 1, none⟩) hbz).trans f0; have u1 := (hSw.cell (p := ⟨b, off + k * 4 + 1, none⟩) hbz).trans f1; have s1 := Nat.lt_of_lt_of_le kl hSw.size; have s2 := Nat.lt_of_lt_of_le hbz hSw.size; go_simp; try (with_reducible rfl))
            try simp only [Act.put, List.setIfInBounds_toArray, List.set_cons_zero, List.set_cons_succ]
            refine wpAnyH_ready (rs := [11]) (by kernel_rfl) (by simp) ?_
            refine AllReadyH.cons rfl (fun K hK => ?_) AllReadyH.nil
            go_simp
            refine (HCA.out _).mono ?_; rintro e' w5 ⟨rfl, b3⟩; have hS : Below wr.heap.size wr w5 := hS.trans (b3.mono hS.size)
            refine hK.out _ _ hS (fun hHeld => ?_)
            clear hK K hHeld
            try simp only [Act.put, List.setIfInBounds_toArray, List.set_cons_zero, List.set_cons_succ]
            refine wpAnyH_done (by kernel_rfl) ?_ _
            refine NoPanic.normal ?_
            try go_simp
            go_wp2_with fail
            go_meet
            exact ⟨rfl, hS⟩
          case rest =>
            obtain ⟨rfl, bx⟩ := hcut
            have tg := tg.below bx tg.lt
            have T1 := T1.below bx T1.lt
            have hbr := hbr.trans (bx.mono (by have := hbr.size; have := HX.out; omega))
            clear bx f0 f1 hbz HCA
            cases G
            rotate_left
            · have e1 : minR t rs p q i (m + 1) = M := by rw [HMN.out]; rfl
              go_wp2_with fail
              go_roundw
              case rel => exact ⟨m + 1, by omega, by have := HKE.out; go_num, by rw [e1]; exact tg, T1, hbr⟩
              case measure => first | (simp [intOf]; done) | (simp [intOf]; omega)
            · have e1 : Hid (minR t rs p q i (m + 1) = min M (t k + 1)) := Lib.hid (by rw [HMN.out]; rfl)
              go_upto_region 17 with fail
              have s1 := tg.c i hi
              have s2 := tg.f i
              have s3 := tg.c k hk
              rw [updN_self] at s1
              rw [updN_ne _ _ _ _ hki] at s3
              have hmin : min (M : Int) ((t k : Int) + 1) = ((min M (t k + 1) : Nat) : Int) := by omega
              go_region
              go_wp2_with fail
              go_roundw
              case rel => exact ⟨m + 1, by omega, by have := HKE.out; go_num, by rw [e1.out]; have h := tg.set i (min M (t k + 1)) ((min M (t k + 1) : Nat) : Int) hi rfl; rw [updN_same] at h; exact h.drew', (T1.other (by omega)).drew, (hbr.setCell (p := ⟨g, i, none⟩) (by show X ≤ g; omega) _).drew⟩
              case measure => first | (simp [intOf]; done) | (simp [intOf]; omega)
        · have hme : m = e - i := by have := HNE.out; omega
          have kD : decide (((i + 1 + m : Nat) : Int) < (n : Int)) = false := by simp; omega
          have kD2 : decide (i + 1 + m < n) = false := by simp; omega
          have HTT : Hid (tabR rs p q e (e - i) = updN t i (minR t rs p q i m)) := Lib.hid (by rw [HST.out, hme])
          clear hme
          go_wp2_with fail
          go_roundw
          case rel => exact ⟨i, by omega, by go_num, by rw [HTT.out]; exact tg, T1, hbr⟩
          case measure => first | (simp [intOf]; done) | (simp [intOf]; omega)

end Go.Proofs.Ytinckidkophobaa

/- Steps, Wrong, of both: whatever comes in. -/
namespace Go.Proofs.Ytinckidkophobaa
set_option linter.unusedVariables false
set_option linter.unusedSimpArgs false
open Go.RowKit Go.Shelf Go.Deep

theorem rsteps_fault (u : Value) (rs : List Rung) (p q : Int) (w : World) (hu : Rungs w u rs) (hwf : ∀ y ∈ rs, y.nm.size ≤ maxLen) (h0 : stF rs p q ≠ 0) :
    Calls Try.prog 7 #[u, .agg #[.int .i64 p, .int .i64 q]] w fun r w' => r = .returned (.tuple #[.slice none 0 0, .bool false, .int .i64 (stF rs p q)]) ∧ Below w.heap.size w w' := by
  have HC : Hid (∀ W, Below w.heap.size w W → Calls Try.prog 23 #[u] W fun e w' => e = .returned (.int .i64 (rgF rs)) ∧ Below W.heap.size W w') := Lib.hid (fun W hb => rchkr_any _ rs W (hu.below hb (Nat.le_refl _)) hwf)
  have HIS := Lib.hid (fun W => isStep_any p q W)
  have e0 := stF_ref rs p q
  obtain ⟨F, hF⟩ : ∃ F, stF rs p q = F := ⟨_, rfl⟩
  obtain ⟨G, hG⟩ : ∃ G, rgF rs = G := ⟨_, rfl⟩
  obtain ⟨I, hI⟩ : ∃ I, isStB p q = I := ⟨_, rfl⟩
  rw [hF, hG, hI] at e0
  rw [hF] at h0 ⊢
  rw [hG] at HC
  rw [hI] at HIS
  have b1 : Below w.heap.size w (w.alloc (.cells #[.int .i64 p, .int .i64 q] 24)) := (Below.refl _ w).alloc (Nat.le_refl _) _
  have T1 := Two.new w p q 24
  have HE := Lib.hid e0
  clear hF hG hI hu hwf e0
  by_cases hg : G = 0
  · have e1 : I = false := by
      cases I
      · rfl
      · have := HE.out; rw [if_pos hg, if_pos rfl] at this; exact absurd this h0
    have e2 : F = 1 := by have := HE.out; rw [if_pos hg, e1] at this; exact this
    subst hg e1 e2
    go_enter Try.func7, Try.ntmps7
    go_upto_region 1 with fail
    generalize w.alloc (.cells #[.int .i64 p, .int .i64 q] 24) = W at *
    go_wp2_with fail
    refine (HC.out _ b1).mono ?_; rintro e w3 ⟨rfl, b3⟩
    have T1 := T1.below b3 T1.lt
    have b1 := b1.trans (b3.mono b1.size)
    have k0 := T1.c0; have k1 := T1.c1; have kl := T1.lt
    clear T1 b3
    go_wp2_with fail
    refine (HIS.out _).mono ?_; rintro e w4 ⟨rfl, b4⟩
    clear k0 k1 kl
    go_wp2_with fail
    refine bodyPost_ret (by simp [results, Try.results7, go_sem]; try rfl) rfl ?_
    exact ⟨rfl, b1.trans (b4.mono b1.size)⟩
  · have hne : (G == 0) = false := by simp; exact hg
    have hne2 : (G != 0) = true := by simp; exact hg
    have e2 : F = G := by have := HE.out; rw [if_neg hg] at this; exact this
    subst e2
    clear hg h0
    go_enter Try.func7, Try.ntmps7
    go_upto_region 1 with fail
    generalize w.alloc (.cells #[.int .i64 p, .int .i64 q] 24) = W at *
    clear T1
    go_wp2_with fail
    refine (HC.out _ b1).mono ?_; rintro e w3 ⟨rfl, b3⟩
    go_wp2_with fail
    refine bodyPost_ret (by simp [results, Try.results7, go_sem]; try rfl) rfl ?_
    exact ⟨rfl, b1.trans (b3.mono b1.size)⟩
theorem rwrong_fault (u : Value) (rs : List Rung) (p q : Int) (w : World) (hu : Rungs w u rs) (hwf : ∀ y ∈ rs, y.nm.size ≤ maxLen) (h0 : stF rs p q ≠ 0) :
    Calls Try.prog 12 #[u, .agg #[.int .i64 p, .int .i64 q]] w fun r w' => r = .returned (.tuple #[.slice none 0 0, .int .i64 (stF rs p q)]) ∧ Below w.heap.size w w' := by
  have HC : Hid (∀ W, Below w.heap.size w W → Calls Try.prog 23 #[u] W fun e w' => e = .returned (.int .i64 (rgF rs)) ∧ Below W.heap.size W w') := Lib.hid (fun W hb => rchkr_any _ rs W (hu.below hb (Nat.le_refl _)) hwf)
  have HIS := Lib.hid (fun W => isStep_any p q W)
  have e0 := stF_ref rs p q
  obtain ⟨F, hF⟩ : ∃ F, stF rs p q = F := ⟨_, rfl⟩
  obtain ⟨G, hG⟩ : ∃ G, rgF rs = G := ⟨_, rfl⟩
  obtain ⟨I, hI⟩ : ∃ I, isStB p q = I := ⟨_, rfl⟩
  rw [hF, hG, hI] at e0
  rw [hF] at h0 ⊢
  rw [hG] at HC
  rw [hI] at HIS
  have b1 : Below w.heap.size w (w.alloc (.cells #[.int .i64 p, .int .i64 q] 24)) := (Below.refl _ w).alloc (Nat.le_refl _) _
  have T1 := Two.new w p q 24
  have HE := Lib.hid e0
  clear hF hG hI hu hwf e0
  by_cases hg : G = 0
  · have e1 : I = false := by
      cases I
      · rfl
      · have := HE.out; rw [if_pos hg, if_pos rfl] at this; exact absurd this h0
    have e2 : F = 1 := by have := HE.out; rw [if_pos hg, e1] at this; exact this
    subst hg e1 e2
    go_enter Try.func12, Try.ntmps12
    go_upto_region 1 with fail
    generalize w.alloc (.cells #[.int .i64 p, .int .i64 q] 24) = W at *
    go_wp2_with fail
    refine (HC.out _ b1).mono ?_; rintro e w3 ⟨rfl, b3⟩
    have T1 := T1.below b3 T1.lt
    have b1 := b1.trans (b3.mono b1.size)
    have k0 := T1.c0; have k1 := T1.c1; have kl := T1.lt
    clear T1 b3
    go_wp2_with fail
    refine (HIS.out _).mono ?_; rintro e w4 ⟨rfl, b4⟩
    clear k0 k1 kl
    go_wp2_with fail
    go_ret2
    exact ⟨rfl, b1.trans (b4.mono b1.size)⟩
  · have hne : (G == 0) = false := by simp; exact hg
    have hne2 : (G != 0) = true := by simp; exact hg
    have e2 : F = G := by have := HE.out; rw [if_neg hg] at this; exact this
    subst e2
    clear hg h0
    go_enter Try.func12, Try.ntmps12
    go_upto_region 1 with fail
    generalize w.alloc (.cells #[.int .i64 p, .int .i64 q] 24) = W at *
    clear T1
    go_wp2_with fail
    refine (HC.out _ b1).mono ?_; rintro e w3 ⟨rfl, b3⟩
    go_wp2_with fail
    go_ret2
    exact ⟨rfl, b1.trans (b3.mono b1.size)⟩
theorem wrong_fault (u : Value) (rs : List Rung) (p q : Int) (w : World) (hu : Rungs w u rs) (hwf : ∀ y ∈ rs, y.nm.size ≤ maxLen) (h0 : stF rs p q ≠ 0) :
    Calls Try.prog 11 #[u, .agg #[.int .i64 p, .int .i64 q]] w fun r w' => r = .returned (.tuple #[.slice none 0 0, .int .i64 (stF rs p q)]) ∧ Below w.heap.size w w' := by
  have HC : Hid (∀ W, Below w.heap.size w W → Calls Try.prog 20 #[u, .agg #[.int .i64 p, .int .i64 q]] W fun e w' => e = .returned (.int .i64 (stF rs p q)) ∧ Below W.heap.size W w') := Lib.hid (fun W hb => checkStep_any u rs p q W (hu.below hb (Nat.le_refl _)) hwf)
  obtain ⟨F, hF⟩ : ∃ F, stF rs p q = F := ⟨_, rfl⟩
  rw [hF] at HC h0 ⊢
  have hne : (F == 0) = false := by simp; exact h0
  have hne2 : (F != 0) = true := by simp; exact h0
  have b1 : Below w.heap.size w (w.alloc (.cells #[.int .i64 p, .int .i64 q] 24)) := (Below.refl _ w).alloc (Nat.le_refl _) _
  have T1 := Two.new w p q 24
  clear hF hu hwf h0
  go_enter Try.func11, Try.ntmps11
  go_upto_region 1 with fail
  generalize w.alloc (.cells #[.int .i64 p, .int .i64 q] 24) = W at *
  have k0 := T1.c0; have k1 := T1.c1; have kl := T1.lt
  clear T1
  go_wp2_with fail
  refine (HC.out _ b1).mono ?_; rintro e w3 ⟨rfl, b3⟩
  clear k0 k1 kl
  go_wp2_with fail
  go_ret2
  exact ⟨rfl, b1.trans (b3.mono b1.size)⟩
theorem rsteps_none (a : Option Addr) (cap : Nat) (p q : Int) (w : World) (hu : Rungs w (.slice a 0 cap) []) (h0 : stF [] p q = 0) :
    Calls Try.prog 7 #[.slice a 0 cap, .agg #[.int .i64 p, .int .i64 q]] w fun r w' => r = .returned (.tuple #[.slice none 0 0, .bool false, .int .i64 0]) ∧ Below w.heap.size w w' := by
  have hst := (stF_zero [] p q).1 h0
  have hst0 : isStB p q = true := by
    have e := stF_ref [] p q
    rw [h0, if_pos ((rgF_zero []).2 hst.ok)] at e
    by_cases h : isStB p q = true
    · exact h
    · rw [if_neg h] at e; exact absurd e (by decide)
  have HC : Hid (∀ W, Below w.heap.size w W → Calls Try.prog 23 #[.slice a 0 cap] W fun e w' => e = .returned (.int .i64 0) ∧ Below W.heap.size W w') := Lib.hid (fun W hb => by rw [← (rgF_zero []).2 hst.ok]; exact rchkr_any _ [] W (hu.below hb (Nat.le_refl _)) (by simp))
  have HIS : Hid (∀ W, Calls Try.prog 24 #[.agg #[.int .i64 p, .int .i64 q]] W fun e w' => e = .returned (.bool true) ∧ Below W.heap.size W w') := Lib.hid (fun W => by rw [← hst0]; exact isStep_any p q W)
  have b1 : Below w.heap.size w (w.alloc (.cells #[.int .i64 p, .int .i64 q] 24)) := (Below.refl _ w).alloc (Nat.le_refl _) _
  have T1 := Two.new w p q 24
  clear hu h0 hst hst0
  go_enter Try.func7, Try.ntmps7
  go_upto_region 1 with fail
  generalize w.alloc (.cells #[.int .i64 p, .int .i64 q] 24) = W at *
  have k0 := T1.c0; have k1 := T1.c1; have kl := T1.lt
  go_wp2_with fail
  refine (HC.out _ b1).mono ?_; rintro e w3 ⟨rfl, b3⟩
  have T1 := T1.below b3 T1.lt
  have b1 := b1.trans (b3.mono b1.size)
  clear k0 k1 kl
  have k0 := T1.c0; have k1 := T1.c1; have kl := T1.lt
  go_wp2_with fail
  refine (HIS.out _).mono ?_; rintro e w4 ⟨rfl, b4⟩
  have b1 := b1.trans (b4.mono b1.size)
  clear k0 k1 kl
  clear T1
  go_wp2_with fail
  refine bodyPost_ret (by simp [results, Try.results7, go_sem]; try rfl) rfl ?_
  exact ⟨rfl, b1⟩
theorem rwrong_none (a : Option Addr) (cap : Nat) (p q : Int) (w : World) (hu : Rungs w (.slice a 0 cap) []) (h0 : stF [] p q = 0) :
    Calls Try.prog 12 #[.slice a 0 cap, .agg #[.int .i64 p, .int .i64 q]] w fun r w' => r = .returned (.tuple #[.slice none 0 0, .int .i64 0]) ∧ Below w.heap.size w w' := by
  have hst := (stF_zero [] p q).1 h0
  have hst0 : isStB p q = true := by
    have e := stF_ref [] p q
    rw [h0, if_pos ((rgF_zero []).2 hst.ok)] at e
    by_cases h : isStB p q = true
    · exact h
    · rw [if_neg h] at e; exact absurd e (by decide)
  have HC : Hid (∀ W, Below w.heap.size w W → Calls Try.prog 23 #[.slice a 0 cap] W fun e w' => e = .returned (.int .i64 0) ∧ Below W.heap.size W w') := Lib.hid (fun W hb => by rw [← (rgF_zero []).2 hst.ok]; exact rchkr_any _ [] W (hu.below hb (Nat.le_refl _)) (by simp))
  have HIS : Hid (∀ W, Calls Try.prog 24 #[.agg #[.int .i64 p, .int .i64 q]] W fun e w' => e = .returned (.bool true) ∧ Below W.heap.size W w') := Lib.hid (fun W => by rw [← hst0]; exact isStep_any p q W)
  have b1 : Below w.heap.size w (w.alloc (.cells #[.int .i64 p, .int .i64 q] 24)) := (Below.refl _ w).alloc (Nat.le_refl _) _
  have T1 := Two.new w p q 24
  clear hu h0 hst hst0
  go_enter Try.func12, Try.ntmps12
  go_upto_region 1 with fail
  generalize w.alloc (.cells #[.int .i64 p, .int .i64 q] 24) = W at *
  have k0 := T1.c0; have k1 := T1.c1; have kl := T1.lt
  go_wp2_with fail
  refine (HC.out _ b1).mono ?_; rintro e w3 ⟨rfl, b3⟩
  have T1 := T1.below b3 T1.lt
  have b1 := b1.trans (b3.mono b1.size)
  clear k0 k1 kl
  have k0 := T1.c0; have k1 := T1.c1; have kl := T1.lt
  go_wp2_with fail
  refine (HIS.out _).mono ?_; rintro e w4 ⟨rfl, b4⟩
  have b1 := b1.trans (b4.mono b1.size)
  clear k0 k1 kl
  clear T1
  go_wp2_with fail
  refine wp_loop_rounds 1 ?_
  rw [rounds_succ]
  go_wp2_with fail
  go_ret2
  exact ⟨rfl, b1⟩

end Go.Proofs.Ytinckidkophobaa

/- Steps, Wrong, of both: whatever comes in: what they answer. -/
namespace Go.Proofs.Ytinckidkophobaa
set_option linter.unusedVariables false
set_option linter.unusedSimpArgs false
open Go.RowKit Go.Shelf Go.Deep

theorem wrong_none (a : Option Addr) (cap : Nat) (p q : Int) (w : World) (hu : Rungs w (.slice a 0 cap) []) (h0 : stF [] p q = 0) :
    Calls Try.prog 11 #[.slice a 0 cap, .agg #[.int .i64 p, .int .i64 q]] w fun r w' => r = .returned (.tuple #[.slice none 0 0, .int .i64 0]) ∧ Below w.heap.size w w' := by
  have hst := (stF_zero [] p q).1 h0
  have HC : Hid (∀ W, Below w.heap.size w W → Calls Try.prog 20 #[.slice a 0 cap, .agg #[.int .i64 p, .int .i64 q]] W fun e w' => e = .returned (.int .i64 0) ∧ Below W.heap.size W w') := Lib.hid (fun W hb => by rw [← h0]; exact checkStep_any _ [] p q W (hu.below hb (Nat.le_refl _)) (by simp))
  have b1 : Below w.heap.size w (w.alloc (.cells #[.int .i64 p, .int .i64 q] 24)) := (Below.refl _ w).alloc (Nat.le_refl _) _
  have T1 := Two.new w p q 24
  clear hu h0 hst
  go_enter Try.func11, Try.ntmps11
  go_upto_region 1 with fail
  generalize w.alloc (.cells #[.int .i64 p, .int .i64 q] 24) = W at *
  have k0 := T1.c0; have k1 := T1.c1; have kl := T1.lt
  go_wp2_with fail
  refine (HC.out _ b1).mono ?_; rintro e w3 ⟨rfl, b3⟩
  have T1 := T1.below b3 T1.lt
  have b1 := b1.trans (b3.mono b1.size)
  clear k0 k1 kl
  have k0 := T1.c0; have k1 := T1.c1; have kl := T1.lt
  clear k0 k1 kl
  clear T1
  have kf : (w3.alloc (.cells #[.slice none 0 0] 32)).cell? ⟨w3.heap.size, 0, none⟩ = some (.slice none 0 0) := by rw [World.cell?_alloc_at _ _ _ _ (by simp)]; rfl
  have kz : w3.heap.size < (w3.alloc (.cells #[.slice none 0 0] 32)).heap.size := by simp
  go_wp2_with fail
  refine wp_loop_rounds 1 ?_
  rw [rounds_succ]
  go_wp2_with fail
  go_ret2
  exact ⟨rfl, b1.alloc b1.size _⟩
theorem rSteps_any (u : Value) (rs : List Rung) (p q : Int) (w : World) (hu : Rungs w u rs) (hwf : ∀ y ∈ rs, y.nm.size ≤ maxLen) :
    Calls Try.prog 7 #[u, .agg #[.int .i64 p, .int .i64 q]] w fun r w' => (∃ v, r = .returned (.tuple #[v, .bool (stepsB rs p q), .int .i64 (stF rs p q)]) ∧ NumsC w' v (stepsL rs p q)) ∧ Below w.heap.size w w' := by
  by_cases h0 : stF rs p q = 0
  · by_cases hl : rs.length = 0
    · have : rs = [] := List.length_eq_zero_iff.1 hl
      subst this
      obtain ⟨a, cap, rfl⟩ := hu.parts
      have e1 : stepsB [] p q = false := by unfold stepsB; simp
      rw [e1, stepsL_none e1, h0]
      refine (rsteps_none a cap p q w hu h0).mono ?_
      rintro r w' ⟨rfl, hb⟩
      exact ⟨⟨_, rfl, .inl ⟨_, _, rfl, rfl⟩⟩, hb⟩
    · obtain ⟨b, off, cap, rfl, hb, -, -⟩ := hu.spot (by omega)
      rw [h0]
      exact rsteps_walk b off rs.length cap (rs.length - 1) rs p q w rfl (Lib.hid (by omega)) hb hu h0 hwf
  · have e1 : stepsB rs p q = false := by unfold stepsB; rw [decide_eq_false h0]; rfl
    rw [e1, stepsL_none e1]
    refine (rsteps_fault u rs p q w hu hwf h0).mono ?_
    rintro r w' ⟨rfl, hb⟩
    exact ⟨⟨_, rfl, .inl ⟨_, _, rfl, rfl⟩⟩, hb⟩
/-- What is wrong with a ladder. -/
def wrongL (rs : List Rung) (p q : Int) : List Pr := if stF rs p q = 0 then flTo (senB rs) rs p q rs.length else []
theorem Wrong_any (u : Value) (rs : List Rung) (p q : Int) (w : World) (hu : Rungs w u rs) (hwf : ∀ y ∈ rs, y.nm.size ≤ maxLen) :
    Calls Try.prog 11 #[u, .agg #[.int .i64 p, .int .i64 q]] w fun r w' => (∃ v, r = .returned (.tuple #[v, .int .i64 (stF rs p q)]) ∧ Pairs w' v (wrongL rs p q)) ∧ Below w.heap.size w w' := by
  by_cases h0 : stF rs p q = 0
  · by_cases hl : rs.length = 0
    · have : rs = [] := List.length_eq_zero_iff.1 hl
      subst this
      obtain ⟨a, cap, rfl⟩ := hu.parts
      rw [wrongL, if_pos h0, h0]
      refine (wrong_none a cap p q w hu h0).mono ?_
      rintro r w' ⟨rfl, hb⟩
      exact ⟨⟨_, rfl, Pairs.nil _⟩, hb⟩
    · obtain ⟨b, off, cap, rfl, hb, h1, h2⟩ := hu.spot (by omega)
      rw [wrongL, if_pos h0, h0]
      refine (wrong_walk b off rs.length cap rs p q w rfl hb hu h0 hwf ⟨h1, h2⟩).mono ?_
      rintro r w' ⟨⟨v, Z, rfl, hv⟩, hb⟩
      exact ⟨⟨_, rfl, Pairs.ofOwn hv⟩, hb⟩
  · rw [wrongL, if_neg h0]
    refine (wrong_fault u rs p q w hu hwf h0).mono ?_
    rintro r w' ⟨rfl, hb⟩
    exact ⟨⟨_, rfl, Pairs.nil _⟩, hb⟩
theorem rWrong_any (u : Value) (rs : List Rung) (p q : Int) (w : World) (hu : Rungs w u rs) (hwf : ∀ y ∈ rs, y.nm.size ≤ maxLen) :
    Calls Try.prog 12 #[u, .agg #[.int .i64 p, .int .i64 q]] w fun r w' => (∃ v, r = .returned (.tuple #[v, .int .i64 (stF rs p q)]) ∧ Pairs w' v (wrongL rs p q)) ∧ Below w.heap.size w w' := by
  by_cases h0 : stF rs p q = 0
  · by_cases hl : rs.length = 0
    · have : rs = [] := List.length_eq_zero_iff.1 hl
      subst this
      obtain ⟨a, cap, rfl⟩ := hu.parts
      rw [wrongL, if_pos h0, h0]
      refine (rwrong_none a cap p q w hu h0).mono ?_
      rintro r w' ⟨rfl, hb⟩
      exact ⟨⟨_, rfl, Pairs.nil _⟩, hb⟩
    · obtain ⟨b, off, cap, rfl, hb, h1, h2⟩ := hu.spot (by omega)
      rw [wrongL, if_pos h0, h0]
      refine (rwrong_walk b off rs.length cap rs p q w rfl hb hu h0 hwf ⟨h1, h2⟩).mono ?_
      rintro r w' ⟨⟨v, Z, rfl, hv⟩, hb⟩
      exact ⟨⟨_, rfl, Pairs.ofOwn hv⟩, hb⟩
  · rw [wrongL, if_neg h0]
    refine (rwrong_fault u rs p q w hu hwf h0).mono ?_
    rintro r w' ⟨rfl, hb⟩
    exact ⟨⟨_, rfl, Pairs.nil _⟩, hb⟩

end Go.Proofs.Ytinckidkophobaa

/- Capped (program): its closure, its fault. -/
namespace Go.Proofs.Ytinckidkophobaa
set_option linter.unusedVariables false
set_option linter.unusedSimpArgs false
open Go.RowKit Go.Shelf Go.Deep

theorem capC_any (x : Rung) (v : Vw) (X : Nat) (w : World) (TV : Thr w X v) :
    Calls Try.prog 32 (#[.agg #[.string x.nm, .int .i64 x.ra, .int .i64 x.he, .int .i64 x.qu]] ++ #[.pointer (some ⟨X, 0, none⟩)]) w fun e w' => e = .returned (.bool (canT v x)) ∧ Below w.heap.size w w' := by
  have FX := Four.new w x 56
  have hb : Below w.heap.size w (w.alloc (.cells #[.string x.nm, .int .i64 x.ra, .int .i64 x.he, .int .i64 x.qu] 56)) := (Below.refl _ w).alloc (Nat.le_refl _) _
  have TV := TV.below hb TV.lt
  have HS := Lib.hid (fun W => canTake_any v x W)
  obtain ⟨R, hR⟩ : ∃ R, canT v x = R := ⟨_, rfl⟩
  rw [hR] at HS ⊢
  clear hR
  go_enter Try.func32, Try.ntmps32
  go_upto_region 1 with fail
  generalize w.alloc (.cells #[.string x.nm, .int .i64 x.ra, .int .i64 x.he, .int .i64 x.qu] 56) = W at *
  have d0 := FX.c0; have d1 := FX.c1; have d2 := FX.c2; have d3 := FX.c3; have dl := FX.lt
  have v0 := TV.c0; have v1 := TV.c1; have v2 := TV.c2; have vl := TV.lt
  go_wp2_with fail
  refine (HS.out _).mono ?_; rintro e w3 ⟨rfl, b3⟩
  go_wp2_with fail
  go_ret
  exact ⟨rfl, hb.trans (b3.mono hb.size)⟩
def cpF (rs : List Rung) (ra he : Int) : Int := fstF [rgF rs, fIf (!inB ra 0 1000000000) 1, fIf (!inB he 1 10000) 1]
set_option maxRecDepth 100000 in
set_option maxHeartbeats 4000000 in
theorem cap_fault (u : Value) (rs : List Rung) (ra he : Int) (w : World) (hu : Rungs w u rs) (hwf : ∀ y ∈ rs, y.nm.size ≤ maxLen) (h0 : cpF rs ra he ≠ 0) :
    Calls Try.prog 9 #[u, .int .i64 ra, .int .i64 he] w fun r w' => r = .returned (.tuple #[.slice none 0 0, .int .i64 (cpF rs ra he)]) ∧ Below w.heap.size w w' := by
  have HC : Hid (∀ W, Below w.heap.size w W → Calls Try.prog 27 #[u] W fun e w' => e = .returned (.int .i64 (rgF rs)) ∧ Below W.heap.size W w') := Lib.hid (fun W hb => chkr_any _ rs W (hu.below hb (Nat.le_refl _)) hwf)
  have HF : Hid (fstF [rgF rs, fIf (!inB ra 0 1000000000) 1, fIf (!inB he 1 10000) 1] = cpF rs ra he) := Lib.hid rfl
  obtain ⟨F, hF⟩ : ∃ F, cpF rs ra he = F := ⟨_, rfl⟩
  obtain ⟨G, hG⟩ : ∃ G, rgF rs = G := ⟨_, rfl⟩
  rw [hF] at HF h0 ⊢
  rw [hG] at HC HF
  have hne : (F == 0) = false := by simp; exact h0
  have hne2 : (F != 0) = true := by simp; exact h0
  clear hu hwf hF hG h0
  go_enter Try.func9, Try.ntmps9
  go_wp2_with fail
  refine (HC.out _ (Below.refl _ _)).mono ?_; rintro e w3 ⟨rfl, b3⟩
  go_wp2_with fail
  refine (rate0_any _ _).mono ?_; rintro e w' ⟨rfl, rfl⟩
  go_wp2_with fail
  refine (bfaultIf_any _ _ _).mono ?_; rintro e w' ⟨rfl, rfl⟩
  go_wp2_with fail
  refine (height_any _ _).mono ?_; rintro e w' ⟨rfl, rfl⟩
  go_wp2_with fail
  refine (bfaultIf_any _ _ _).mono ?_; rintro e w' ⟨rfl, rfl⟩
  go_wp2_with fail
  refine (bfirst3 _ _ _ _).mono ?_; rintro e w' ⟨rfl, rfl⟩
  rw [HF.out]
  have bx := b3.alloc (o := .cells #[.int .i64 G, .int .i64 (fIf (!inB ra 0 1000000000) 1), .int .i64 (fIf (!inB he 1 10000) 1)] 26) b3.size
  clear HC HF
  go_wp2_with fail
  go_ret2
  exact ⟨rfl, bx⟩

end Go.Proofs.Ytinckidkophobaa

/- Capped (program). -/
namespace Go.Proofs.Ytinckidkophobaa
set_option linter.unusedVariables false
set_option linter.unusedSimpArgs false
open Go.RowKit Go.Shelf Go.Deep

/-- The first one of the least height of the first k. -/
def leI (rs : List Rung) : Nat → Nat
  | 0 => 0
  | k + 1 => if (rs.getD k rung0).he < (rs.getD (leI rs k) rung0).he then k else leI rs k
theorem leI_lt (rs : List Rung) : ∀ k, leI rs k ≤ k
  | 0 => Nat.le_refl _
  | k + 1 => by rw [leI]; have := leI_lt rs k; split <;> omega
def capL (rs : List Rung) (ra he : Int) : List Int := if cpF rs ra he = 0 then (if pickI (canT ⟨ra, he, 0⟩) rs rs.length = [] ∧ 0 < rs.length then [(leI rs rs.length : Int)] else pickI (canT ⟨ra, he, 0⟩) rs rs.length) else []
set_option maxRecDepth 100000 in
set_option maxHeartbeats 8000000 in
theorem cap_walk (b off n cap : Nat) (rs : List Rung) (ra he : Int) (w : World) (hz : rs.length = n) (hn0 : 0 < n) (hlt : b < w.heap.size) (hS : Rungs w (.slice (some ⟨b, off, none⟩) n cap) rs) (h0 : cpF rs ra he = 0) (hwf : ∀ y ∈ rs, y.nm.size ≤ maxLen) (hn : n ≤ 100) :
    Calls Try.prog 9 #[.slice (some ⟨b, off, none⟩) n cap, .int .i64 ra, .int .i64 he] w fun r w' => (∃ v, r = .returned (.tuple #[v, .int .i64 0]) ∧ NumsC w' v (capL rs ra he)) ∧ Below w.heap.size w w' := by
  have HC : Hid (∀ W, Below w.heap.size w W → Calls Try.prog 27 #[.slice (some ⟨b, off, none⟩) n cap] W fun e w' => e = .returned (.int .i64 (rgF rs)) ∧ Below W.heap.size W w') := Lib.hid (fun W hb => chkr_any _ rs W (hS.below hb (Nat.le_refl _)) hwf)
  have HF : Hid (fstF [rgF rs, fIf (!inB ra 0 1000000000) 1, fIf (!inB he 1 10000) 1] = 0) := Lib.hid h0
  have HNU : Hid (∀ W X, Below w.heap.size w W → Thr W X ⟨ra, he, 0⟩ → Calls Try.prog 31 #[.slice (some ⟨b, off, none⟩) n cap, .func (.func 32) #[] #[.pointer (some ⟨X, 0, none⟩)]] W fun e w' => (∃ v, e = .returned v ∧ NumsC w' v (pickI (canT ⟨ra, he, 0⟩) rs rs.length)) ∧ Below W.heap.size W w') := Lib.hid (fun W X hb TV => numbers_any _ rs (canT ⟨ra, he, 0⟩) 32 #[.pointer (some ⟨X, 0, none⟩)] (enters_of Try.func32 (by kernel_rfl) rfl) W (hS.below hb (Nat.le_refl _)) (by rw [hz]; exact hn) (fun W' x hb' => capC_any x _ X W' (TV.below hb' TV.lt)))
  have HCC := Lib.hid (fun j (hj : j < n) => hS.cells j (by omega))
  have HL : Hid (capL rs ra he = if pickI (canT ⟨ra, he, 0⟩) rs rs.length = [] then [(leI rs n : Int)] else pickI (canT ⟨ra, he, 0⟩) rs rs.length) := Lib.hid (by
    rw [capL, if_pos h0]
    by_cases h : pickI (canT ⟨ra, he, 0⟩) rs rs.length = []
    · rw [if_pos ⟨h, by omega⟩, if_pos h, hz]
    · rw [if_neg (fun g => h g.1), if_neg h])
  obtain ⟨G, hG⟩ : ∃ G, rgF rs = G := ⟨_, rfl⟩
  obtain ⟨P, hP⟩ : ∃ P, pickI (canT ⟨ra, he, 0⟩) rs rs.length = P := ⟨_, rfl⟩
  obtain ⟨CL, hCL⟩ : ∃ CL, capL rs ra he = CL := ⟨_, rfl⟩
  rw [hG] at HC HF
  rw [hP] at HNU HL
  rw [hCL] at HL ⊢
  clear hS h0 hwf hG hP hCL hz
  go_enter Try.func9, Try.ntmps9
  go_wp2_with fail
  refine (HC.out _ (Below.refl _ _)).mono ?_; rintro e w3 ⟨rfl, b3⟩
  go_wp2_with fail
  refine (rate0_any _ _).mono ?_; rintro e w' ⟨rfl, rfl⟩
  go_wp2_with fail
  refine (bfaultIf_any _ _ _).mono ?_; rintro e w' ⟨rfl, rfl⟩
  go_wp2_with fail
  refine (height_any _ _).mono ?_; rintro e w' ⟨rfl, rfl⟩
  go_wp2_with fail
  refine (bfaultIf_any _ _ _).mono ?_; rintro e w' ⟨rfl, rfl⟩
  go_wp2_with fail
  refine (bfirst3 _ _ _ _).mono ?_; rintro e w' ⟨rfl, rfl⟩
  rw [HF.out]
  have bx := b3.alloc (o := .cells #[.int .i64 G, .int .i64 (fIf (!inB ra 0 1000000000) 1), .int .i64 (fIf (!inB he 1 10000) 1)] 26) b3.size
  clear HC HF
  go_upto_region 2 with fail
  generalize w3.alloc (.cells #[.int .i64 G, .int .i64 (fIf (!inB ra 0 1000000000) 1), .int .i64 (fIf (!inB he 1 10000) 1)] 26) = W3 at *
  have TV := Thr.new W3 ⟨ra, he, 0⟩ 61
  have by1 := bx.alloc (o := .cells #[.int .i64 ra, .int .i64 he, .int .i64 0] 61) bx.size
  go_upto_region 5 with fail
  generalize W3.alloc (.cells #[.int .i64 ra, .int .i64 he, .int .i64 0] 61) = W4 at *
  generalize W3.heap.size = X at *
  have HCA := Lib.hid (HNU.out W4 X by1 TV)
  clear bx TV
  go_wp2_with fail
  refine HCA.out.mono ?_; rintro e W5 ⟨⟨v, rfl, hv⟩, b5⟩
  have bz := by1.trans (b5.mono by1.size)
  obtain ⟨a, c, rfl, -⟩ := hv.parts
  have HV := Lib.hid hv
  obtain ⟨M, hM⟩ : ∃ M, P.length = M := ⟨_, rfl⟩
  have HM := Lib.hid hM
  rw [hM] at HV ⊢
  have hn1 : ((n : Int) == 0) = false := by simp; omega
  clear HCA b5 hv by1 hM
  by_cases hm0 : M = 0
  · have hP0 : P = [] := List.length_eq_zero_iff.1 (by rw [HM.out]; exact hm0)
    have HE : Hid (CL = [(leI rs n : Int)]) := Lib.hid (by rw [HL.out, if_pos hP0])
    subst hm0
    clear hP0 HV
    go_wp2_with fail
    go_loopw [11, 46] (fun v11 v46 wr => ∃ (k l : Nat), k ≤ n ∧ v46 = .int .i64 (k : Int) ∧ v11 = .int .i64 (l : Int) ∧ Hid (leI rs k = l) ∧ l < n ∧ Below w.heap.size w wr) (fun _ v46 _ => n - (intOf v46).toNat)
    case atStart => exact ⟨0, 0, by omega, rfl, rfl, Lib.hid rfl, hn0, bz⟩
    case round =>
      obtain ⟨k, l, hk, rfl, rfl, HLE, hl, hbr⟩ := hrel
      by_cases hk2 : k < n
      rotate_left
      · have hkn : k = n := by omega
        have kD : decide ((k : Int) < (n : Int)) = false := by simp; omega
        have kD2 : decide (k < n) = false := by simp; omega
        have HE2 : Hid (CL = [(l : Int)]) := Lib.hid (by rw [HE.out, ← hkn, HLE.out])
        clear hkn
        have hown : (wr.alloc (.cells #[.int .i64 (l : Int)] 3)).ownsRow w.heap.size 3 1 (.slice (some ⟨wr.heap.size, 0, none⟩) 1 1) 1 #[.int .i64 (l : Int)].toList := World.ownsRow_lit wr #[.int .i64 (l : Int)] 1 hbr.size (by unfold maxLen; omega) rfl
        go_wp2_with fail
        go_ret2
        refine ⟨⟨_, rfl, ?_⟩, hbr.alloc hbr.size _⟩
        rw [HE2.out]
        exact NumsC.ofOwn (zs := [(l : Int)]) hown
      · obtain ⟨r, hr⟩ : ∃ r, rs.getD k rung0 = r := ⟨_, rfl⟩
        obtain ⟨s, hs⟩ : ∃ s, rs.getD l rung0 = s := ⟨_, rfl⟩
        obtain ⟨c0, c1, c2, c3⟩ := HCC.out k hk2
        obtain ⟨-, -, f2, -⟩ := HCC.out l hl
        rw [hr] at c0 c1 c2 c3
        rw [hs] at f2
        have HN : Hid (leI rs (k + 1) = if r.he < s.he then k else l) := Lib.hid (by rw [leI, HLE.out, hr, hs])
        rw [← hbr.cell (p := ⟨b, off + k * 4, none⟩) hlt] at c0
        rw [← hbr.cell (p := ⟨b, off + k * 4 + 1, none⟩) hlt] at c1
        rw [← hbr.cell (p := ⟨b, off + k * 4 + 2, none⟩) hlt] at c2
        rw [← hbr.cell (p := ⟨b, off + k * 4 + 3, none⟩) hlt] at c3
        have FX := Four.new wr r 56
        have ba : Below wr.heap.size wr (wr.alloc (.cells #[.string r.nm, .int .i64 r.ra, .int .i64 r.he, .int .i64 r.qu] 56)) := (Below.refl _ _).alloc (Nat.le_refl _) _
        have hbr := hbr.trans (ba.mono hbr.size)
        rw [← hbr.cell (p := ⟨b, off + l * 4 + 2, none⟩) hlt] at f2
        have kI : (k : Int) < (n : Int) := by omega
        have lI : (l : Int) < (n : Int) := by omega
        have wk1 : IntKind.i64.wrap ((k : Int) + 1) = (k : Int) + 1 := IntWalk.i64_in _ ⟨by omega, by omega⟩
        clear hr hs ba
        go_upto_region 12 with fail
        generalize wr.alloc (.cells #[.string r.nm, .int .i64 r.ra, .int .i64 r.he, .int .i64 r.qu] 56) = W9 at *
        generalize wr.heap.size = Y at *
        clear c0 c1 c2 c3
        have z2 := FX.c2
        clear FX
        by_cases hlt2 : r.he < s.he
        · rw [if_pos hlt2] at HN
          have hd := decide_eq_true hlt2
          go_quiet (fail)
          go_wp2_with fail
          go_roundw
          case rel => exact ⟨k + 1, k, by omega, by go_num, rfl, HN, hk2, below_drewN hbr nq⟩
          case measure => first | (simp [intOf]; done) | (simp [intOf]; omega)
        · rw [if_neg hlt2] at HN
          have hd := decide_eq_false hlt2
          go_quiet (fail)
          go_wp2_with fail
          go_roundw
          case rel => exact ⟨k + 1, l, by omega, by go_num, rfl, HN, hl, below_drewN hbr nq⟩
          case measure => first | (simp [intOf]; done) | (simp [intOf]; omega)
  · have hP0 : P ≠ [] := fun h => hm0 (by rw [← HM.out, h]; rfl)
    have HE : Hid (CL = P) := Lib.hid (by rw [HL.out, if_neg hP0])
    have mD : decide ((0 : Int) < (M : Int)) = true := by simp; omega
    have mD2 : 0 < M := by omega
    clear hP0
    go_wp2_with fail
    go_ret2
    exact ⟨⟨_, rfl, by rw [HE.out]; exact HV.out⟩, bz⟩

end Go.Proofs.Ytinckidkophobaa

/- Capped (reference). -/
namespace Go.Proofs.Ytinckidkophobaa
set_option linter.unusedVariables false
set_option linter.unusedSimpArgs false
open Go.RowKit Go.Shelf Go.Deep

/-- The reference's least so far. -/
def leV (rs : List Rung) (k : Nat) : Int := if k = 0 then -1 else (leI rs k : Int)
theorem leI_one (rs : List Rung) : leI rs 1 = 0 := by rw [leI, leI]; split <;> rfl
theorem cpF_zero {rs : List Rung} {ra he : Int} (h : cpF rs ra he = 0) : rgF rs = 0 ∧ inB ra 0 1000000000 = true ∧ inB he 1 10000 = true := by
  unfold cpF at h
  rw [fstF_zero] at h
  simp only [List.mem_cons, List.not_mem_nil, or_false, forall_eq_or_imp, forall_eq] at h
  rw [fIf_zero (by decide), fIf_zero (by decide)] at h
  obtain ⟨a, b, c⟩ := h
  exact ⟨a, by simpa using b, by simpa using c⟩
theorem cpF_case (rs : List Rung) (ra he : Int) : cpF rs ra he = if rgF rs = 0 then (if inB ra 0 1000000000 = true ∧ inB he 1 10000 = true then 0 else 1) else rgF rs := by
  unfold cpF
  by_cases h : rgF rs = 0
  · rw [if_pos h, h]
    cases inB ra 0 1000000000 <;> cases inB he 1 10000 <;> simp [fstF, fIf]
  · rw [if_neg h]
    simp [fstF, h]
theorem intV_snoc (xs : List Int) (c : Int) : (xs ++ [c]).map (Value.int .i64) = xs.map (Value.int .i64) ++ [.int .i64 c] := by simp
theorem iown_form {w : World} {base : Nat} {e : TypeId} {size : Nat} {v : Value} {n : Nat} {xs : List Value} (h : w.ownsRow base e size v n xs) : ∃ a c, v = .slice a n c := by
  rcases h.2 with ⟨rfl, h0⟩ | ⟨g, cap, cur, rfl, _⟩
  · exact ⟨none, 0, by rw [h0]⟩
  · exact ⟨_, _, rfl⟩
set_option maxRecDepth 100000 in
set_option maxHeartbeats 16000000 in
theorem rcap_walk (b off n cap : Nat) (rs : List Rung) (ra he : Int) (w : World) (hz : rs.length = n) (hn0 : 0 < n) (hlt : b < w.heap.size) (hS : Rungs w (.slice (some ⟨b, off, none⟩) n cap) rs) (h0 : cpF rs ra he = 0) (hwf : ∀ y ∈ rs, y.nm.size ≤ maxLen) (hn : n ≤ 100) :
    Calls Try.prog 10 #[.slice (some ⟨b, off, none⟩) n cap, .int .i64 ra, .int .i64 he] w fun r w' => (∃ v, r = .returned (.tuple #[v, .int .i64 0]) ∧ NumsC w' v (capL rs ra he)) ∧ Below w.heap.size w w' := by
  obtain ⟨i0, hi, hi0, hi1, hi2⟩ := info_parts Try.infoInt8
  obtain ⟨g0, g1, g2⟩ := cpF_zero h0
  have HC : Hid (Calls Try.prog 23 #[.slice (some ⟨b, off, none⟩) n cap] w fun e w' => e = .returned (.int .i64 0) ∧ Below w.heap.size w w') := Lib.hid (by rw [← g0]; exact rchkr_any _ rs w hS hwf)
  have HI1 := Lib.hid g1; have HI2 := Lib.hid g2
  have HCC := Lib.hid (fun j (hj : j < n) => hS.cells j (by omega))
  have HL : Hid (capL rs ra he = if pickI (canT ⟨ra, he, 0⟩) rs n = [] then [(leI rs n : Int)] else pickI (canT ⟨ra, he, 0⟩) rs n) := Lib.hid (by
    rw [capL, if_pos h0, hz]
    by_cases h : pickI (canT ⟨ra, he, 0⟩) rs n = []
    · rw [if_pos ⟨h, by omega⟩, if_pos h]
    · rw [if_neg (fun g => h g.1), if_neg h])
  obtain ⟨CL, hCL⟩ : ∃ CL, capL rs ra he = CL := ⟨_, rfl⟩
  rw [hCL] at HL ⊢
  clear hS h0 hwf hCL hz g0 g1 g2
  go_enter Try.func10, Try.ntmps10
  go_wp2_with fail
  refine HC.out.mono ?_; rintro e w1 ⟨rfl, b1⟩
  go_wp2_with fail
  refine (rwithin5_any _ _ _ _).mono ?_; rintro e w' ⟨rfl, rfl⟩
  rw [HI1.out]
  go_wp2_with fail
  refine (rwithin5_any _ _ _ _).mono ?_; rintro e w' ⟨rfl, rfl⟩
  rw [HI2.out]
  clear HC HI1 HI2
  go_wp2_with fail
  go_loopw [9, 10, 28] (fun v9 v10 v28 wr => ∃ (k : Nat) (le : Int) (Q : List Int), k ≤ n ∧ v28 = .int .i64 (k : Int) ∧ v10 = .int .i64 le ∧ Hid (le = leV rs k) ∧ wr.ownsRow w.heap.size 3 1 v9 Q.length (Q.map (Value.int .i64)) ∧ Hid (pickI (canT ⟨ra, he, 0⟩) rs k = Q) ∧ Q.length ≤ k ∧ Below w.heap.size w wr) (fun _ _ v28 _ => n - (intOf v28).toNat)
  case atStart => exact ⟨0, -1, [], by omega, rfl, rfl, Lib.hid rfl, World.ownsRow_nil w1 _ _ _, Lib.hid rfl, Nat.le_refl _, b1⟩
  case round =>
    clear b1
    obtain ⟨k, le, Q, hk, rfl, rfl, HLE, hown, HQ, hql, hb⟩ := hrel
    obtain ⟨a3, c3', rfl⟩ := iown_form hown
    by_cases hk2 : k < n
    rotate_left
    · have hkn : k = n := by omega
      have kD : decide ((k : Int) < (n : Int)) = false := by simp; omega
      have kD2 : decide (k < n) = false := by simp; omega
      have e1 : le = (leI rs n : Int) := by rw [HLE.out, leV, if_neg (by omega), hkn]
      have HE : Hid (CL = if Q = [] then [(leI rs n : Int)] else Q) := Lib.hid (by rw [HL.out, ← hkn, HQ.out])
      obtain ⟨l, hl⟩ : ∃ l, leI rs n = l := ⟨_, rfl⟩
      rw [hl] at e1 HE
      subst e1
      clear hkn hl HL HQ HLE
      by_cases hq : Q = []
      · subst hq
        have HE2 : Hid (CL = [(l : Int)]) := Lib.hid (by rw [HE.out, if_pos rfl])
        have hl0 : decide ((0 : Int) ≤ (l : Int)) = true := by simp
        have hown2 : (wr.alloc (.cells #[.int .i64 (l : Int)] 3)).ownsRow w.heap.size 3 1 (.slice (some ⟨wr.heap.size, 0, none⟩) 1 1) 1 #[.int .i64 (l : Int)].toList := World.ownsRow_lit wr #[.int .i64 (l : Int)] 1 hb.size (by unfold maxLen; omega) rfl
        clear HE
        go_wp2_with fail
        go_ret2
        refine ⟨⟨_, rfl, ?_⟩, hb.alloc hb.size _⟩
        rw [HE2.out]
        exact NumsC.ofOwn (zs := [(l : Int)]) hown2
      · have HE2 : Hid (CL = Q) := Lib.hid (by rw [HE.out, if_neg hq])
        obtain ⟨m, hm⟩ : ∃ m, Q.length = m := ⟨_, rfl⟩
        have m0 : ((m : Int) == 0) = false := by have : 0 < Q.length := List.length_pos_iff.2 hq; simp; omega
        have HM := Lib.hid hm
        rw [hm] at hown ⊢
        clear HE hq hm
        go_wp2_with fail
        go_ret2
        refine ⟨⟨_, rfl, ?_⟩, hb⟩
        rw [HE2.out]
        exact NumsC.ofOwn (zs := Q) (by rw [HM.out]; exact hown)
    · obtain ⟨r, hr⟩ : ∃ r, rs.getD k rung0 = r := ⟨_, rfl⟩
      obtain ⟨c0, c1, c2, c3⟩ := HCC.out k hk2
      rw [hr] at c0 c1 c2 c3
      rw [← hb.cell (p := ⟨b, off + k * 4, none⟩) hlt] at c0
      rw [← hb.cell (p := ⟨b, off + k * 4 + 1, none⟩) hlt] at c1
      rw [← hb.cell (p := ⟨b, off + k * 4 + 2, none⟩) hlt] at c2
      rw [← hb.cell (p := ⟨b, off + k * 4 + 3, none⟩) hlt] at c3
      have FX := Four.new wr r 56
      have hsz := hb.size
      have HN : Hid (pickI (canT ⟨ra, he, 0⟩) rs (k + 1) = if canT ⟨ra, he, 0⟩ r = true then Q ++ [(k : Int)] else Q) := Lib.hid (by rw [pickI, hr, HQ.out])
      have hneX : some wr.heap.size ≠ (Value.slice a3 Q.length c3').ownBlock := fun h => by have := (hown.lt _ h.symm).2; omega
      have hb := hb.alloc hsz (.cells #[.string r.nm, .int .i64 r.ra, .int .i64 r.he, .int .i64 r.qu] 56)
      have hown := hown.alloc (.cells #[.string r.nm, .int .i64 r.ra, .int .i64 r.he, .int .i64 r.qu] 56)
      have HR := Lib.hid hr
      have kI : (k : Int) < (n : Int) := by omega
      have wk1 : IntKind.i64.wrap ((k : Int) + 1) = (k : Int) + 1 := IntWalk.i64_in _ ⟨by omega, by omega⟩
      clear hr
      go_upto_region 11 with fail
      generalize wr.alloc (.cells #[.string r.nm, .int .i64 r.ra, .int .i64 r.he, .int .i64 r.qu] 56) = W9 at *
      generalize wr.heap.size = X at *
      clear c0 c1 c2 c3 HQ
      have z1 := FX.c1
      have z2 := FX.c2
      by_cases h1 : r.ra ≤ ra
      · have h1d := decide_eq_true h1
        by_cases h2 : r.he ≤ he
        · have h2d := decide_eq_true h2
          have HN2 : Hid (pickI (canT ⟨ra, he, 0⟩) rs (k + 1) = Q ++ [(k : Int)]) := Lib.hid (by rw [HN.out, if_pos (by show (decide (r.ra ≤ ra) && decide (r.he ≤ he)) = true; rw [h1d, h2d]; rfl)])
          go_wp2_with (at_builtin; refine wpList_append_own _ rfl _ _ 25 rfl w.heap.size 3 i0 (.int .i64 0) 1 8 Try.underlying25 hi hi0 hi1 hi2 rfl (by decide) _ _ _ rfl (hown.alloc _) ⟨W9.heap.size, 0, none⟩ 1 1 [.int .i64 (k : Int)] rfl rfl ?b1 ?b2 ?b3 ?b4 ?b5 ?_)
          case b1 =>
            have := World.news_of_block (cs := #[.int .i64 (k : Int)]) (t := 3) (fr := (0, 0)) (heap_alloc_new W9 (.cells #[.int .i64 (k : Int)] 3))
            simpa using this
          case b2 => simp [Value.oneCell']
          case b3 => unfold maxLen; omega
          case b4 => omega
          case b5 => have := hb.size; first | omega | (simp; omega)
          intro v' w4 hown1 hgrow _
          have hb2 : Below w.heap.size w w4 := ((hb.alloc hb.size _).grown hgrow (by have := hb.size; simp; omega) (fun q hq => (hown.lt q hq).1))
          have FX2 := (FX.alloc (.cells #[.int .i64 (k : Int)] 3)).grown hgrow hneX
          rw [← intV_snoc] at hown1
          have hl2 : (Q ++ [(k : Int)]).length = Q.length + 1 := by simp
          rw [← hl2] at hown1
          have hql2 : (Q ++ [(k : Int)]).length ≤ k + 1 := by omega
          clear hgrow hown z1 z2 FX hb HN hl2 h1 h2
          generalize Q ++ [(k : Int)] = Q2 at *
          by_cases hk0 : k = 0
          · have e1 : le = -1 := by rw [HLE.out, leV, if_pos hk0]
            have HL2 : Hid ((k : Int) = leV rs (k + 1)) := Lib.hid (by rw [leV, if_neg (by omega), hk0, leI_one])
            subst e1
            clear hk0
            have z2 := FX2.c2
            go_wp2_with fail
            go_quiet (fail)
            go_wp2_with fail
            go_roundw
            case rel => exact ⟨k + 1, (k : Int), Q2, by omega, by go_num, rfl, HL2, hown1, HN2, hql2, below_drewN hb2 nq⟩
            case measure => first | (simp [intOf]; done) | (simp [intOf]; omega)
          · obtain ⟨l, hl⟩ : ∃ l, leI rs k = l := ⟨_, rfl⟩
            have e1 : le = (l : Int) := by rw [HLE.out, leV, if_neg hk0, hl]
            have hln : l < n := by have := leI_lt rs k; omega
            obtain ⟨s, hs⟩ : ∃ s, rs.getD l rung0 = s := ⟨_, rfl⟩
            obtain ⟨-, -, f2, -⟩ := HCC.out l hln
            rw [hs] at f2
            rw [← hb2.cell (p := ⟨b, off + l * 4 + 2, none⟩) hlt] at f2
            have HLN : Hid (leV rs (k + 1) = if r.he < s.he then (k : Int) else (l : Int)) := Lib.hid (by rw [leV, if_neg (by omega), leI, hl, hs, HR.out]; split <;> rfl)
            subst e1
            have z2 := FX2.c2
            have zl : decide ((l : Int) < 0) = false := by simp
            have lI : (l : Int) < (n : Int) := by omega
            clear hk0 hl hs HR HLE
            by_cases hlt2 : r.he < s.he
            · have HL2 : Hid ((k : Int) = leV rs (k + 1)) := Lib.hid (by rw [HLN.out, if_pos hlt2])
              have hd := decide_eq_true hlt2
              go_wp2_with fail
              go_quiet (fail)
              go_wp2_with fail
              go_roundw
              case rel => exact ⟨k + 1, (k : Int), Q2, by omega, by go_num, rfl, HL2, hown1, HN2, hql2, below_drewN hb2 nq⟩
              case measure => first | (simp [intOf]; done) | (simp [intOf]; omega)
            · have HL2 : Hid ((l : Int) = leV rs (k + 1)) := Lib.hid (by rw [HLN.out, if_neg hlt2])
              have hd := decide_eq_false hlt2
              go_wp2_with fail
              go_quiet (fail)
              go_wp2_with fail
              go_roundw
              case rel => exact ⟨k + 1, (l : Int), Q2, by omega, by go_num, rfl, HL2, hown1, HN2, hql2, below_drewN hb2 nq⟩
              case measure => first | (simp [intOf]; done) | (simp [intOf]; omega)
        · have h2d := decide_eq_false h2
          have HN2 : Hid (pickI (canT ⟨ra, he, 0⟩) rs (k + 1) = Q) := Lib.hid (by rw [HN.out, if_neg (by show ¬ (decide (r.ra ≤ ra) && decide (r.he ≤ he)) = true; rw [h1d, h2d]; decide)])
          have hql2 : Q.length ≤ k + 1 := by omega
          clear HN h1 h2
          by_cases hk0 : k = 0
          · have e1 : le = -1 := by rw [HLE.out, leV, if_pos hk0]
            have HL2 : Hid ((k : Int) = leV rs (k + 1)) := Lib.hid (by rw [leV, if_neg (by omega), hk0, leI_one])
            subst e1
            clear hk0
            have z2 := FX.c2
            go_wp2_with fail
            go_quiet (fail)
            go_wp2_with fail
            go_roundw
            case rel => exact ⟨k + 1, (k : Int), Q, by omega, by go_num, rfl, HL2, hown, HN2, hql2, below_drewN hb nq⟩
            case measure => first | (simp [intOf]; done) | (simp [intOf]; omega)
          · obtain ⟨l, hl⟩ : ∃ l, leI rs k = l := ⟨_, rfl⟩
            have e1 : le = (l : Int) := by rw [HLE.out, leV, if_neg hk0, hl]
            have hln : l < n := by have := leI_lt rs k; omega
            obtain ⟨s, hs⟩ : ∃ s, rs.getD l rung0 = s := ⟨_, rfl⟩
            obtain ⟨-, -, f2, -⟩ := HCC.out l hln
            rw [hs] at f2
            rw [← hb.cell (p := ⟨b, off + l * 4 + 2, none⟩) hlt] at f2
            have HLN : Hid (leV rs (k + 1) = if r.he < s.he then (k : Int) else (l : Int)) := Lib.hid (by rw [leV, if_neg (by omega), leI, hl, hs, HR.out]; split <;> rfl)
            subst e1
            have z2 := FX.c2
            have zl : decide ((l : Int) < 0) = false := by simp
            have lI : (l : Int) < (n : Int) := by omega
            clear hk0 hl hs HR HLE
            by_cases hlt2 : r.he < s.he
            · have HL2 : Hid ((k : Int) = leV rs (k + 1)) := Lib.hid (by rw [HLN.out, if_pos hlt2])
              have hd := decide_eq_true hlt2
              go_wp2_with fail
              go_quiet (fail)
              go_wp2_with fail
              go_roundw
              case rel => exact ⟨k + 1, (k : Int), Q, by omega, by go_num, rfl, HL2, hown, HN2, hql2, below_drewN hb nq⟩
              case measure => first | (simp [intOf]; done) | (simp [intOf]; omega)
            · have HL2 : Hid ((l : Int) = leV rs (k + 1)) := Lib.hid (by rw [HLN.out, if_neg hlt2])
              have hd := decide_eq_false hlt2
              go_wp2_with fail
              go_quiet (fail)
              go_wp2_with fail
              go_roundw
              case rel => exact ⟨k + 1, (l : Int), Q, by omega, by go_num, rfl, HL2, hown, HN2, hql2, below_drewN hb nq⟩
              case measure => first | (simp [intOf]; done) | (simp [intOf]; omega)
      · have h1d := decide_eq_false h1
        have HN2 : Hid (pickI (canT ⟨ra, he, 0⟩) rs (k + 1) = Q) := Lib.hid (by rw [HN.out, if_neg (by show ¬ (decide (r.ra ≤ ra) && decide (r.he ≤ he)) = true; rw [h1d]; simp)])
        have hql2 : Q.length ≤ k + 1 := by omega
        clear HN h1
        by_cases hk0 : k = 0
        · have e1 : le = -1 := by rw [HLE.out, leV, if_pos hk0]
          have HL2 : Hid ((k : Int) = leV rs (k + 1)) := Lib.hid (by rw [leV, if_neg (by omega), hk0, leI_one])
          subst e1
          clear hk0
          have z2 := FX.c2
          go_wp2_with fail
          go_quiet (fail)
          go_wp2_with fail
          go_roundw
          case rel => exact ⟨k + 1, (k : Int), Q, by omega, by go_num, rfl, HL2, hown, HN2, hql2, below_drewN hb nq⟩
          case measure => first | (simp [intOf]; done) | (simp [intOf]; omega)
        · obtain ⟨l, hl⟩ : ∃ l, leI rs k = l := ⟨_, rfl⟩
          have e1 : le = (l : Int) := by rw [HLE.out, leV, if_neg hk0, hl]
          have hln : l < n := by have := leI_lt rs k; omega
          obtain ⟨s, hs⟩ : ∃ s, rs.getD l rung0 = s := ⟨_, rfl⟩
          obtain ⟨-, -, f2, -⟩ := HCC.out l hln
          rw [hs] at f2
          rw [← hb.cell (p := ⟨b, off + l * 4 + 2, none⟩) hlt] at f2
          have HLN : Hid (leV rs (k + 1) = if r.he < s.he then (k : Int) else (l : Int)) := Lib.hid (by rw [leV, if_neg (by omega), leI, hl, hs, HR.out]; split <;> rfl)
          subst e1
          have z2 := FX.c2
          have zl : decide ((l : Int) < 0) = false := by simp
          have lI : (l : Int) < (n : Int) := by omega
          clear hk0 hl hs HR HLE
          by_cases hlt2 : r.he < s.he
          · have HL2 : Hid ((k : Int) = leV rs (k + 1)) := Lib.hid (by rw [HLN.out, if_pos hlt2])
            have hd := decide_eq_true hlt2
            go_wp2_with fail
            go_quiet (fail)
            go_wp2_with fail
            go_roundw
            case rel => exact ⟨k + 1, (k : Int), Q, by omega, by go_num, rfl, HL2, hown, HN2, hql2, below_drewN hb nq⟩
            case measure => first | (simp [intOf]; done) | (simp [intOf]; omega)
          · have HL2 : Hid ((l : Int) = leV rs (k + 1)) := Lib.hid (by rw [HLN.out, if_neg hlt2])
            have hd := decide_eq_false hlt2
            go_wp2_with fail
            go_quiet (fail)
            go_wp2_with fail
            go_roundw
            case rel => exact ⟨k + 1, (l : Int), Q, by omega, by go_num, rfl, HL2, hown, HN2, hql2, below_drewN hb nq⟩
            case measure => first | (simp [intOf]; done) | (simp [intOf]; omega)

end Go.Proofs.Ytinckidkophobaa

/- LadderStepsMatchSpec: whatever the input, the law returns true: the walk. -/
namespace Go.Proofs.Ytinckidkophobaa
set_option linter.unusedVariables false
set_option linter.unusedSimpArgs false
open Go.RowKit Go.Shelf Go.Deep

theorem capL_none (ra he : Int) : capL [] ra he = [] := by
  unfold capL
  split
  · rw [if_neg (by rintro ⟨-, h⟩; simp at h)]; rfl
  · rfl
theorem capL_fault {rs : List Rung} {ra he : Int} (h : cpF rs ra he ≠ 0) : capL rs ra he = [] := by rw [capL, if_neg h]
set_option maxRecDepth 100000 in
set_option maxHeartbeats 8000000 in
theorem cap_none (a0 : Option Addr) (cap0 : Nat) (ra he : Int) (w : World) (hu : Rungs w (.slice a0 0 cap0) []) (h0 : cpF [] ra he = 0) :
    Calls Try.prog 9 #[.slice a0 0 cap0, .int .i64 ra, .int .i64 he] w fun r w' => (∃ a c, r = .returned (.tuple #[.slice a 0 c, .int .i64 0])) ∧ Below w.heap.size w w' := by
  have HC : Hid (∀ W, Below w.heap.size w W → Calls Try.prog 27 #[.slice a0 0 cap0] W fun e w' => e = .returned (.int .i64 (rgF [])) ∧ Below W.heap.size W w') := Lib.hid (fun W hb => chkr_any _ [] W (hu.below hb (Nat.le_refl _)) (by simp))
  have HF : Hid (fstF [rgF [], fIf (!inB ra 0 1000000000) 1, fIf (!inB he 1 10000) 1] = 0) := Lib.hid h0
  have HNU : Hid (∀ W X, Below w.heap.size w W → Thr W X ⟨ra, he, 0⟩ → Calls Try.prog 31 #[.slice a0 0 cap0, .func (.func 32) #[] #[.pointer (some ⟨X, 0, none⟩)]] W fun e w' => (∃ v, e = .returned v ∧ NumsC w' v []) ∧ Below W.heap.size W w') := Lib.hid (fun W X hb TV => numbers_any _ [] (canT ⟨ra, he, 0⟩) 32 #[.pointer (some ⟨X, 0, none⟩)] (enters_of Try.func32 (by kernel_rfl) rfl) W (hu.below hb (Nat.le_refl _)) (by simp) (fun W' x hb' => capC_any x _ X W' (TV.below hb' TV.lt)))
  obtain ⟨G, hG⟩ : ∃ G, rgF [] = G := ⟨_, rfl⟩
  rw [hG] at HC HF
  clear hu h0 hG
  go_enter Try.func9, Try.ntmps9
  go_wp2_with fail
  refine (HC.out _ (Below.refl _ _)).mono ?_; rintro e w3 ⟨rfl, b3⟩
  go_wp2_with fail
  refine (rate0_any _ _).mono ?_; rintro e w' ⟨rfl, rfl⟩
  go_wp2_with fail
  refine (bfaultIf_any _ _ _).mono ?_; rintro e w' ⟨rfl, rfl⟩
  go_wp2_with fail
  refine (height_any _ _).mono ?_; rintro e w' ⟨rfl, rfl⟩
  go_wp2_with fail
  refine (bfaultIf_any _ _ _).mono ?_; rintro e w' ⟨rfl, rfl⟩
  go_wp2_with fail
  refine (bfirst3 _ _ _ _).mono ?_; rintro e w' ⟨rfl, rfl⟩
  rw [HF.out]
  have bx := b3.alloc (o := .cells #[.int .i64 G, .int .i64 (fIf (!inB ra 0 1000000000) 1), .int .i64 (fIf (!inB he 1 10000) 1)] 26) b3.size
  clear HC HF
  go_upto_region 2 with fail
  generalize w3.alloc (.cells #[.int .i64 G, .int .i64 (fIf (!inB ra 0 1000000000) 1), .int .i64 (fIf (!inB he 1 10000) 1)] 26) = W3 at *
  have TV := Thr.new W3 ⟨ra, he, 0⟩ 61
  have by1 := bx.alloc (o := .cells #[.int .i64 ra, .int .i64 he, .int .i64 0] 61) bx.size
  go_upto_region 5 with fail
  generalize W3.alloc (.cells #[.int .i64 ra, .int .i64 he, .int .i64 0] 61) = W4 at *
  generalize W3.heap.size = X at *
  have HCA := Lib.hid (HNU.out W4 X by1 TV)
  clear bx TV
  go_wp2_with fail
  refine HCA.out.mono ?_; rintro e W5 ⟨⟨v, rfl, hv⟩, b5⟩
  have bz := by1.trans (b5.mono by1.size)
  obtain ⟨a, c, rfl, -⟩ := hv.parts
  clear HCA b5 hv by1
  go_wp2_with fail
  go_ret2
  exact ⟨⟨_, _, rfl⟩, bz⟩
theorem Capped_any (u : Value) (rs : List Rung) (ra he : Int) (w : World) (hu : Rungs w u rs) (hwf : ∀ y ∈ rs, y.nm.size ≤ maxLen) :
    Calls Try.prog 9 #[u, .int .i64 ra, .int .i64 he] w fun r w' => (∃ v, r = .returned (.tuple #[v, .int .i64 (cpF rs ra he)]) ∧ NumsC w' v (capL rs ra he)) ∧ Below w.heap.size w w' := by
  by_cases h0 : cpF rs ra he = 0
  · by_cases hl : rs.length = 0
    · have : rs = [] := List.length_eq_zero_iff.1 hl
      subst this
      obtain ⟨a, cap, rfl⟩ := hu.parts
      rw [capL_none, h0]
      refine (cap_none a cap ra he w hu h0).mono ?_
      rintro r w' ⟨⟨a, c, rfl⟩, hb⟩
      exact ⟨⟨_, rfl, .inl ⟨_, _, rfl, rfl⟩⟩, hb⟩
    · obtain ⟨b, off, cap, rfl, hb, -, -⟩ := hu.spot (by omega)
      rw [h0]
      exact cap_walk b off rs.length cap rs ra he w rfl (by omega) hb hu h0 hwf ((rgF_zero rs).1 (cpF_zero h0).1).len
  · rw [capL_fault h0]
    refine (cap_fault u rs ra he w hu hwf h0).mono ?_
    rintro r w' ⟨rfl, hb⟩
    exact ⟨⟨_, rfl, .inl ⟨_, _, rfl, rfl⟩⟩, hb⟩
set_option maxRecDepth 100000 in
set_option maxHeartbeats 8000000 in
theorem rcap_none (a : Option Addr) (cap : Nat) (ra he : Int) (w : World) (hu : Rungs w (.slice a 0 cap) []) (h0 : cpF [] ra he = 0) :
    Calls Try.prog 10 #[.slice a 0 cap, .int .i64 ra, .int .i64 he] w fun r w' => r = .returned (.tuple #[.slice none 0 0, .int .i64 0]) ∧ Below w.heap.size w w' := by
  obtain ⟨g0, g1, g2⟩ := cpF_zero h0
  have HC : Hid (Calls Try.prog 23 #[.slice a 0 cap] w fun e w' => e = .returned (.int .i64 0) ∧ Below w.heap.size w w') := Lib.hid (by rw [← g0]; exact rchkr_any _ [] w hu (by simp))
  have HI1 := Lib.hid g1; have HI2 := Lib.hid g2
  clear hu h0 g0 g1 g2
  go_enter Try.func10, Try.ntmps10
  go_wp2_with fail
  refine HC.out.mono ?_; rintro e w1 ⟨rfl, b1⟩
  go_wp2_with fail
  refine (rwithin5_any _ _ _ _).mono ?_; rintro e w' ⟨rfl, rfl⟩
  rw [HI1.out]
  go_wp2_with fail
  refine (rwithin5_any _ _ _ _).mono ?_; rintro e w' ⟨rfl, rfl⟩
  rw [HI2.out]
  go_wp2_with fail
  refine wp_loop_rounds 1 ?_
  rw [rounds_succ]
  go_wp2_with fail
  go_ret2
  exact ⟨rfl, b1⟩
set_option maxRecDepth 100000 in
set_option maxHeartbeats 8000000 in
theorem rcap_fault (u : Value) (rs : List Rung) (ra he : Int) (w : World) (hu : Rungs w u rs) (hwf : ∀ y ∈ rs, y.nm.size ≤ maxLen) (h0 : cpF rs ra he ≠ 0) :
    Calls Try.prog 10 #[u, .int .i64 ra, .int .i64 he] w fun r w' => r = .returned (.tuple #[.slice none 0 0, .int .i64 (cpF rs ra he)]) ∧ Below w.heap.size w w' := by
  have HC : Hid (Calls Try.prog 23 #[u] w fun e w' => e = .returned (.int .i64 (rgF rs)) ∧ Below w.heap.size w w') := Lib.hid (rchkr_any _ rs w hu hwf)
  have e0 := cpF_case rs ra he
  obtain ⟨F, hF⟩ : ∃ F, cpF rs ra he = F := ⟨_, rfl⟩
  obtain ⟨G, hG⟩ : ∃ G, rgF rs = G := ⟨_, rfl⟩
  obtain ⟨I1, hI1⟩ : ∃ I1, inB ra 0 1000000000 = I1 := ⟨_, rfl⟩
  obtain ⟨I2, hI2⟩ : ∃ I2, inB he 1 10000 = I2 := ⟨_, rfl⟩
  rw [hF, hG, hI1, hI2] at e0
  rw [hF] at h0 ⊢
  rw [hG] at HC
  have HI1 := Lib.hid hI1; have HI2 := Lib.hid hI2
  clear hF hG hI1 hI2 hu hwf
  by_cases hg : G = 0
  · subst hg
    rw [if_pos rfl] at e0
    cases I1
    · have e1 : F = 1 := by rw [e0]; rfl
      subst e1
      clear e0
      go_enter Try.func10, Try.ntmps10
      go_wp2_with fail
      refine HC.out.mono ?_; rintro e w1 ⟨rfl, b1⟩
      go_wp2_with fail
      refine (rwithin5_any _ _ _ _).mono ?_; rintro e w' ⟨rfl, rfl⟩
      rw [HI1.out]
      go_wp2_with fail
      go_ret2
      exact ⟨rfl, b1⟩
    · cases I2
      · have e1 : F = 1 := by rw [e0]; rfl
        subst e1
        clear e0
        go_enter Try.func10, Try.ntmps10
        go_wp2_with fail
        refine HC.out.mono ?_; rintro e w1 ⟨rfl, b1⟩
        go_wp2_with fail
        refine (rwithin5_any _ _ _ _).mono ?_; rintro e w' ⟨rfl, rfl⟩
        rw [HI1.out]
        go_wp2_with fail
        refine (rwithin5_any _ _ _ _).mono ?_; rintro e w' ⟨rfl, rfl⟩
        rw [HI2.out]
        go_wp2_with fail
        go_ret2
        exact ⟨rfl, b1⟩
      · exact absurd (by rw [e0]; rfl) h0
  · have hne : (G == 0) = false := by simp; exact hg
    have hne2 : (G != 0) = true := by simp; exact hg
    rw [if_neg hg] at e0
    subst e0
    clear hg h0
    go_enter Try.func10, Try.ntmps10
    go_wp2_with fail
    refine HC.out.mono ?_; rintro e w1 ⟨rfl, b1⟩
    go_wp2_with fail
    go_ret2
    exact ⟨rfl, b1⟩
theorem rCapped_any (u : Value) (rs : List Rung) (ra he : Int) (w : World) (hu : Rungs w u rs) (hwf : ∀ y ∈ rs, y.nm.size ≤ maxLen) :
    Calls Try.prog 10 #[u, .int .i64 ra, .int .i64 he] w fun r w' => (∃ v, r = .returned (.tuple #[v, .int .i64 (cpF rs ra he)]) ∧ NumsC w' v (capL rs ra he)) ∧ Below w.heap.size w w' := by
  by_cases h0 : cpF rs ra he = 0
  · by_cases hl : rs.length = 0
    · have : rs = [] := List.length_eq_zero_iff.1 hl
      subst this
      obtain ⟨a, cap, rfl⟩ := hu.parts
      rw [capL_none, h0]
      refine (rcap_none a cap ra he w hu h0).mono ?_
      rintro r w' ⟨rfl, hb⟩
      exact ⟨⟨_, rfl, .inl ⟨_, _, rfl, rfl⟩⟩, hb⟩
    · obtain ⟨b, off, cap, rfl, hb, -, -⟩ := hu.spot (by omega)
      rw [h0]
      exact rcap_walk b off rs.length cap rs ra he w rfl (by omega) hb hu h0 hwf ((rgF_zero rs).1 (cpF_zero h0).1).len
  · rw [capL_fault h0]
    refine (rcap_fault u rs ra he w hu hwf h0).mono ?_
    rintro r w' ⟨rfl, hb⟩
    exact ⟨⟨_, rfl, .inl ⟨_, _, rfl, rfl⟩⟩, hb⟩

set_option maxRecDepth 100000 in
set_option maxHeartbeats 8000000 in
theorem stepsmatch (u : Value) (rs : List Rung) (p q ra he : Int) (w : World) (hS : Rungs w u rs) (hwf : ∀ y ∈ rs, y.nm.size ≤ maxLen) :
    Calls Try.prog 3 #[u, .agg #[.int .i64 p, .int .i64 q], .int .i64 ra, .int .i64 he] w fun e w' => e = .returned (.bool true) ∧ Below w.heap.size w w' := by
  have H1 : Hid (∀ W, Below w.heap.size w W → Calls Try.prog 6 #[u, .agg #[.int .i64 p, .int .i64 q]] W fun r w' => (∃ v, r = .returned (.tuple #[v, .bool (stepsB rs p q), .int .i64 (stF rs p q)]) ∧ NumsC w' v (stepsL rs p q)) ∧ Below W.heap.size W w') := Lib.hid (fun W hb => Steps_any u rs p q W (hS.below hb (Nat.le_refl _)) hwf)
  have H2 : Hid (∀ W, Below w.heap.size w W → Calls Try.prog 7 #[u, .agg #[.int .i64 p, .int .i64 q]] W fun r w' => (∃ v, r = .returned (.tuple #[v, .bool (stepsB rs p q), .int .i64 (stF rs p q)]) ∧ NumsC w' v (stepsL rs p q)) ∧ Below W.heap.size W w') := Lib.hid (fun W hb => rSteps_any u rs p q W (hS.below hb (Nat.le_refl _)) hwf)
  have H3 : Hid (∀ W, Below w.heap.size w W → Calls Try.prog 9 #[u, .int .i64 ra, .int .i64 he] W fun r w' => (∃ v, r = .returned (.tuple #[v, .int .i64 (cpF rs ra he)]) ∧ NumsC w' v (capL rs ra he)) ∧ Below W.heap.size W w') := Lib.hid (fun W hb => Capped_any u rs ra he W (hS.below hb (Nat.le_refl _)) hwf)
  have H4 : Hid (∀ W, Below w.heap.size w W → Calls Try.prog 10 #[u, .int .i64 ra, .int .i64 he] W fun r w' => (∃ v, r = .returned (.tuple #[v, .int .i64 (cpF rs ra he)]) ∧ NumsC w' v (capL rs ra he)) ∧ Below W.heap.size W w') := Lib.hid (fun W hb => rCapped_any u rs ra he W (hS.below hb (Nat.le_refl _)) hwf)
  have H5 : Hid (∀ W, Below w.heap.size w W → Calls Try.prog 11 #[u, .agg #[.int .i64 p, .int .i64 q]] W fun r w' => (∃ v, r = .returned (.tuple #[v, .int .i64 (stF rs p q)]) ∧ Pairs w' v (wrongL rs p q)) ∧ Below W.heap.size W w') := Lib.hid (fun W hb => Wrong_any u rs p q W (hS.below hb (Nat.le_refl _)) hwf)
  have H6 : Hid (∀ W, Below w.heap.size w W → Calls Try.prog 12 #[u, .agg #[.int .i64 p, .int .i64 q]] W fun r w' => (∃ v, r = .returned (.tuple #[v, .int .i64 (stF rs p q)]) ∧ Pairs w' v (wrongL rs p q)) ∧ Below W.heap.size W w') := Lib.hid (fun W hb => rWrong_any u rs p q W (hS.below hb (Nat.le_refl _)) hwf)
  obtain ⟨F, hF⟩ : ∃ F, stF rs p q = F := ⟨_, rfl⟩
  obtain ⟨SB, hSB⟩ : ∃ SB, stepsB rs p q = SB := ⟨_, rfl⟩
  obtain ⟨SL, hSL⟩ : ∃ SL, stepsL rs p q = SL := ⟨_, rfl⟩
  obtain ⟨CF, hCF⟩ : ∃ CF, cpF rs ra he = CF := ⟨_, rfl⟩
  obtain ⟨CL, hCL⟩ : ∃ CL, capL rs ra he = CL := ⟨_, rfl⟩
  obtain ⟨WL, hWL⟩ : ∃ WL, wrongL rs p q = WL := ⟨_, rfl⟩
  rw [hF, hSB, hSL] at H1 H2
  rw [hCF, hCL] at H3 H4
  rw [hF, hWL] at H5 H6
  have fz : (F != F) = false := by simp
  have fz1 : (F == F) = true := by simp
  have cz : (CF != CF) = false := by simp
  have cz1 : (CF == CF) = true := by simp
  have sz : (SB != SB) = false := by simp
  have sz1 : (SB == SB) = true := by simp
  clear hF hSB hSL hCF hCL hWL hS hwf
  have b1 : Below w.heap.size w (w.alloc (.cells #[.int .i64 p, .int .i64 q] 24)) := (Below.refl _ w).alloc (Nat.le_refl _) _
  have T1 := Two.new w p q 24
  go_enter Try.func3, Try.ntmps3
  go_upto_region 1 with fail
  generalize w.alloc (.cells #[.int .i64 p, .int .i64 q] 24) = W at *
  have k0 := T1.c0; have k1 := T1.c1; have kl := T1.lt
  go_wp2_with fail
  refine (H1.out _ b1).mono ?_; rintro e w1 ⟨⟨v1, rfl, n1⟩, b2⟩
  have c1 := b1.trans (b2.mono b1.size)
  have T1 := T1.below b2 T1.lt
  have N1 := Lib.hid n1
  clear n1 b2 k0 k1 kl b1
  have k0 := T1.c0; have k1 := T1.c1; have kl := T1.lt
  go_wp2_with fail
  refine (H2.out _ c1).mono ?_; rintro e w2 ⟨⟨v2, rfl, n2⟩, b2⟩
  have c2 := c1.trans (b2.mono c1.size)
  have T1 := T1.below b2 T1.lt
  have N1 := Lib.hid (N1.out.below b2 (Nat.le_refl _))
  have N2 := Lib.hid n2
  clear n2 b2 k0 k1 kl c1
  go_wp2_with fail
  refine (equalI_same _ _ SL _ N1.out N2.out).mono ?_; rintro e w3 ⟨rfl, b3⟩
  have c3 := c2.trans (b3.mono c2.size)
  have T1 := T1.below b3 T1.lt
  clear b3 c2 N1 N2
  go_wp2_with fail
  refine (H3.out _ c3).mono ?_; rintro e w4 ⟨⟨v4, rfl, n4⟩, b4⟩
  have c4 := c3.trans (b4.mono c3.size)
  have T1 := T1.below b4 T1.lt
  have N4 := Lib.hid n4
  clear n4 b4 c3
  go_wp2_with fail
  refine (H4.out _ c4).mono ?_; rintro e w5 ⟨⟨v5, rfl, n5⟩, b5⟩
  have c5 := c4.trans (b5.mono c4.size)
  have T1 := T1.below b5 T1.lt
  have N4 := Lib.hid (N4.out.below b5 (Nat.le_refl _))
  have N5 := Lib.hid n5
  clear n5 b5 c4
  go_wp2_with fail
  refine (equalI_same _ _ CL _ N4.out N5.out).mono ?_; rintro e w6 ⟨rfl, b6⟩
  have c6 := c5.trans (b6.mono c5.size)
  have T1 := T1.below b6 T1.lt
  clear b6 c5 N4 N5
  have k0 := T1.c0; have k1 := T1.c1; have kl := T1.lt
  go_wp2_with fail
  refine (H5.out _ c6).mono ?_; rintro e w7 ⟨⟨v7, rfl, n7⟩, b7⟩
  have c7 := c6.trans (b7.mono c6.size)
  have T1 := T1.below b7 T1.lt
  have N7 := Lib.hid n7
  clear n7 b7 k0 k1 kl c6
  have k0 := T1.c0; have k1 := T1.c1; have kl := T1.lt
  go_wp2_with fail
  refine (H6.out _ c7).mono ?_; rintro e w8 ⟨⟨v8, rfl, n8⟩, b8⟩
  have c8 := c7.trans (b8.mono c7.size)
  have N7 := Lib.hid (N7.out.below b8 (Nat.le_refl _))
  have N8 := Lib.hid n8
  clear n8 b8 k0 k1 kl c7 T1
  go_wp2_with fail
  refine (equalF_same _ _ WL _ N7.out N8.out).mono ?_; rintro e w9 ⟨rfl, q9, rfl⟩
  have c9 := below_drewN c8 q9
  go_wp2_with fail
  refine (awake5_any _).mono ?_; rintro e w10 ⟨rfl, b10⟩
  go_wp2_with fail
  go_ret
  exact ⟨rfl, c9.trans (b10.mono c9.size)⟩

end Go.Proofs.Ytinckidkophobaa
