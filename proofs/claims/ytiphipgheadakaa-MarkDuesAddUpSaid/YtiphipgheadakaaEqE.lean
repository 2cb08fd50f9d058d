/- slices.Equal at events. -/
import Derived.Test.YtiphipgheadakaaRDue
import Derived.Deep.SlicePairs
import Derived.Shelf.SlicesQ.Equal
import Derived.Laws.StructEq
namespace Go.Proofs.Ytiphipgheadakaa
set_option linter.unusedVariables false
set_option linter.unusedSimpArgs false
open Go.RowKit Go.Shelf Go.Deep

def equalERen : Go.Shelf.Ren := ⟨fun | 8 => 33 | n => n, fun | 0 => 0 | 3 => 3 | 4 => 4 | 22 => 53 | 24 => 58 | n => n, fun | n => n⟩
theorem equalELays : Go.Proofs.SlLaysQ.n8 Try.prog equalERen := {
  mixed := by kernel_rfl
  f8 := ⟨"slices.Equal[[]headend/api.Event,headend/api.Event]", by kernel_rfl, Try.func33.trans (congrArg some (by kernel_rfl))⟩
  t0 := Try.underlying0
  a0 := Try.isAgg0
  z0 := Try.sizeOf0
  v0 := Try.zeroValue0
  t3 := Try.underlying3
  a3 := Try.isAgg3
  z3 := Try.sizeOf3
  v3 := Try.zeroValue3
  t4 := Try.underlying4
  a4 := Try.isAgg4
  z4 := Try.sizeOf4
  v4 := Try.zeroValue4
  t22 := Try.underlying53
  a22 := Try.isAgg53
  z22 := Try.sizeOf53
  v22 := Try.zeroValue53 }
def evEq (x y : Ev) : Bool := x.pl == y.pl && (x.ad.toList == y.ad.toList && x.ki == y.ki)
theorem evNeq : NeqAt Try.prog 58 (fun x => .agg (evC x).toArray) evEq := by
  refine ⟨fun x y w => ?_, GuardAt.agg _ (by kernel_rfl)⟩
  have u3 := Try.underlying3
  have a3 := Try.isAgg3
  have z3 := Try.sizeOf3
  have u9 := Try.underlying9
  have a9 := Try.isAgg9
  have z9 := Try.sizeOf9
  have hS : Try.prog.underlying 58 = some (.struct (Try.prog.fieldsOf 58)) := by kernel_rfl
  have hp : Try.prog.stoodInHeld 58 = false := by kernel_rfl
  obtain ⟨a, b, c⟩ := x; obtain ⟨a', b', c'⟩ := y
  simp only [evC, evEq]
  rw [run_neq_struct, show (10000 : Nat) = 9999 + 1 from rfl, run_equalIn_agg w 9999 58 _ _ hS hp]
  simp only [Program.fieldsOf, Try.underlying58]
  go_simp
  by_cases h1 : a = a' <;> by_cases h2 : c = c' <;> by_cases h3 : b.toList = b'.toList <;> simp [h1, h2, h3]
set_option maxHeartbeats 1000000 in
theorem equalE_lens (a1 a2 : Option Addr) (n m c d : Nat) (w : World) (h : n ≠ m) (hm : n ≤ 9223372036854775807) (hm2 : m ≤ 9223372036854775807) :
    Calls Try.prog 33 #[.slice a1 n c, .slice a2 m d] w fun e w' => e = .returned (.bool false) ∧ w = w' := by
  have e1 : ((n : Int) == (m : Int)) = false := by simp; omega
  have e2 : ((n : Int) != (m : Int)) = true := by simp; omega
  go_enter Try.func33, Try.ntmps33
  go_wp2
  go_ret
  exact ⟨rfl, rfl⟩
set_option maxHeartbeats 1000000 in
theorem equalE_empty (a1 a2 : Option Addr) (c d : Nat) (w : World) :
    Calls Try.prog 33 #[.slice a1 0 c, .slice a2 0 d] w fun e w' => e = .returned (.bool true) ∧ w = w' := by
  go_enter Try.func33, Try.ntmps33
  go_wp2_with fail
  refine wp_loop_rounds 1 ?_
  rw [rounds_succ]
  go_wp2_with fail
  go_ret
  exact ⟨rfl, rfl⟩
theorem evEq_refl (x : Ev) : evEq x x = true := by simp [evEq]
theorem allEq_evs : ∀ (xs : List Ev), Lib.allEq evEq xs xs = true
  | [] => by simp [Lib.allEq]
  | x :: xs => by
    have h := allEq_evs xs
    have e := evEq_refl x
    simp [Lib.allEq, e] at *
    try simp [h]
theorem ecells_at (L : List Ev) : ∀ j, j < L.length → ∀ i u, (evC (L.getD j ev0))[i]? = some u → (ecells L)[j * 4 + i]? = some u := by
  induction L with
  | nil => intro j hj; simp at hj
  | cons y L ih =>
    intro j hj i u hu
    have e : ecells (y :: L) = evC y ++ ecells L := rfl
    have h4 : (evC y).length = 4 := rfl
    cases j with
    | zero =>
      have hi : i < 4 := (List.getElem?_eq_some_iff.1 hu).1
      rw [e, List.getElem?_append_left (by rw [h4]; omega), Nat.zero_mul, Nat.zero_add]
      exact hu
    | succ j =>
      rw [e, List.getElem?_append_right (by rw [h4]; omega), h4, show (j + 1) * 4 + i - 4 = j * 4 + i by omega]
      exact ih j (by simpa using hj) i u hu
/-- The slice value v reads as the events L. -/
def Evr (w : World) (v : Value) (L : List Ev) : Prop :=
  (∃ a cap, v = .slice a 0 cap ∧ L = []) ∨
  ∃ b off cap, v = .slice (some ⟨b, off, none⟩) L.length cap ∧ L ≠ [] ∧ b < w.heap.size ∧ L.length ≤ cap ∧ cap ≤ maxLen ∧ ∀ j, j < L.length → ∀ i u, (evC (L.getD j ev0))[i]? = some u → w.cell? ⟨b, off + j * 4 + i, none⟩ = some u
theorem Evr.below {B : Nat} {w w' : World} {v : Value} {L : List Ev} (h : Evr w v L) (hb : Below B w w') (hB : w.heap.size ≤ B) : Evr w' v L := by
  rcases h with h | ⟨b, off, cap, hv, hne, hlt, hl, hm, hc⟩
  · exact .inl h
  · refine .inr ⟨b, off, cap, hv, hne, Nat.lt_of_lt_of_le hlt hb.size, hl, hm, fun j hj i u hu => ?_⟩
    rw [hb.cell (p := ⟨b, off + j * 4 + i, none⟩) (by show b < B; omega)]
    exact hc j hj i u hu
theorem Evr.parts {w : World} {v : Value} {L : List Ev} (h : Evr w v L) : ∃ a cap, v = .slice a L.length cap ∧ L.length ≤ maxLen := by
  rcases h with ⟨a, c, rfl, rfl⟩ | ⟨b, o, c, rfl, -, -, hl, hm, -⟩
  · exact ⟨a, c, rfl, by simp [maxLen]⟩
  · exact ⟨_, c, rfl, by omega⟩
theorem Evr.ofOwn {w : World} {base : Nat} {e : TypeId} {v : Value} {L : List Ev} (h : w.ownsRow base e 4 v L.length (ecells L)) : Evr w v L := by
  by_cases hz : L = []
  · subst hz
    rcases h.2 with ⟨rfl, _⟩ | ⟨g, cap, cur, rfl, _⟩
    · exact .inl ⟨_, _, rfl, rfl⟩
    · exact .inl ⟨_, _, rfl, rfl⟩
  · have hl : 0 < L.length := List.length_pos_iff.2 hz
    have hlt := h.lt
    rcases h.2 with ⟨_, h0⟩ | ⟨g, cap, cur, rfl, hb, hg, hnc, hcm, hcs, htake⟩
    · omega
    · refine .inr ⟨g, 0, cap, rfl, hz, (hlt g rfl).2, hnc, hcm, fun j hj i u hu => ?_⟩
      have hi : i < 4 := (List.getElem?_eq_some_iff.1 hu).1
      have := ecells_at L j hj i u hu
      rw [Nat.zero_add]
      have h2 := World.ownsRow.cells h (g := g) rfl (j * 4 + i) u this
      have hadd : (⟨g, 0, none⟩ : Addr).add (j * 4 + i) = ⟨g, j * 4 + i, none⟩ := by unfold Addr.add; split <;> simp_all
      rwa [hadd] at h2
/-- slices.Equal at one list of events twice. -/
theorem equalE_same (u v : Value) (xs : List Ev) (w : World) (hx : Evr w u xs) (hy : Evr w v xs) :
    Calls Try.prog 33 #[u, v] w fun e w' => e = .returned (.bool true) ∧ ∃ q, w' = w.drewN q := by
  have hm : xs.length ≤ 9223372036854775807 := by
    obtain ⟨a, c, -, h2⟩ := hx.parts
    unfold maxLen at h2; omega
  rcases hx with ⟨a, c, rfl, hx0⟩ | ⟨b, o, c, rfl, hne, hlt, hl, hmm, hc⟩
  · rcases hy with ⟨a', c', rfl, hy0⟩ | ⟨b', o', c', rfl, hne', hlt', hl', hm', hc'⟩
    · refine (equalE_empty _ _ _ _ w).mono ?_
      rintro e w' ⟨rfl, rfl⟩
      exact ⟨rfl, 0, rfl⟩
    · exact absurd hx0 hne'
  · rcases hy with ⟨a', c', rfl, hy0⟩ | ⟨b', o', c', rfl, hne', hlt', hl', hm', hc'⟩
    · exact absurd hy0 hne
    · have cellsOf : ∀ {b o : Nat}, (∀ j, j < xs.length → ∀ i u, (evC (xs.getD j ev0))[i]? = some u → w.cell? ⟨b, o + j * 4 + i, none⟩ = some u) → ∀ j, j < xs.length → ∀ i v, (evC xs[j]!)[i]? = some v → w.cell? ⟨b, o + j * 4 + i, none⟩ = some v := by
        intro b o hh j hj i v hv
        rw [show xs[j]! = xs.getD j ev0 by rw [List.getElem!_eq_getElem?_getD, List.getD_eq_getElem?_getD]; rfl] at hv
        exact hh j hj i v hv
      have := Go.Proofs.AnyQ.slices_Equal equalELays 4 Try.isAgg58 Try.sizeOf58 evC (fun _ => rfl) evEq evNeq b o xs.length c b' o' xs.length c' xs xs w (Nat.le_refl _) (Nat.le_refl _) hm hm (cellsOf hc) (cellsOf hc')
      rw [List.take_of_length_le (Nat.le_refl _), allEq_evs] at this
      exact this
end Go.Proofs.Ytiphipgheadakaa
