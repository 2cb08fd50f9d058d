/- slices.Equal at breaks. -/
import Derived.Test.YtiphipgheadakaaRChkB
import Derived.Deep.SlicePairs
import Derived.Shelf.SlicesQ.Equal
import Derived.Laws.StructEq
namespace Go.Proofs.Ytiphipgheadakaa
set_option linter.unusedVariables false
set_option linter.unusedSimpArgs false
open Go.RowKit Go.Shelf Go.Deep

def equalBRen : Go.Shelf.Ren := ⟨fun | 8 => 19 | n => n, fun | 0 => 0 | 3 => 3 | 4 => 4 | 22 => 28 | 24 => 35 | n => n, fun | n => n⟩
theorem equalBLays : Go.Proofs.SlLaysQ.n8 Try.prog equalBRen := {
  mixed := by kernel_rfl
  f8 := ⟨"slices.Equal[[]headend/api.Break,headend/api.Break]", by kernel_rfl, Try.func19.trans (congrArg some (by kernel_rfl))⟩
  t0 := Try.underlying0
  a0 := Try.isAgg0
  z0 := Try.sizeOf0
  v0 := Try.zeroValue0
  t3 := Try.underlying3
  a3 := Try.isAgg3
  z3 := Try.sizeOf3
  v3 := Try.zeroValue3
  t4 := Try.underlying4
  a4 := Try.isAgg4
  z4 := Try.sizeOf4
  v4 := Try.zeroValue4
  t22 := Try.underlying28
  a22 := Try.isAgg28
  z22 := Try.sizeOf28
  v22 := Try.zeroValue28 }
def bkV (y : Bk) : List Value := [.int .i64 y.ev, .int .i64 y.be, .int .i64 y.en]
def bcells (L : List Bk) : List Value := L.flatMap bkV
theorem bcells_snoc (L : List Bk) (y : Bk) : bcells (L ++ [y]) = bcells L ++ bkV y := by simp [bcells]
theorem bcells_at (L : List Bk) : ∀ j, j < L.length → ∀ i u, (bkV (L.getD j bk0))[i]? = some u → (bcells L)[j * 3 + i]? = some u := by
  induction L with
  | nil => intro j hj; simp at hj
  | cons y L ih =>
    intro j hj i u hu
    have e : bcells (y :: L) = bkV y ++ bcells L := rfl
    have h4 : (bkV y).length = 3 := rfl
    cases j with
    | zero =>
      have hi : i < 3 := (List.getElem?_eq_some_iff.1 hu).1
      rw [e, List.getElem?_append_left (by rw [h4]; omega), Nat.zero_mul, Nat.zero_add]
      exact hu
    | succ j =>
      rw [e, List.getElem?_append_right (by rw [h4]; omega), h4, show (j + 1) * 3 + i - 3 = j * 3 + i by omega]
      exact ih j (by simpa using hj) i u hu
theorem Try.infoBk : (Try.prog.info? 35).map (fun i => (i.zero, i.size, i.bytes)) = some (some (.agg #[.int .i64 0, .int .i64 0, .int .i64 0]), 3, 24) := by kernel_rfl
def bkEq (x y : Bk) : Bool := x.ev == y.ev && (x.be == y.be && x.en == y.en)
theorem bkNeq : NeqAt Try.prog 35 (fun x => .agg (bkV x).toArray) bkEq := by
  refine ⟨fun x y w => ?_, GuardAt.agg _ (by kernel_rfl)⟩
  have u3 := Try.underlying3
  have a3 := Try.isAgg3
  have z3 := Try.sizeOf3
  have hS : Try.prog.underlying 35 = some (.struct (Try.prog.fieldsOf 35)) := by kernel_rfl
  have hp : Try.prog.stoodInHeld 35 = false := by kernel_rfl
  obtain ⟨a, b, c⟩ := x; obtain ⟨a', b', c'⟩ := y
  simp only [bkV, bkEq]
  rw [run_neq_struct, show (10000 : Nat) = 9999 + 1 from rfl, run_equalIn_agg w 9999 35 _ _ hS hp]
  simp only [Program.fieldsOf, Try.underlying35]
  go_simp
  by_cases h1 : a = a' <;> by_cases h2 : c = c' <;> by_cases h3 : b = b' <;> simp [h1, h2, h3]
set_option maxHeartbeats 1000000 in
theorem equalB_lens (a1 a2 : Option Addr) (n m c d : Nat) (w : World) (h : n ≠ m) (hm : n ≤ 9223372036854775807) (hm2 : m ≤ 9223372036854775807) :
    Calls Try.prog 19 #[.slice a1 n c, .slice a2 m d] w fun e w' => e = .returned (.bool false) ∧ w = w' := by
  have e1 : ((n : Int) == (m : Int)) = false := by simp; omega
  have e2 : ((n : Int) != (m : Int)) = true := by simp; omega
  go_enter Try.func19, Try.ntmps19
  go_wp2
  go_ret
  exact ⟨rfl, rfl⟩
set_option maxHeartbeats 1000000 in
theorem equalB_empty (a1 a2 : Option Addr) (c d : Nat) (w : World) :
    Calls Try.prog 19 #[.slice a1 0 c, .slice a2 0 d] w fun e w' => e = .returned (.bool true) ∧ w = w' := by
  go_enter Try.func19, Try.ntmps19
  go_wp2_with fail
  refine wp_loop_rounds 1 ?_
  rw [rounds_succ]
  go_wp2_with fail
  go_ret
  exact ⟨rfl, rfl⟩
theorem bkEq_refl (x : Bk) : bkEq x x = true := by simp [bkEq]
theorem allEq_bks : ∀ (xs : List Bk), Lib.allEq bkEq xs xs = true
  | [] => by simp [Lib.allEq]
  | x :: xs => by
    have h := allEq_bks xs
    have e := bkEq_refl x
    simp [Lib.allEq, e] at *
    try simp [h]
/-- The slice value v reads as the breaks L. -/
def Bkr (w : World) (v : Value) (L : List Bk) : Prop :=
  (∃ a cap, v = .slice a 0 cap ∧ L = []) ∨
  ∃ b off cap, v = .slice (some ⟨b, off, none⟩) L.length cap ∧ L ≠ [] ∧ b < w.heap.size ∧ L.length ≤ cap ∧ cap ≤ maxLen ∧ ∀ j, j < L.length → ∀ i u, (bkV (L.getD j bk0))[i]? = some u → w.cell? ⟨b, off + j * 3 + i, none⟩ = some u
theorem Bkr.below {B : Nat} {w w' : World} {v : Value} {L : List Bk} (h : Bkr w v L) (hb : Below B w w') (hB : w.heap.size ≤ B) : Bkr w' v L := by
  rcases h with h | ⟨b, off, cap, hv, hne, hlt, hl, hm, hc⟩
  · exact .inl h
  · refine .inr ⟨b, off, cap, hv, hne, Nat.lt_of_lt_of_le hlt hb.size, hl, hm, fun j hj i u hu => ?_⟩
    rw [hb.cell (p := ⟨b, off + j * 3 + i, none⟩) (by show b < B; omega)]
    exact hc j hj i u hu
theorem Bkr.ofOwn {w : World} {base : Nat} {e : TypeId} {v : Value} {L : List Bk} (h : w.ownsRow base e 3 v L.length (bcells L)) : Bkr w v L := by
  by_cases hz : L = []
  · subst hz
    rcases h.2 with ⟨rfl, _⟩ | ⟨g, cap, cur, rfl, _⟩
    · exact .inl ⟨_, _, rfl, rfl⟩
    · exact .inl ⟨_, _, rfl, rfl⟩
  · have hl : 0 < L.length := List.length_pos_iff.2 hz
    have hlt := h.lt
    rcases h.2 with ⟨_, h0⟩ | ⟨g, cap, cur, rfl, hb, hg, hnc, hcm, hcs, htake⟩
    · omega
    · refine .inr ⟨g, 0, cap, rfl, hz, (hlt g rfl).2, hnc, hcm, fun j hj i u hu => ?_⟩
      have := bcells_at L j hj i u hu
      rw [Nat.zero_add]
      have h2 := World.ownsRow.cells h (g := g) rfl (j * 3 + i) u this
      have hadd : (⟨g, 0, none⟩ : Addr).add (j * 3 + i) = ⟨g, j * 3 + i, none⟩ := by unfold Addr.add; split <;> simp_all
      rwa [hadd] at h2
/-- slices.Equal at one list of breaks twice. -/
theorem equalB_same (u v : Value) (xs : List Bk) (w : World) (hx : Bkr w u xs) (hy : Bkr w v xs) :
    Calls Try.prog 19 #[u, v] w fun e w' => e = .returned (.bool true) ∧ ∃ q, w' = w.drewN q := by
  rcases hx with ⟨a, c, rfl, hx0⟩ | ⟨b, o, c, rfl, hne, hlt, hl, hmm, hc⟩
  · rcases hy with ⟨a', c', rfl, hy0⟩ | ⟨b', o', c', rfl, hne', hlt', hl', hm', hc'⟩
    · refine (equalB_empty _ _ _ _ w).mono ?_
      rintro e w' ⟨rfl, rfl⟩
      exact ⟨rfl, 0, rfl⟩
    · exact absurd hx0 hne'
  · have hm : xs.length ≤ 9223372036854775807 := by unfold maxLen at hmm; omega
    rcases hy with ⟨a', c', rfl, hy0⟩ | ⟨b', o', c', rfl, hne', hlt', hl', hm', hc'⟩
    · exact absurd hy0 hne
    · have cellsOf : ∀ {b o : Nat}, (∀ j, j < xs.length → ∀ i u, (bkV (xs.getD j bk0))[i]? = some u → w.cell? ⟨b, o + j * 3 + i, none⟩ = some u) → ∀ j, j < xs.length → ∀ i v, (bkV xs[j]!)[i]? = some v → w.cell? ⟨b, o + j * 3 + i, none⟩ = some v := by
        intro b o hh j hj i v hv
        rw [show xs[j]! = xs.getD j bk0 by rw [List.getElem!_eq_getElem?_getD, List.getD_eq_getElem?_getD]; rfl] at hv
        exact hh j hj i v hv
      have := Go.Proofs.AnyQ.slices_Equal equalBLays 3 Try.isAgg35 Try.sizeOf35 bkV (fun _ => rfl) bkEq bkNeq b o xs.length c b' o' xs.length c' xs xs w (Nat.le_refl _) (Nat.le_refl _) hm hm (cellsOf hc) (cellsOf hc')
      rw [List.take_of_length_le (Nat.le_refl _), allEq_bks] at this
      exact this

end Go.Proofs.Ytiphipgheadakaa
