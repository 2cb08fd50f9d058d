/- hullOf, Hull (program). -/
import Derived.Test.YtinckidkophobaaStay
import Derived.Test.YtinckidkophobaaBelowX
import Derived.Deep.DeepCutAuto
import Derived.Deep.CutBlock
namespace Go.Proofs.Ytinckidkophobaa
set_option linter.unusedVariables false
set_option linter.unusedSimpArgs false
open Go.RowKit Go.Shelf Go.Deep

theorem hown_form {w : World} {base : Nat} {e : TypeId} {size : Nat} {v : Value} {n : Nat} {xs : List Value} (h : w.ownsRow base e size v n xs) : ∃ a c, v = .slice a n c := by
  rcases h.2 with ⟨rfl, h0⟩ | ⟨g, cap, cur, rfl, _⟩
  · exact ⟨none, 0, by rw [h0]⟩
  · exact ⟨_, _, rfl⟩
/-- A row of the call's own, but for its last elements. -/
theorem own_cut {w : World} {base : Nat} {e : TypeId} {g n cap m : Nat} {xs : List Value} (h : w.ownsRow base e 1 (.slice (some ⟨g, 0, none⟩) n cap) n xs) (hm : m ≤ n) : w.ownsRow base e 1 (.slice (some ⟨g, 0, none⟩) m cap) m (xs.take m) := by
  refine ⟨by rw [List.length_take, h.1]; omega, ?_⟩
  rcases h.2 with ⟨hv, -⟩ | ⟨g', cap', cur, hv, hb, hg, hnc, hcm, hcs, htake⟩
  · simp at hv
  · simp only [Value.slice.injEq, Option.some.injEq, Addr.mk.injEq, and_true] at hv
    obtain ⟨rfl, -, rfl⟩ := hv
    refine .inr ⟨g, cap, cur, rfl, hb, hg, by omega, hcm, hcs, ?_⟩
    rw [← htake, List.take_take]
    congr 1
    omega
def cornV (st : List Nat) : List Value := (cornI st).map (Value.int .i64)
theorem cornV_len (st : List Nat) : (cornV st).length = st.length := by simp [cornV, cornI]
theorem cornV_cons (a : Nat) (t : List Nat) : cornV (a :: t) = cornV t ++ [.int .i64 (a : Int)] := by simp [cornV, cornI_cons]
theorem cornV_cut (a : Nat) (t : List Nat) : (cornV (a :: t)).take t.length = cornV t := by
  rw [cornV_cons, ← cornV_len t, List.take_left]
theorem corn_nums {w : World} {base : Nat} {e : TypeId} {v : Value} {st : List Nat} (h : w.ownsRow base e 1 v st.length (cornV st)) : NumsC w v (cornI st) := by
  have e1 : (cornI st).length = st.length := by simp [cornI]
  rw [← e1] at h
  exact NumsC.ofOwn h
def hullSkip (rs : List Rung) (r : Rung) : List Nat → Bool
  | [] => false
  | a :: _ => decide (r.qu ≤ (rs.getD a rung0).qu)
theorem hullTo_step {rs : List Rung} {k : Nat} {st : List Nat} {r : Rung} (h : hullTo rs k = st) (e : rs.getD k rung0 = r) : hullTo rs (k + 1) = if hullSkip rs r st = true then st else k :: popTo rs r st := by
  rw [hullTo, h]
  subst e
  cases st with
  | nil => rfl
  | cons a t =>
    rw [hullStep, hullSkip]
    by_cases hq : (rs.getD k rung0).qu ≤ (rs.getD a rung0).qu
    · rw [if_pos hq, decide_eq_true hq, if_pos rfl]
    · rw [if_neg hq, decide_eq_false hq, if_neg Bool.false_ne_true]
theorem popTo_len (rs : List Rung) (r : Rung) : ∀ st, (popTo rs r st).length ≤ st.length
  | [] => by simp [popTo]
  | a :: t => by
    rw [popTo]
    split
    · exact Nat.le_refl _
    · have := popTo_len rs r t; simp; omega
def hullL (rs : List Rung) : List Int := if rgF rs = 0 then cornI (hullTo rs rs.length) else []
end Go.Proofs.Ytinckidkophobaa
