/- slices.ContainsFunc at renditions: its contract laid at these numbers. -/
import Derived.Test.YtinckidkophobaaRungCmp
import Derived.Shelf.SlicesQ.IndexFunc
namespace Go.Proofs.Ytinckidkophobaa
set_option linter.unusedVariables false
set_option linter.unusedSimpArgs false
open Go.RowKit Go.Shelf Go.Deep

def rcontainsRen : Go.Shelf.Ren := ⟨fun | 6 => 60 | 8 => 36 | n => n, fun | 0 => 0 | 3 => 3 | 4 => 4 | 22 => 22 | 23 => 56 | 25 => 64 | n => n, fun | n => n⟩
theorem rcontainsLays : Go.Proofs.SlLaysH0.n8 Try.prog rcontainsRen := {
  mixed := by kernel_rfl
  f6 := ⟨"slices.IndexFunc[[]headend/api.Rung,headend/api.Rung]", by kernel_rfl, Try.func60.trans (congrArg some (by kernel_rfl))⟩
  f8 := ⟨"slices.ContainsFunc[[]headend/api.Rung,headend/api.Rung]", by kernel_rfl, Try.func36.trans (congrArg some (by kernel_rfl))⟩
  t0 := Try.underlying0
  a0 := Try.isAgg0
  z0 := Try.sizeOf0
  v0 := Try.zeroValue0
  t3 := Try.underlying3
  a3 := Try.isAgg3
  z3 := Try.sizeOf3
  v3 := Try.zeroValue3
  t4 := Try.underlying4
  a4 := Try.isAgg4
  z4 := Try.sizeOf4
  v4 := Try.zeroValue4
  t22 := Try.underlying22
  a22 := Try.isAgg22
  z22 := Try.sizeOf22
  v22 := Try.zeroValue22
  t25 := Try.underlying64
  a25 := Try.isAgg64
  z25 := Try.sizeOf64
  v25 := Try.zeroValue64 }
def encR (y : Rung) : List Value := [.string y.nm, .int .i64 y.ra, .int .i64 y.he, .int .i64 y.qu]
theorem getE_rung (L : List Rung) (j : Nat) : L[j]! = L.getD j rung0 := by
  rw [List.getElem!_eq_getElem?_getD, List.getD_eq_getElem?_getD]; rfl
theorem rindex_none (a : Option Addr) (c : Nat) (fv : Value) (w : World) :
    Calls Try.prog 60 #[.slice a 0 c, fv] w fun e w' => e = .returned (.int .i64 (-1)) ∧ w = w' := by
  go_enter Try.func60, Try.ntmps60
  go_wp2_with fail
  refine wp_loop_rounds 1 ?_
  rw [rounds_succ]
  go_wp2_with fail
  go_ret
  exact ⟨rfl, rfl⟩
theorem rcontains_none (a : Option Addr) (c : Nat) (fv : Value) (w : World) :
    Calls Try.prog 36 #[.slice a 0 c, fv] w fun e w' => e = .returned (.bool false) ∧ w = w' := by
  go_enter Try.func36, Try.ntmps36
  go_wp2_with fail
  refine (rindex_none _ _ _ _).mono ?_; rintro e w' ⟨rfl, rfl⟩
  go_wp2_with fail
  go_ret
  exact ⟨rfl, rfl⟩
/-- Whether one of the first renditions is wanted. -/
theorem rcontains_any (v : Value) (L : List Rung) (p : Rung → Bool) (g : Nat) (lb : Array Value) (eg : ∀ args w, (callFunc g args).run Try.prog w = .ok (.enter g args) w) (w : World) (h : Rungs w v L)
    (hp : PredBelow Try.prog g lb (fun x => .agg (encR x).toArray) p w) :
    Calls Try.prog 36 #[v, .func (.func g) #[] lb] w fun e w' => e = .returned (.bool (L.any p)) ∧ Below w.heap.size w w' := by
  rcases h with ⟨a, cap, rfl, h0⟩ | ⟨b, off, cap, rfl, hne, hlt, hl, hm, hc⟩
  · have : L = [] := List.length_eq_zero_iff.1 h0
    subst this
    refine (rcontains_none a cap _ w).mono ?_
    rintro e w' ⟨rfl, rfl⟩
    exact ⟨rfl, Below.refl _ _⟩
  · have := Go.Proofs.AnyQ.slices_ContainsFunc rcontainsLays 4 Try.isAgg56 Try.sizeOf56 encR (fun _ => rfl) p g lb eg b off L.length cap L w hp (Nat.le_refl _) (by unfold maxLen at hm; omega) hlt (fun j hj i v hv => by
        rw [getE_rung] at hv
        have hi : i < 4 := by
          have := (List.getElem?_eq_some_iff.1 hv).1
          simpa [encR] using this
        have h1 := hc j hj i hi
        rw [h1, ← hv]
        have : i = 0 ∨ i = 1 ∨ i = 2 ∨ i = 3 := by omega
        rcases this with rfl | rfl | rfl | rfl <;> rfl)
    rw [List.take_of_length_le (Nat.le_refl _)] at this
    exact this
theorem Rungs.take {w : World} {b off n cap : Nat} {ss : List Rung} (h : Rungs w (.slice (some ⟨b, off, none⟩) n cap) ss) (k : Nat) (hk : k ≤ ss.length) : Rungs w (.slice (some ⟨b, off, none⟩) k cap) (ss.take k) := by
  by_cases h0 : k = 0
  · subst h0
    exact .inl ⟨_, _, rfl, by simp⟩
  · rcases h with ⟨a, c, hv, h1⟩ | ⟨b', off', cap', hv, hne, hlt, hl, hm, hc⟩
    · omega
    · simp only [Value.slice.injEq, Option.some.injEq, Addr.mk.injEq, and_true] at hv
      obtain ⟨⟨rfl, rfl⟩, rfl, rfl⟩ := hv
      have e : (ss.take k).length = k := by rw [List.length_take]; omega
      unfold Rungs
      rw [e]
      refine .inr ⟨b, off, cap, rfl, by omega, hlt, by omega, hm, fun j hj c hc' => ?_⟩
      have e2 : (ss.take k).getD j rung0 = ss.getD j rung0 := by simp [List.getD_eq_getElem?_getD, List.getElem?_take, hj]
      show w.cell? _ = some (rungC ((ss.take k).getD j rung0) c)
      rw [e2]
      exact hc j (by omega) c hc'

/-- The closure that looks for a name. -/
theorem sameName_any (x r : Rung) (X : Nat) (w : World) (hX : w.cell? ⟨X, 0, none⟩ = some (.string r.nm)) (hlt : X < w.heap.size) :
    Calls Try.prog 58 #[.agg (encR x).toArray, .pointer (some ⟨X, 0, none⟩)] w fun e w' => e = .returned (.bool (sameN x.nm r.nm)) ∧ Below w.heap.size w w' := by
  obtain ⟨nm, ra, he, qu⟩ := x
  simp only [encR]
  have hX2 : (w.alloc (.cells #[.string nm, .int .i64 ra, .int .i64 he, .int .i64 qu] 56)).cell? ⟨X, 0, none⟩ = some (.string r.nm) := by rw [World.cell?_alloc_past _ _ _ (by show X < _; omega)]; exact hX
  obtain ⟨q, hq⟩ : ∃ q, sameN nm r.nm = q := ⟨_, rfl⟩
  rw [hq]
  unfold sameN at hq
  go_enter Try.func58, Try.ntmps58
  go_wp2_with fail
  go_ret
  exact ⟨bret_bool (by first | rfl | exact hq | simp [hq]), (Below.refl _ _).alloc (Nat.le_refl _) _⟩

end Go.Proofs.Ytinckidkophobaa
