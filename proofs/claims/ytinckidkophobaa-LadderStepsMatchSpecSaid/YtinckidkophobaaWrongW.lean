/- The closures of Wrong (program); the rest of renditions. -/
import Derived.Test.YtinckidkophobaaStepPlain3
import Derived.Test.YtinckidkophobaaMore
import Derived.Test.YtinckidkophobaaSens
import Derived.Test.YtinckidkophobaaBelowX
namespace Go.Proofs.Ytinckidkophobaa
set_option linter.unusedVariables false
set_option linter.unusedSimpArgs false
open Go.RowKit Go.Shelf Go.Deep

theorem Rungs.drop {w : World} {b off n cap : Nat} {ss : List Rung} (h : Rungs w (.slice (some ⟨b, off, none⟩) n cap) ss) (k : Nat) (hk : k < ss.length) : Rungs w (.slice (some ⟨b, off + k * 4, none⟩) (n - k) (cap - k)) (ss.drop k) := by
  rcases h with ⟨a, c, hv, h1⟩ | ⟨b', off', cap', hv, hne, hlt, hl, hm, hc⟩
  · omega
  · simp only [Value.slice.injEq, Option.some.injEq, Addr.mk.injEq, and_true] at hv
    obtain ⟨⟨rfl, rfl⟩, rfl, rfl⟩ := hv
    have e : (ss.drop k).length = ss.length - k := by rw [List.length_drop]
    unfold Rungs
    rw [e]
    refine .inr ⟨b, off + k * 4, cap - k, rfl, by omega, hlt, by omega, by omega, fun j hj c hc' => ?_⟩
    have e2 : (ss.drop k).getD j rung0 = ss.getD (k + j) rung0 := by simp [List.getD_eq_getElem?_getD]
    show w.cell? _ = some (rungC ((ss.drop k).getD j rung0) c)
    rw [e2, show off + k * 4 + j * 4 + c = off + (k + j) * 4 + c by omega]
    exact hc (k + j) (by omega) c hc'
set_option maxRecDepth 100000 in
set_option maxHeartbeats 4000000 in
theorem taller_any (x r : Rung) (X : Nat) (w : World) (FX : Four w X r) :
    Calls Try.prog 37 #[.agg (encR x).toArray, .pointer (some ⟨X, 0, none⟩)] w fun e w' => e = .returned (.bool (decide (x.he < r.he))) ∧ Below w.heap.size w w' := by
  have FY := Four.new w x 56
  have FX := FX.alloc (.cells #[.string x.nm, .int .i64 x.ra, .int .i64 x.he, .int .i64 x.qu] 56)
  have hb : Below w.heap.size w (w.alloc (.cells #[.string x.nm, .int .i64 x.ra, .int .i64 x.he, .int .i64 x.qu] 56)) := (Below.refl _ w).alloc (Nat.le_refl _) _
  have ex : encR x = [.string x.nm, .int .i64 x.ra, .int .i64 x.he, .int .i64 x.qu] := rfl
  rw [ex]
  clear ex
  go_enter Try.func37, Try.ntmps37
  go_upto_region 1 with fail
  generalize w.alloc (.cells #[.string x.nm, .int .i64 x.ra, .int .i64 x.he, .int .i64 x.qu] 56) = W at *
  have x1 := FX.c2; have y1 := FY.c2
  clear FX FY
  go_wp2_with fail
  go_ret
  exact ⟨rfl, hb⟩
theorem Try.infoFlaw : (Try.prog.info? 37).map (fun i => (i.zero, i.size, i.bytes)) = some (some (.agg #[.int .i64 0, .int .i64 0]), 2, 16) := by kernel_rfl
def fcells (xs : List (Int × Int)) : List Value := xs.flatMap fun y => [.int .i64 y.1, .int .i64 y.2]
theorem fcells_snoc (xs : List (Int × Int)) (a b : Int) : fcells (xs ++ [(a, b)]) = fcells xs ++ [.int .i64 a, .int .i64 b] := by simp [fcells]
/-- The flaws told: the block that holds their slice, and the slice's own row. -/
structure Told (W : World) (FB Z : Nat) (xs : List (Int × Int)) : Prop where
  row : ∃ v, W.cell? ⟨FB, 0, none⟩ = some v ∧ W.ownsRow Z 37 2 v xs.length (fcells xs)
  fr : W.frozen? ⟨FB, 0, none⟩ = false
  lt : FB < Z
  le : Z ≤ W.heap.size
theorem Told.below {W W' : World} {FB Z : Nat} {xs : List (Int × Int)} (h : Told W FB Z xs) (hb : Below W.heap.size W W') : Told W' FB Z xs := by
  obtain ⟨v, h1, h2⟩ := h.row
  have hl : FB < W.heap.size := Nat.lt_of_lt_of_le h.lt h.le
  exact ⟨⟨v, (hb.cell (p := ⟨FB, 0, none⟩) hl).trans h1, ownsRow_kept h2 hb (Nat.le_refl _)⟩, by rw [hb.frozen (p := ⟨FB, 0, none⟩) hl]; exact h.fr, h.lt, Nat.le_trans h.le hb.size⟩
theorem fown_form {w : World} {base : Nat} {e : TypeId} {size : Nat} {v : Value} {n : Nat} {xs : List Value} (h : w.ownsRow base e size v n xs) : ∃ a c, v = .slice a n c := by
  rcases h.2 with ⟨rfl, h0⟩ | ⟨g, cap, cur, rfl, _⟩
  · exact ⟨none, 0, by rw [h0]⟩
  · exact ⟨_, _, rfl⟩
theorem ownsRow_set {w : World} {base : Nat} {e : TypeId} {size : Nat} {v : Value} {n : Nat} {xs : List Value} (h : w.ownsRow base e size v n xs) (p : Addr) (hp : p.block < base) (u : Value) : (w.setCell p u).ownsRow base e size v n xs := by
  refine ⟨h.1, ?_⟩
  rcases h.2 with h' | ⟨g, cap, cur, rfl, h1, h2, h3⟩
  · exact .inl h'
  · refine .inr ⟨g, cap, cur, rfl, h1, ?_, h3⟩
    rw [Below.heap_setCell _ _ _ _ (by omega)]
    exact h2
set_option maxRecDepth 100000 in
set_option maxHeartbeats 4000000 in
/-- tell: what is so is appended. -/
theorem tell_any (bb : Bool) (K I : Nat) (FB Z : Nat) (xs : List (Int × Int)) (w : World) (h : Told w FB Z xs) (hx : xs.length ≤ 1000) :
    Calls Try.prog 35 #[.bool bb, .int .i64 (K : Int), .int .i64 (I : Int), .pointer (some ⟨FB, 0, none⟩)] w fun e w' => e = .returned (.tuple #[]) ∧ Told w' FB Z (xs ++ flA bb K I) ∧ BelowX Z FB w w' := by
  obtain ⟨i0, hi, hi0, hi1, hi2⟩ := info_parts Try.infoFlaw
  cases bb
  · have e1 : xs ++ flA false K I = xs := by simp [flA]
    rw [e1]
    clear e1
    go_enter Try.func35, Try.ntmps35
    go_wp2_with fail
    go_end0
    exact ⟨rfl, h, BelowX.refl _ _ _⟩
  · have e1 : xs ++ flA true K I = xs ++ [((K : Int), (I : Int))] := rfl
    rw [e1]
    clear e1
    obtain ⟨v, h1, hown⟩ := h.row
    have fr := h.fr
    have hfz := h.lt
    have hzw := h.le
    obtain ⟨a3, c3, rfl⟩ := fown_form hown
    have HX := Lib.hid hx
    obtain ⟨m, hm⟩ : ∃ m, xs.length = m := ⟨_, rfl⟩
    have HM := Lib.hid hm
    rw [hm] at hown h1 hx
    have hfw : FB < w.heap.size := by omega
    clear hm h
    go_enter Try.func35, Try.ntmps35
    go_wp2_with (at_builtin; refine wpList_append_own _ rfl _ _ 32 rfl Z 37 i0 (.agg #[.int .i64 0, .int .i64 0]) 2 16 Try.underlying32 hi hi0 hi1 hi2 rfl (by decide) _ _ _ rfl (hown.alloc _) ⟨w.heap.size, 0, none⟩ 1 1 [.int .i64 (K : Int), .int .i64 (I : Int)] rfl rfl ?k1 ?k2 ?k3 ?k4 ?k5 ?_)
    case k1 =>
      have := World.news_of_block (cs := #[.int .i64 (K : Int), .int .i64 (I : Int)]) (t := 37) (fr := (0, 0)) (heap_alloc_new w (.cells #[.int .i64 (K : Int), .int .i64 (I : Int)] 37))
      simpa using this
    case k2 => simp [Value.oneCell']
    case k3 => unfold maxLen; omega
    case k4 => omega
    case k5 => first | omega | (simp; omega)
    intro v' w4 hown4 hgrow4 _
    have b1 : Below Z w (w.alloc (.cells #[.int .i64 (K : Int), .int .i64 (I : Int)] 37)) := (Below.refl _ _).alloc hzw _
    have hb4 : Below Z w w4 := b1.grown hgrow4 (by simp; omega) (fun q hq => (hown.lt q hq).1)
    have h4 : w4.cell? ⟨FB, 0, none⟩ = some (.slice a3 m c3) := by rw [hb4.cell (p := ⟨FB, 0, none⟩) hfz]; exact h1
    have f4 : w4.frozen? ⟨FB, 0, none⟩ = false := by rw [hb4.frozen (p := ⟨FB, 0, none⟩) hfz]; exact fr
    rw [← fcells_snoc] at hown4
    obtain ⟨a5, c5, rfl⟩ := fown_form hown4
    have hz4 := hb4.size
    clear hgrow4 hown h1 fr b1
    go_wp2_with fail
    go_end0
    refine ⟨rfl, ⟨⟨_, World.cell?_setCell_same _ _ _ h4, ?_⟩, by simpa using f4, hfz, by simp; omega⟩, (BelowX.of hb4).set 0 _⟩
    have h5 := ownsRow_set hown4 ⟨FB, 0, none⟩ hfz (.slice a5 (m + 1) c5)
    rw [List.length_append, HM.out]
    exact h5

end Go.Proofs.Ytinckidkophobaa
