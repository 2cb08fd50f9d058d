/- What is the same (program): slices.Equal at texts, isSameEntry. -/
import Derived.Test.YtikpemmfmkdndaaSamePlain
import Derived.Test.YtikpemmfmkdndaaEntBox
import Derived.Test.YtikpemmfmkdndaaShelf
import Derived.Shelf.SlicesE.Equal
import Derived.Deep.DeepCutAuto
import Derived.Deep.CutBlock
import Derived.ChangeAlike
import Derived.Deep.RegionHeld3
import Derived.BigQuiet
import Derived.Deep.QuietTactic
namespace Go.Proofs.Ytikpemmfmkdndaa
set_option linter.unusedVariables false
set_option linter.unusedSimpArgs false
open Go.RowKit Go.Shelf Go.Deep

set_option maxRecDepth 100000 in
set_option maxHeartbeats 8000000 in
theorem strEq_any (u v : Value) (xs ys : List ByteArray) (w : World) (hx : Strs w u xs) (hy : Strs w v ys) :
    Calls Try.prog 81 #[u, v] w fun e w' => e = .returned (.bool (sameX xs ys)) ∧ Below w.heap.size w w' := by
  have hlx := hx.len; have hly := hy.len
  by_cases hl : xs.length = ys.length
  · by_cases h0 : xs.length = 0
    · have e1 : xs = [] := List.length_eq_zero_iff.1 h0
      have e2 : ys = [] := List.length_eq_zero_iff.1 (by omega)
      subst e1 e2
      obtain ⟨a, c, rfl⟩ := hx.parts
      obtain ⟨a', c', rfl⟩ := hy.parts
      have e3 : sameX [] [] = true := rfl
      rw [e3]
      go_enter Try.func81, Try.ntmps81
      go_wp2_with fail
      refine wp_loop_rounds 1 ?_
      rw [rounds_succ]
      go_wp2_with fail
      go_ret
      exact ⟨rfl, Below.refl _ _⟩
    · obtain ⟨b, o, c, rfl, -, -, -⟩ := hx.spot (by omega)
      obtain ⟨b', o', c', rfl, -, -, -⟩ := hy.spot (by omega)
      have hcx : ∀ j, j < xs.length → w.cell? ⟨b, o + j, none⟩ = some (.string xs[j]!) := fun j hj => by
        rw [hx.cells j hj, List.getD_eq_getElem?_getD, List.getElem?_eq_getElem hj, getElem!_pos xs j hj]; rfl
      have hcy : ∀ j, j < ys.length → w.cell? ⟨b', o' + j, none⟩ = some (.string ys[j]!) := fun j hj => by
        rw [hy.cells j hj, List.getD_eq_getElem?_getD, List.getElem?_eq_getElem hj, getElem!_pos ys j hj]; rfl
      unfold maxLen at hlx hly
      refine (Try.slices_Equal (α := ByteArray) Value.string sEq (NeqAt.string _ _) b o xs.length c b' o' ys.length c' xs ys w (Nat.le_refl _) (Nat.le_refl _) (by omega) (by omega) hcx hcy).mono ?_
      rintro e w' ⟨rfl, q, rfl⟩
      exact ⟨by rw [List.take_length, List.take_length]; rfl, below_drewN (Below.refl _ w) q⟩
  · have e1 : sameX xs ys = false := by
      cases h : sameX xs ys
      · rfl
      · exact absurd (sameX_len h) hl
    rw [e1]
    obtain ⟨a, c, rfl⟩ := hx.parts
    obtain ⟨a', c', rfl⟩ := hy.parts
    obtain ⟨n, hn⟩ : ∃ n, xs.length = n := ⟨_, rfl⟩
    obtain ⟨m, hm⟩ : ∃ m, ys.length = m := ⟨_, rfl⟩
    rw [hn, hm] at hl ⊢
    have g1 : ((n : Int) == (m : Int)) = false := by simp; omega
    have g2 : ((n : Int) != (m : Int)) = true := by simp; omega
    clear hx hy e1 hn hm hlx hly hl
    go_enter Try.func81, Try.ntmps81
    go_wp2_with fail
    go_ret
    exact ⟨rfl, Below.refl _ _⟩
set_option maxRecDepth 100000 in
set_option maxHeartbeats 8000000 in
theorem sameEnt_any (x y : Ent) (u v : Value) (w : World) (hx : Strs w u x.ex) (hy : Strs w v y.ex) :
    Calls Try.prog 56 #[.agg #[.string x.uri, .int .i64 x.mi, .bool x.br, .int .i64 x.da, .string x.key, .bool x.gap, u], .agg #[.string y.uri, .int .i64 y.mi, .bool y.br, .int .i64 y.da, .string y.key, .bool y.gap, v]] w fun e w' => e = .returned (.bool (sameE x y)) ∧ Below w.heap.size w w' := by
  have bX : Below w.heap.size w (w.alloc (.cells #[.string x.uri, .int .i64 x.mi, .bool x.br, .int .i64 x.da, .string x.key, .bool x.gap, u] 32)) := (Below.refl _ w).alloc (Nat.le_refl _) _
  have bY : Below w.heap.size w ((w.alloc (.cells #[.string x.uri, .int .i64 x.mi, .bool x.br, .int .i64 x.da, .string x.key, .bool x.gap, u] 32)).alloc (.cells #[.string y.uri, .int .i64 y.mi, .bool y.br, .int .i64 y.da, .string y.key, .bool y.gap, v] 32)) := bX.alloc bX.size _
  have HEQ : Hid (∀ W, Below w.heap.size w W → Calls Try.prog 81 #[u, v] W fun e w' => e = .returned (.bool (sameX x.ex y.ex)) ∧ Below W.heap.size W w') := Lib.hid (fun W hb => strEq_any u v _ _ W (hx.below hb (Nat.le_refl _)) (hy.below hb (Nat.le_refl _)))
  obtain ⟨ax, cx, rfl⟩ := hx.parts
  obtain ⟨ay, cy, rfl⟩ := hy.parts
  have FX := (EBox.new w x (.slice ax x.ex.length cx) 32).alloc (.cells #[.string y.uri, .int .i64 y.mi, .bool y.br, .int .i64 y.da, .string y.key, .bool y.gap, .slice ay y.ex.length cy] 32)
  have FY := EBox.new (w.alloc (.cells #[.string x.uri, .int .i64 x.mi, .bool x.br, .int .i64 x.da, .string x.key, .bool x.gap, .slice ax x.ex.length cx] 32)) y (.slice ay y.ex.length cy) 32
  have hsz : (w.alloc (.cells #[.string x.uri, .int .i64 x.mi, .bool x.br, .int .i64 x.da, .string x.key, .bool x.gap, .slice ax x.ex.length cx] 32)).heap.size = w.heap.size + 1 := by simp
  rw [hsz] at FY
  clear hsz
  obtain ⟨SX, hSX⟩ : ∃ SX, sameX x.ex y.ex = SX := ⟨_, rfl⟩
  obtain ⟨B1, h1⟩ : ∃ B1, (x.mi == y.mi) = B1 := ⟨_, rfl⟩
  obtain ⟨B2, h2⟩ : ∃ B2, (x.br == y.br) = B2 := ⟨_, rfl⟩
  obtain ⟨B3, h3⟩ : ∃ B3, (x.da == y.da) = B3 := ⟨_, rfl⟩
  obtain ⟨B4, h4⟩ : ∃ B4, (x.uri.toList == y.uri.toList) = B4 := ⟨_, rfl⟩
  obtain ⟨B5, h5⟩ : ∃ B5, (x.key.toList == y.key.toList) = B5 := ⟨_, rfl⟩
  obtain ⟨B6, h6⟩ : ∃ B6, (x.gap == y.gap) = B6 := ⟨_, rfl⟩
  obtain ⟨R, hR⟩ : ∃ R, sameE x y = R := ⟨_, rfl⟩
  have HR : Hid (R = ((B1 && (B2 && B3)) && ((B4 && (B5 && B6)) && SX))) := Lib.hid (by rw [← hR]; unfold sameE sEq; rw [h1, h2, h3, h4, h5, h6, hSX])
  rw [hSX] at HEQ
  rw [hR]
  clear hx hy hSX hR bX
  go_enter Try.func56, Try.ntmps56
  go_upto_region 1 with fail
  generalize (w.alloc (.cells #[.string x.uri, .int .i64 x.mi, .bool x.br, .int .i64 x.da, .string x.key, .bool x.gap, .slice ax x.ex.length cx] 32)).alloc (.cells #[.string y.uri, .int .i64 y.mi, .bool y.br, .int .i64 y.da, .string y.key, .bool y.gap, .slice ay y.ex.length cy] 32) = W at *
  have k0 := FX.c0; have k1 := FX.c1; have k2 := FX.c2; have k3 := FX.c3; have k4 := FX.c4; have k5 := FX.c5; have k6 := FX.c6; have kl := FX.lt
  have l0 := FY.c0; have l1 := FY.c1; have l2 := FY.c2; have l3 := FY.c3; have l4 := FY.c4; have l5 := FY.c5; have l6 := FY.c6; have ll := FY.lt
  obtain ⟨T1, hT1⟩ : ∃ T1, (B1 && (B2 && B3)) = T1 := ⟨_, rfl⟩
  obtain ⟨T2, hT2⟩ : ∃ T2, (B4 && (B5 && B6)) = T2 := ⟨_, rfl⟩
  rw [hT1, hT2] at HR
  have HT1 := Lib.hid hT1; have HT2 := Lib.hid hT2
  clear hT1 hT2 FX FY
  go_cut [5] (fun s5 wx => s5 = .bool T1 ∧ W = wx)
  case first =>
    cases B1
    · have e1 : T1 = false := HT1.out.symm
      subst e1
      go_wp2_with fail
      go_meet
      exact ⟨rfl, rfl⟩
    · cases B2
      · have e1 : T1 = false := HT1.out.symm
        subst e1
        go_wp2_with fail
        go_meet
        exact ⟨rfl, rfl⟩
      · have e1 : T1 = B3 := by rw [← HT1.out]; rfl
        subst e1
        go_wp2_with fail
        go_meet
        exact ⟨by first | rfl | (rw [h3]), rfl⟩
  case rest =>
    obtain ⟨rfl, rfl⟩ := hcut
    go_upto_region 2 with fail
    go_cut [6] (fun s6 wx => s6 = .bool T2 ∧ W = wx)
    case first =>
      cases B4
      · have e1 : T2 = false := HT2.out.symm
        subst e1
        go_wp2_with fail
        go_meet
        exact ⟨rfl, rfl⟩
      · cases B5
        · have e1 : T2 = false := HT2.out.symm
          subst e1
          go_wp2_with fail
          go_meet
          exact ⟨rfl, rfl⟩
        · have e1 : T2 = B6 := by rw [← HT2.out]; rfl
          subst e1
          go_wp2_with fail
          go_meet
          exact ⟨by first | rfl | (rw [h6]), rfl⟩
    case rest =>
      obtain ⟨rfl, rfl⟩ := hcut
      cases T1
      · have e1 : R = false := by rw [HR.out]; rfl
        subst e1
        go_wp2_with fail
        go_ret
        exact ⟨rfl, bY⟩
      · cases T2
        · have e1 : R = false := by rw [HR.out]; rfl
          subst e1
          go_wp2_with fail
          go_ret
          exact ⟨rfl, bY⟩
        · have e1 : R = SX := by rw [HR.out]; rfl
          subst e1
          go_wp2_with fail
          refine (HEQ.out _ bY).mono ?_; rintro e w5 ⟨rfl, b5⟩
          go_wp2_with fail
          go_ret
          exact ⟨rfl, bY.trans (b5.mono bY.size)⟩

end Go.Proofs.Ytikpemmfmkdndaa
