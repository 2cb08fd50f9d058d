/- breakNumbers, behind (program). -/
import Derived.Test.YtikpemmfmkdndaaBrkPlain
import Derived.Test.YtikpemmfmkdndaaEntBox
import Derived.Test.YtikpemmfmkdndaaIntsC
import Derived.Laws.OwnMore
import Derived.Deep.AppendLies
import Derived.Deep.RegionHeld3
import Derived.BigQuiet
import Derived.Deep.QuietTactic
import Derived.Deep.DeepCutAuto
import Derived.Deep.CutBlock
import Derived.ChangeAlike
namespace Go.Proofs.Ytikpemmfmkdndaa
set_option linter.unusedVariables false
set_option linter.unusedSimpArgs false
open Go.RowKit Go.Shelf Go.Deep

theorem intV6_snoc (xs : List Int) (c : Int) : (xs ++ [c]).map (Value.int .i64) = xs.map (Value.int .i64) ++ [.int .i64 c] := by simp
theorem iown6_form {w : World} {base : Nat} {e : TypeId} {size : Nat} {v : Value} {n : Nat} {xs : List Value} (h : w.ownsRow base e size v n xs) : ∃ a c, v = .slice a n c := by
  rcases h.2 with ⟨rfl, h0⟩ | ⟨g, cap, cur, rfl, _⟩
  · exact ⟨none, 0, by rw [h0]⟩
  · exact ⟨_, _, rfl⟩
theorem behind_any (tg fi bk : Int) (a : Option Addr) (n cap : Nat) (en : Bool) (es : List Ent) (Us : Nat → Value) (w : World) : Calls Try.prog 54 #[.agg #[.int .i64 tg, .int .i64 fi, .int .i64 bk, .slice a n cap, .bool en]] w fun e w' => e = .returned (.int .i64 (IntKind.i64.wrap (fi + (n : Int)))) ∧ Below w.heap.size w w' := by
  have FX := LBox.new w tg fi bk (.slice a n cap) en 24
  have b1 : Below w.heap.size w (w.alloc (.cells #[.int .i64 tg, .int .i64 fi, .int .i64 bk, .slice a n cap, .bool en] 24)) := (Below.refl _ w).alloc (Nat.le_refl _) _
  obtain ⟨B, hB⟩ : ∃ B, IntKind.i64.wrap (fi + (n : Int)) = B := ⟨_, rfl⟩
  have hB2 : wrap64 (fi + (n : Int)) = B := by rw [← IntWalk.i64_left]; exact hB
  rw [hB]
  go_enter Try.func54, Try.ntmps54
  go_upto_region 1 with fail
  generalize w.alloc (.cells #[.int .i64 tg, .int .i64 fi, .int .i64 bk, .slice a n cap, .bool en] 24) = W at *
  have k1 := FX.c1; have k3 := FX.c3; have kl := FX.lt
  go_wp2_with fail
  go_ret
  exact ⟨rfl, b1⟩
set_option maxRecDepth 100000 in
set_option maxHeartbeats 8000000 in
theorem breaks_walk (tg fi bk : Int) (a : Option Addr) (n cap : Nat) (en : Bool) (es : List Ent) (Us : Nat → Value) (w : World) (hE : EntsU w (.slice a n cap) es Us) (hn : es.length = n) (hn5 : n ≤ 1000) (hbk : 0 ≤ bk ∧ bk ≤ 1000000000000000) :
    Calls Try.prog 55 #[.agg #[.int .i64 tg, .int .i64 fi, .int .i64 bk, .slice a n cap, .bool en]] w fun e w' => (∃ v, e = .returned (.tuple #[v, .int .i64 (bkTo bk es n)]) ∧ NumsC w' v (bkL bk es n)) ∧ Below w.heap.size w w' := by
  obtain ⟨i0, hi, hi0, hi1, hi2⟩ := info_parts Try.infoInt8
  have FX := LBox.new w tg fi bk (.slice a n cap) en 24
  have b1 : Below w.heap.size w (w.alloc (.cells #[.int .i64 tg, .int .i64 fi, .int .i64 bk, .slice a n cap, .bool en] 24)) := (Below.refl _ w).alloc (Nat.le_refl _) _
  have HN := Lib.hid hn; have HEN := Lib.hid hE
  have HBD : Hid (∀ k, bk ≤ bkTo bk es k ∧ bkTo bk es k ≤ bk + k) := Lib.hid (bkTo_bd bk es)
  obtain ⟨hbk0, hbk1⟩ := hbk
  obtain ⟨BL, hBL⟩ : ∃ BL, bkTo bk es n = BL := ⟨_, rfl⟩
  obtain ⟨QL, hQL⟩ : ∃ QL, bkL bk es n = QL := ⟨_, rfl⟩
  rw [hBL, hQL]
  have HBL := Lib.hid hBL; have HQL := Lib.hid hQL
  clear hE hn hBL hQL
  go_enter Try.func55, Try.ntmps55
  go_upto_region 1 with fail
  generalize w.alloc (.cells #[.int .i64 tg, .int .i64 fi, .int .i64 bk, .slice a n cap, .bool en] 24) = W at *
  have k2 := FX.c2; have k3 := FX.c3; have kl := FX.lt
  clear FX
  go_wp2_with fail
  clear k2 k3 kl
  go_loopw [4, 5, 13] (fun v4 v5 v13 wr => ∃ k : Nat, k ≤ n ∧ v13 = .int .i64 k ∧ v5 = .int .i64 (bkTo bk es k) ∧ wr.ownsRow w.heap.size 3 1 v4 k ((bkL bk es k).map (Value.int .i64)) ∧ Below w.heap.size w wr) (fun _ _ v13 _ => n - (intOf v13).toNat)
  case atStart => exact ⟨0, Nat.zero_le _, rfl, rfl, World.ownsRow_nil W _ _ _, b1⟩
  case round =>
    clear b1
    obtain ⟨k, hk, rfl, rfl, hown, hbr⟩ := hrel
    obtain ⟨a3, c3', rfl⟩ := iown6_form hown
    by_cases hk2 : k < n
    rotate_left
    · have hkn : k = n := by omega
      have e1 : BL = bkTo bk es k := by rw [hkn]; exact HBL.out.symm
      have e2 : QL = bkL bk es k := by rw [hkn]; exact HQL.out.symm
      have kD : decide ((k : Int) < (n : Int)) = false := by simp; omega
      have kD2 : decide (k < n) = false := by simp; omega
      subst e1 e2
      clear hkn HBL HQL
      go_wp2_with fail
      go_ret2
      exact ⟨⟨_, rfl, NumsC.ofOwn (by rw [bkL_len]; exact hown)⟩, hbr⟩
    · have hEW := HEN.out.below hbr (Nat.le_refl _)
      obtain ⟨b, off, cap', hv, hlt, -, -⟩ := hEW.spot (by rw [HN.out]; omega)
      simp only [Value.slice.injEq] at hv
      obtain ⟨rfl, -, rfl⟩ := hv
      obtain ⟨c0, c1, c2, c3, c4, c5, c6⟩ := hEW.cells k (by rw [HN.out]; exact hk2)
      obtain ⟨x, hx⟩ : ∃ x, es.getD k ent0 = x := ⟨_, rfl⟩
      obtain ⟨a6, c6', hu⟩ := (hEW.strs k (by rw [HN.out]; exact hk2)).parts
      rw [hx] at hu
      obtain ⟨l6, hl6⟩ : ∃ l6, x.ex.length = l6 := ⟨_, rfl⟩
      rw [hl6] at hu
      rw [hx] at c0 c1 c2 c3 c4 c5
      rw [hu] at c6
      have kI : (k : Int) < (n : Int) := by omega
      have hbd := HBD.out k
      obtain ⟨N, hN⟩ : ∃ N, bkTo bk es k = N := ⟨_, rfl⟩
      have HST : Hid (bkTo bk es (k + 1) = if x.br = true then N + 1 else N) := Lib.hid (by rw [bkTo, hx, hN])
      have HSN0 := Lib.hid (bkL_snoc bk es k)
      rw [hN] at hbd ⊢
      have wN : IntKind.i64.wrap (N + 1) = N + 1 := IntWalk.i64_in _ ⟨by omega, by omega⟩
      have hwI : IntKind.i64.wrap ((k : Int) + 1) = (k : Int) + 1 := IntWalk.i64_in _ ⟨by omega, by omega⟩
      have EX := EBox.new wr x (.slice a6 l6 c6') 32
      have hown := hown.alloc (.cells #[.string x.uri, .int .i64 x.mi, .bool x.br, .int .i64 x.da, .string x.key, .bool x.gap, .slice a6 l6 c6'] 32)
      have hbr := hbr.alloc (o := .cells #[.string x.uri, .int .i64 x.mi, .bool x.br, .int .i64 x.da, .string x.key, .bool x.gap, .slice a6 l6 c6'] 32) hbr.size
      clear hx hu hEW hl6 hN
      go_upto_region 6 with fail
      generalize wr.alloc (.cells #[.string x.uri, .int .i64 x.mi, .bool x.br, .int .i64 x.da, .string x.key, .bool x.gap, .slice a6 l6 c6'] 32) = W9 at *
      generalize wr.heap.size = X9 at *
      clear c0 c1 c2 c3 c4 c5 c6
      have y2 := EX.c2; have yl := EX.lt
      obtain ⟨BR, hBR⟩ : ∃ BR, x.br = BR := ⟨_, rfl⟩
      rw [hBR] at y2 HST
      clear EX hBR
      cases BR
      · have HNV : Hid (bkTo bk es (k + 1) = N) := Lib.hid (by rw [HST.out]; rfl)
        have HSN : Hid (bkL bk es (k + 1) = bkL bk es k ++ [N]) := Lib.hid (by rw [HSN0.out, HNV.out])
        clear HST HSN0
        go_wp2_with (at_builtin; refine wpList_append_own _ rfl _ _ 64 rfl w.heap.size 3 i0 (.int .i64 0) 1 8 Try.underlying64 hi hi0 hi1 hi2 rfl (by decide) _ _ _ rfl (hown.alloc _) ⟨W9.heap.size, 0, none⟩ 1 1 [.int .i64 N] rfl rfl ?b1 ?b2 ?b3 ?b4 ?b5 ?_)
        case b1 =>
          have := World.news_of_block (cs := #[.int .i64 N]) (t := 3) (fr := (0, 0)) (heap_alloc_new W9 (.cells #[.int .i64 N] 3))
          simpa using this
        case b2 => simp [Value.oneCell']
        case b3 => unfold maxLen; omega
        case b4 => omega
        case b5 => have := hbr.size; first | omega | (simp; omega)
        intro v' w4 hown1 hgrow _
        have hb2 : Below w.heap.size w w4 := ((hbr.alloc hbr.size _).grown hgrow (by have := hbr.size; simp; omega) (fun q hq => (hown.lt q hq).1))
        rw [← intV6_snoc] at hown1
        rw [← HSN.out] at hown1
        clear hgrow hown
        go_wp2_with fail
        go_roundw
        case rel => exact ⟨k + 1, by omega, by go_num, by rw [← HNV.out], hown1, hb2⟩
        case measure => first | (simp [intOf]; done) | (simp [intOf]; omega)
      · have HNV : Hid (bkTo bk es (k + 1) = N + 1) := Lib.hid (by rw [HST.out]; rfl)
        have HSN : Hid (bkL bk es (k + 1) = bkL bk es k ++ [N + 1]) := Lib.hid (by rw [HSN0.out, HNV.out])
        clear HST HSN0
        go_wp2_with (at_builtin; refine wpList_append_own _ rfl _ _ 64 rfl w.heap.size 3 i0 (.int .i64 0) 1 8 Try.underlying64 hi hi0 hi1 hi2 rfl (by decide) _ _ _ rfl (hown.alloc _) ⟨W9.heap.size, 0, none⟩ 1 1 [.int .i64 (N + 1)] rfl rfl ?d1 ?d2 ?d3 ?d4 ?d5 ?_)
        case d1 =>
          have := World.news_of_block (cs := #[.int .i64 (N + 1)]) (t := 3) (fr := (0, 0)) (heap_alloc_new W9 (.cells #[.int .i64 (N + 1)] 3))
          simpa using this
        case d2 => simp [Value.oneCell']
        case d3 => unfold maxLen; omega
        case d4 => omega
        case d5 => have := hbr.size; first | omega | (simp; omega)
        intro v' w4 hown1 hgrow _
        have hb2 : Below w.heap.size w w4 := ((hbr.alloc hbr.size _).grown hgrow (by have := hbr.size; simp; omega) (fun q hq => (hown.lt q hq).1))
        rw [← intV6_snoc] at hown1
        rw [← HSN.out] at hown1
        clear hgrow hown
        go_wp2_with fail
        go_roundw
        case rel => exact ⟨k + 1, by omega, by go_num, by rw [← HNV.out], hown1, hb2⟩
        case measure => first | (simp [intOf]; done) | (simp [intOf]; omega)

end Go.Proofs.Ytikpemmfmkdndaa
