/- needed, beginsOf (program); needed, begins (reference). -/
import Derived.Test.YtiphipgheadakaaDuePlain
import Derived.Test.YtiphipgheadakaaChkP
import Derived.Test.YtiphipgheadakaaRChkP
import Derived.Test.YtiphipgheadakaaIntsC
import Derived.Test.YtiphipgheadakaaAppKept
namespace Go.Proofs.Ytiphipgheadakaa
set_option linter.unusedVariables false
set_option linter.unusedSimpArgs false
open Go.RowKit Go.Shelf

theorem need_any (ln ki : Int) (w : World) (h1 : 1 ≤ ln) (h2 : ln ≤ 1000000000000000) (k1 : 1 ≤ ki) (k2 : ki ≤ 5) :
    Calls Try.prog 63 #[.int .i64 ln, .int .i64 ki] w fun e w' => e = .returned (.int .i64 (need ln ki)) ∧ w = w' := by
  have hM : 0 ≤ ln * (ki - 1) ∧ ln * (ki - 1) ≤ 4000000000000000 := by
    have : ki = 1 ∨ ki = 2 ∨ ki = 3 ∨ ki = 4 ∨ ki = 5 := by omega
    rcases this with rfl | rfl | rfl | rfl | rfl <;> omega
  have w0 : IntKind.i64.wrap (ki - 1) = ki - 1 := IntWalk.i64_in _ ⟨by omega, by omega⟩
  have w1 : IntKind.i64.wrap (ln * (ki - 1)) = ln * (ki - 1) := IntWalk.i64_in _ ⟨by omega, by omega⟩
  have HQ : Hid (need ln ki = max ((ln * (ki - 1) + 3) / 4) 1) := Lib.hid rfl
  obtain ⟨R, hR⟩ : ∃ R, need ln ki = R := ⟨_, rfl⟩
  rw [hR] at HQ ⊢
  clear hR
  obtain ⟨c1, hc1⟩ : ∃ c1, ki - 1 = c1 := ⟨_, rfl⟩
  have xc : wrap64 c1 = c1 := by rw [← hc1, ← IntWalk.i64_left]; exact w0
  replace w0 : IntKind.i64.wrap (ki - 1) = c1 := w0.trans hc1
  rw [hc1] at w1 hM HQ
  obtain ⟨M, hMM⟩ : ∃ M, ln * c1 = M := ⟨_, rfl⟩
  replace w1 : IntKind.i64.wrap (ln * c1) = M := w1.trans hMM
  rw [hMM] at hM HQ
  have w2 : IntKind.i64.wrap (M + 4) = M + 4 := IntWalk.i64_in _ ⟨by omega, by omega⟩
  have w3 : IntKind.i64.wrap (M + 4 - 1) = M + 3 := by rw [IntWalk.i64_in _ ⟨by omega, by omega⟩]; omega
  have x0 : wrap64 (ki - 1) = c1 := by rw [← IntWalk.i64_left]; exact w0
  have x1 : wrap64 (ln * c1) = M := by rw [← IntWalk.i64_left]; exact w1
  have x2 : wrap64 (M + 4) = M + 4 := by rw [← IntWalk.i64_left]; exact w2
  have x3 : wrap64 (M + 4 - 1) = M + 3 := by rw [← IntWalk.i64_left]; exact w3
  obtain ⟨Q, hQ⟩ : ∃ Q, (M + 3) / 4 = Q := ⟨_, rfl⟩
  have q1 : (M + 3).tdiv 4 = Q := by rw [Int.tdiv_eq_ediv_of_nonneg (by omega)]; exact hQ
  rw [hQ] at HQ
  have xQ : wrap64 Q = Q := by rw [← IntWalk.i64_left]; exact IntWalk.i64_in _ ⟨by omega, by omega⟩
  have x4 : wrap64 ((M + 3).tdiv 4) = Q := by rw [q1, ← IntWalk.i64_left]; exact IntWalk.i64_in _ ⟨by omega, by omega⟩
  clear hM h1 h2 k1 k2 hMM
  replace hc1 := Lib.hid hc1
  go_enter Try.func63, Try.ntmps63
  go_wp2_with fail
  all_goals
    go_ret
    exact ⟨bret_int (by rw [HQ.out]; (try simp only [hc1.out, xc, x0, x1, x2, x3, x4, q1, xQ]); first | done | omega), rfl⟩
theorem rneed_1 (ln : Int) (w : World) (h1 : 1 ≤ ln) (h2 : ln ≤ 1000000000000000) :
    Calls Try.prog 64 #[.int .i64 ln, .int .i64 1] w fun e w' => e = .returned (.int .i64 (need ln 1)) ∧ w = w' := by
  obtain ⟨Q, hQ⟩ : ∃ Q, need ln 1 = Q := ⟨_, rfl⟩
  rw [hQ]
  unfold need at hQ
  have HQ := Lib.hid hQ
  clear hQ
  go_enter Try.func64, Try.ntmps64
  go_wp2_with fail
  go_ret
  exact ⟨bret_int (by have := HQ.out; omega), rfl⟩
theorem rneed_2 (ln : Int) (w : World) (h1 : 1 ≤ ln) (h2 : ln ≤ 1000000000000000) :
    Calls Try.prog 64 #[.int .i64 ln, .int .i64 2] w fun e w' => e = .returned (.int .i64 (need ln 2)) ∧ w = w' := by
  obtain ⟨Q, hQ⟩ : ∃ Q, need ln 2 = Q := ⟨_, rfl⟩
  rw [hQ]
  unfold need at hQ
  have q1 : (ln + 3).tdiv 4 = Q := by rw [Int.tdiv_eq_ediv_of_nonneg (by omega)]; omega
  have q2 : (ln + 3) / 4 = Q := by omega
  have w1 : IntKind.i64.wrap (ln + 3) = ln + 3 := IntWalk.i64_in _ ⟨by omega, by omega⟩
  have HQ := Lib.hid hQ
  clear hQ
  go_enter Try.func64, Try.ntmps64
  go_wp2_with fail
  go_ret
  exact ⟨bret_int (by have := HQ.out; first | rfl | exact q1 | exact q2 | omega), rfl⟩
theorem rneed_3 (ln : Int) (w : World) (h1 : 1 ≤ ln) (h2 : ln ≤ 1000000000000000) :
    Calls Try.prog 64 #[.int .i64 ln, .int .i64 3] w fun e w' => e = .returned (.int .i64 (need ln 3)) ∧ w = w' := by
  obtain ⟨Q, hQ⟩ : ∃ Q, need ln 3 = Q := ⟨_, rfl⟩
  rw [hQ]
  unfold need at hQ
  have q1 : (ln + 1).tdiv 2 = Q := by rw [Int.tdiv_eq_ediv_of_nonneg (by omega)]; omega
  have q2 : (ln + 1) / 2 = Q := by omega
  have w1 : IntKind.i64.wrap (ln + 1) = ln + 1 := IntWalk.i64_in _ ⟨by omega, by omega⟩
  have HQ := Lib.hid hQ
  clear hQ
  go_enter Try.func64, Try.ntmps64
  go_wp2_with fail
  go_ret
  exact ⟨bret_int (by have := HQ.out; first | rfl | exact q1 | exact q2 | omega), rfl⟩
theorem rneed_4 (ln : Int) (w : World) (h1 : 1 ≤ ln) (h2 : ln ≤ 1000000000000000) :
    Calls Try.prog 64 #[.int .i64 ln, .int .i64 4] w fun e w' => e = .returned (.int .i64 (need ln 4)) ∧ w = w' := by
  obtain ⟨Q, hQ⟩ : ∃ Q, need ln 4 = Q := ⟨_, rfl⟩
  rw [hQ]
  unfold need at hQ
  have q1 : (3 * ln + 3).tdiv 4 = Q := by rw [Int.tdiv_eq_ediv_of_nonneg (by omega)]; omega
  have q2 : (3 * ln + 3) / 4 = Q := by omega
  have w0 : IntKind.i64.wrap (3 * ln) = 3 * ln := IntWalk.i64_in _ ⟨by omega, by omega⟩
  have w1 : IntKind.i64.wrap (3 * ln + 3) = 3 * ln + 3 := IntWalk.i64_in _ ⟨by omega, by omega⟩
  have HQ := Lib.hid hQ
  clear hQ
  go_enter Try.func64, Try.ntmps64
  go_wp2_with fail
  go_ret
  exact ⟨bret_int (by have := HQ.out; first | rfl | exact q1 | exact q2 | omega), rfl⟩
theorem rneed_5 (ln : Int) (w : World) (h1 : 1 ≤ ln) (h2 : ln ≤ 1000000000000000) :
    Calls Try.prog 64 #[.int .i64 ln, .int .i64 5] w fun e w' => e = .returned (.int .i64 (need ln 5)) ∧ w = w' := by
  obtain ⟨Q, hQ⟩ : ∃ Q, need ln 5 = Q := ⟨_, rfl⟩
  rw [hQ]
  unfold need at hQ
  have HQ := Lib.hid hQ
  clear hQ
  go_enter Try.func64, Try.ntmps64
  go_wp2_with fail
  go_ret
  exact ⟨bret_int (by have := HQ.out; first | rfl | exact q1 | exact q2 | omega), rfl⟩
theorem rneed_any (ln ki : Int) (w : World) (h1 : 1 ≤ ln) (h2 : ln ≤ 1000000000000000) (k1 : 1 ≤ ki) (k2 : ki ≤ 5) :
    Calls Try.prog 64 #[.int .i64 ln, .int .i64 ki] w fun e w' => e = .returned (.int .i64 (need ln ki)) ∧ w = w' := by
  have : ki = 1 ∨ ki = 2 ∨ ki = 3 ∨ ki = 4 ∨ ki = 5 := by omega
  rcases this with rfl | rfl | rfl | rfl | rfl
  · exact rneed_1 ln w h1 h2
  · exact rneed_2 ln w h1 h2
  · exact rneed_3 ln w h1 h2
  · exact rneed_4 ln w h1 h2
  · exact rneed_5 ln w h1 h2

set_option maxHeartbeats 4000000 in
theorem rbegins_any (v : Value) (ps : List Prt) (i : Nat) (w : World) (hS : Prts w v ps) (hi : i ≤ ps.length) (g : OkPs ps) :
    Calls Try.prog 61 #[v, .int .i64 i] w fun e w' => e = .returned (.int .i64 (alTo ps i)) ∧ w = w' := by
  obtain ⟨a, cap, rfl⟩ := hS.parts
  obtain ⟨n, hn⟩ : ∃ n, ps.length = n := ⟨_, rfl⟩
  have hn5 := g.len
  have HS := Lib.hid hS; have HN := Lib.hid hn; have HG := Lib.hid g
  rw [hn] at hi hn5 ⊢
  obtain ⟨R, hR⟩ : ∃ R, alTo ps i = R := ⟨_, rfl⟩
  rw [hR]
  have HR := Lib.hid hR
  clear hS hn g hR
  go_enter Try.func61, Try.ntmps61
  go_wp2_with fail
  go_loopw [5, 6] (fun v5 v6 wr => ∃ k : Nat, k ≤ i ∧ v6 = .int .i64 k ∧ v5 = .int .i64 (alTo ps k) ∧ w = wr) (fun _ v6 _ => i - (intOf v6).toNat)
  case atStart => exact ⟨0, Nat.zero_le _, rfl, rfl, rfl⟩
  case round =>
    obtain ⟨k, hk, rfl, rfl, rfl⟩ := hrel
    by_cases hk2 : k < i
    rotate_left
    · have hki : k = i := by omega
      have e1 : alTo ps k = R := by rw [hki]; exact HR.out
      have kD : decide ((k : Int) < (i : Int)) = false := by simp; omega
      have kD2 : decide (k < i) = false := by simp; omega
      rw [e1]
      clear hki hk2 e1
      go_wp2_with fail
      go_ret
      exact ⟨rfl, rfl⟩
    · obtain ⟨b, off, cap', hv, hlt, -, -⟩ := HS.out.spot (by rw [HN.out]; omega)
      simp only [Value.slice.injEq] at hv
      obtain ⟨rfl, -, rfl⟩ := hv
      obtain ⟨c0, c1, c2⟩ := HS.out.cells k (by rw [HN.out]; omega)
      have hb1 := (HG.out.bd k (by rw [HN.out]; omega)).2
      have hb2 := (HG.out.bd (k + 1) (by rw [HN.out]; omega)).2
      have hA : alTo ps (k + 1) = alTo ps k + (ps.getD k prt0).ln := rfl
      obtain ⟨al, hal⟩ : ∃ al, alTo ps k = al := ⟨_, rfl⟩
      obtain ⟨x, hx⟩ : ∃ x, ps.getD k prt0 = x := ⟨_, rfl⟩
      rw [hal] at hb1 hA ⊢
      rw [hx] at c2 hA
      rw [hA] at hb2
      have HA := Lib.hid hA
      have kI : (k : Int) < (n : Int) := by omega
      have kI2 : (k : Int) < (i : Int) := by omega
      have wS : IntKind.i64.wrap (al + x.ln) = al + x.ln := IntWalk.i64_in _ ⟨by omega, by omega⟩
      have hwI : IntKind.i64.wrap ((k : Int) + 1) = (k : Int) + 1 := IntWalk.i64_in _ ⟨by omega, by omega⟩
      clear hA hb1 hb2 hal hx c0 c1
      go_wp2_with fail
      go_roundw
      case rel => exact ⟨k + 1, by omega, by go_num, by rw [HA.out], trivial⟩
      case measure => simp [intOf]; omega
/-- Where the first parts begin. -/
def bgL (ps : List Prt) (k : Nat) : List Int := (List.range k).map (alTo ps)
theorem bgL_len (ps : List Prt) (k : Nat) : (bgL ps k).length = k := by simp [bgL]
theorem bgL_snoc (ps : List Prt) (k : Nat) : bgL ps (k + 1) = bgL ps k ++ [alTo ps k] := by unfold bgL; rw [List.range_succ, List.map_append]; rfl
theorem bgL_at (ps : List Prt) (k i : Nat) (h : i < k) : (bgL ps k).getD i 0 = alTo ps i := by
  unfold bgL
  rw [List.getD_eq_getElem?_getD, List.getElem?_map, List.getElem?_range h]
  rfl
theorem iown7_form {w : World} {base : Nat} {e : TypeId} {size : Nat} {v : Value} {n : Nat} {xs : List Value} (h : w.ownsRow base e size v n xs) : ∃ a c, v = .slice a n c := by
  rcases h.2 with ⟨rfl, h0⟩ | ⟨g, cap, cur, rfl, _⟩
  · exact ⟨none, 0, by rw [h0]⟩
  · exact ⟨_, _, rfl⟩
theorem own_one (w : World) (x : Int) (T : TypeId) : (w.alloc (.cells #[.int .i64 x] T)).ownsRow w.heap.size T 1 (.slice (some ⟨w.heap.size, 0, none⟩) 1 1) 1 [.int .i64 x] :=
  ⟨rfl, .inr ⟨w.heap.size, 1, #[.int .i64 x], rfl, Nat.le_refl _, heap_alloc_new w _, Nat.le_refl _, by unfold maxLen; omega, rfl, rfl⟩⟩
set_option maxRecDepth 100000 in
set_option maxHeartbeats 8000000 in
theorem beginsOf_any (v : Value) (ps : List Prt) (w : World) (hS : Prts w v ps) (g : OkPs ps) :
    Calls Try.prog 52 #[v] w fun e w' => (∃ u, e = .returned u ∧ NumsC w' u (bgL ps (ps.length + 1))) ∧ Below w.heap.size w w' := by
  obtain ⟨i0, hi, hi0, hi1, hi2⟩ := info_parts Try.infoInt8
  obtain ⟨a, cap, rfl⟩ := hS.parts
  obtain ⟨n, hn⟩ : ∃ n, ps.length = n := ⟨_, rfl⟩
  have hn5 := g.len
  have HS := Lib.hid hS; have HN := Lib.hid hn; have HG := Lib.hid g
  rw [hn] at hn5 ⊢
  have b1 : Below w.heap.size w (w.alloc (.cells #[.int .i64 0] 3)) := (Below.refl _ w).alloc (Nat.le_refl _) _
  have R0 := own_one w 0 3
  clear hS hn g
  go_enter Try.func52, Try.ntmps52
  go_wp2_with fail
  go_loopw [3, 9] (fun v3 v9 wr => ∃ k : Nat, k ≤ n ∧ v9 = .int .i64 k ∧ wr.ownsRow w.heap.size 3 1 v3 (k + 1) ((bgL ps (k + 1)).map (Value.int .i64)) ∧ Below w.heap.size w wr) (fun _ v9 _ => n - (intOf v9).toNat)
  case atStart => exact ⟨0, Nat.zero_le _, rfl, R0, b1⟩
  case round =>
    clear b1 R0
    obtain ⟨k, hk, rfl, hown, hbr⟩ := hrel
    obtain ⟨a3, c3', rfl⟩ := iown7_form hown
    by_cases hk2 : k < n
    rotate_left
    · have hkn : k = n := by omega
      subst hkn
      have kD : decide ((k : Int) < (k : Int)) = false := by simp
      have kD2 : decide (k < k) = false := by simp
      have hfin : NumsC wr (.slice a3 (k + 1) c3') (bgL ps (k + 1)) := NumsC.ofOwn (by rw [bgL_len]; exact hown)
      clear hown
      go_wp2_with fail
      go_ret
      exact ⟨⟨_, rfl, hfin⟩, hbr⟩
    · have hSW := HS.out.below hbr (Nat.le_refl _)
      obtain ⟨b, off, cap', hv, hlt, -, -⟩ := hSW.spot (by rw [HN.out]; omega)
      simp only [Value.slice.injEq] at hv
      obtain ⟨rfl, -, rfl⟩ := hv
      obtain ⟨c0, c1, c2⟩ := hSW.cells k (by rw [HN.out]; exact hk2)
      have hb1 := (HG.out.bd k (by rw [HN.out]; omega)).2
      have hb2 := (HG.out.bd (k + 1) (by rw [HN.out]; omega)).2
      have hA : alTo ps (k + 1) = alTo ps k + (ps.getD k prt0).ln := rfl
      have HSN := Lib.hid (bgL_snoc ps (k + 1))
      have hAT := bgL_at ps (k + 1) k (by omega)
      rcases hown.2 with ⟨hx0, h0⟩ | ⟨G, cap2, cur, hsl, -⟩
      · omega
      simp only [Value.slice.injEq] at hsl
      obtain ⟨rfl, -, rfl⟩ := hsl
      have t0 : wr.cell? ⟨G, k, none⟩ = some (.int .i64 (alTo ps k)) := by
        have := World.ownsRow.cellAt hown k (by omega)
        rw [this]
        rw [List.getElem?_map]
        unfold bgL
        rw [List.getElem?_map, List.getElem?_range (by omega)]
        rfl
      have hGl := (hown.lt G rfl)
      obtain ⟨al, hal⟩ : ∃ al, alTo ps k = al := ⟨_, rfl⟩
      obtain ⟨x, hx⟩ : ∃ x, ps.getD k prt0 = x := ⟨_, rfl⟩
      rw [hal] at hb1 hA t0
      rw [hx] at c0 c1 c2 hA
      rw [hA] at hb2 HSN
      have kI : (k : Int) < (n : Int) := by omega
      obtain ⟨m, hm⟩ : ∃ m, k + 1 = m := ⟨_, rfl⟩
      rw [hm] at hown HSN
      have HM := Lib.hid hm
      have j0 : (0 : Int) ≤ (k : Int) := by omega
      have j1 : (k : Int) < (m : Int) := by omega
      have wS : IntKind.i64.wrap (al + x.ln) = al + x.ln := IntWalk.i64_in _ ⟨by omega, by omega⟩
      have hwI : IntKind.i64.wrap ((k : Int) + 1) = (k : Int) + 1 := IntWalk.i64_in _ ⟨by omega, by omega⟩
      have hm5 : m ≤ 1000 := by omega
      have PX := PBox.new wr x 44
      have t0 : (wr.alloc (.cells #[.string x.ad, .int .i64 x.fr, .int .i64 x.ln] 44)).cell? ⟨G, k, none⟩ = some (.int .i64 al) := by rw [World.cell?_alloc_old _ _ _ (Nat.ne_of_lt hGl.2)]; exact t0
      have hG2 : G < (wr.alloc (.cells #[.string x.ad, .int .i64 x.fr, .int .i64 x.ln] 44)).heap.size := by have := hGl.2; simp; omega
      have hown := hown.alloc (.cells #[.string x.ad, .int .i64 x.fr, .int .i64 x.ln] 44)
      have hbr := hbr.alloc (o := .cells #[.string x.ad, .int .i64 x.fr, .int .i64 x.ln] 44) hbr.size
      have HXG : Hid (wr.heap.size ≠ G) := Lib.hid (Nat.ne_of_gt hGl.2)
      have HTK : Hid (((bgL ps m).map (Value.int .i64))[k]? = some (.int .i64 al)) := Lib.hid (by
        rw [← hm, ← hal, List.getElem?_map]
        unfold bgL
        rw [List.getElem?_map, List.getElem?_range (by omega)]
        rfl)
      clear hA hb1 hb2 hal hx hm hSW hAT
      rw [HM.out]
      go_upto_region 5 with fail
      generalize wr.alloc (.cells #[.string x.ad, .int .i64 x.fr, .int .i64 x.ln] 44) = W9 at *
      generalize wr.heap.size = X9 at *
      clear c0 c1 c2
      have y2 := PX.c2; have yl := PX.lt
      clear PX
      have hXn : X9 < W9.heap.size := yl
      have t0s : ∀ W', (∀ j u, ((bgL ps m).map (Value.int .i64))[j]? = some u → World.cell? W' ⟨G, j, none⟩ = some u) → World.cell? W' ⟨G, k, none⟩ = some (.int .i64 al) := fun W' h => h k _ HTK.out
      have HT0 := Lib.hid t0s
      have hXG := HXG.out
      clear t0s
      go_region_held3 (fun w' => w'.cell? ⟨G, k, none⟩ = some (.int .i64 al) ∧ w'.cell? ⟨X9, 2, none⟩ = some (.int .i64 x.ln))
        (first | (go_keep; done) | (exact ⟨HT0.out _ hkept, by rw [hgrow.cell_far _ (by simp; omega) (by simpa using hXG)]; exact (World.cell?_alloc_old _ _ _ (Nat.ne_of_lt hXn)).trans y2⟩))
        ((refine step_append_kept (by rfl) _ _ _ (by rfl) w.heap.size 3 i0 _ 1 8 Try.underlying40 hi hi0 hi1 hi2 rfl (by omega) G c3' m _ (by rfl) ((hown.alloc _).drew) ⟨W9.heap.size, 0, none⟩ 1 1 [.int .i64 (al + x.ln)] (by rfl) (by rfl) (World.news_of_block (cs := #[.int .i64 (al + x.ln)]) (t := 3) (fr := (0, 0)) (heap_alloc_new W9 _)) (by simp [Value.oneCell']) (by unfold maxLen; omega) (by omega) (by simp; omega) ?_; intro v' w4 hown1 hgrow hkept))
      have hb2 : Below w.heap.size w w4 := (((hbr.alloc hbr.size _).drew).grown hgrow (by have := hbr.size; simp; omega) (fun q hq => (hown.lt q (by simpa [Value.ownBlock] using hq)).1))
      have hown2 : w4.ownsRow w.heap.size 3 1 v' (m + 1) ((bgL ps (m + 1)).map (Value.int .i64)) := by rw [HSN.out, List.map_append]; exact hown1
      clear hgrow hown hown1 HSN hkept y2 yl t0 hXn
      go_wp2_with fail
      go_roundw
      case rel => exact ⟨m, by have := HM.out; omega, by have := HM.out; subst this; go_num, hown2, hb2⟩
      case measure => have := HM.out; first | (simp [intOf]; done) | (simp [intOf]; omega)

end Go.Proofs.Ytiphipgheadakaa
