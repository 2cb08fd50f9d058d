/- cut.Grid, and the laws' own awake. -/
import Derived.Test.YtgbdmgmbdjajeaaRise
import Derived.Test.YtgbdmgmbdjajeaaIntsC
import Derived.Deep.AppendLies
namespace Go.Proofs.Ytgbdmgmbdjajeaa
set_option linter.unusedVariables false
set_option linter.unusedSimpArgs false
open Go.RowKit Go.Deep

theorem own_form {w : World} {base : Nat} {e : TypeId} {size : Nat} {v : Value} {n : Nat} {xs : List Value} (h : w.ownsRow base e size v n xs) : ∃ a c, v = .slice a n c := by
  rcases h.2 with ⟨rfl, h0⟩ | ⟨g, cap, cur, rfl, _⟩
  · exact ⟨none, 0, by rw [h0]⟩
  · exact ⟨_, _, rfl⟩
theorem one_row (w1 : World) (x : Int) (base : Nat) (hb : base ≤ w1.heap.size) :
    (w1.alloc (.cells #[.int .i64 x] 3)).ownsRow base 3 1 (.slice (some ⟨w1.heap.size, 0, none⟩) 1 1) 1 [.int .i64 x] := by
  have := World.ownsRow_lit (base := base) (e := 3) (size := 1) w1 #[.int .i64 x] 1 hb (by simp [maxLen]) rfl
  simpa using this
set_option maxRecDepth 100000 in
set_option maxHeartbeats 4000000 in
theorem grid_walk (b off n cap : Nat) (zs : List Int) (sc ta mo : Int) (w : World) (hz : zs.length = n) (hn0 : 0 < n) (hlt : b < w.heap.size) (hnc : n ≤ cap) (hcm : cap ≤ maxLen) (hc : ∀ j, j < n → w.cell? ⟨b, off + j, none⟩ = some (.int .i64 (zs.getD j 0))) (hp : placesF zs sc ta mo = 0) :
    Calls Try.prog 11 #[.slice (some ⟨b, off, none⟩) n cap, .agg #[.int .i64 sc, .int .i64 ta, .int .i64 mo]] w fun e w' => (∃ u, e = .returned (.tuple #[u, .int .i64 0]) ∧ NumsC w' u (gridTo zs ta (n - 1))) ∧ Below w.heap.size w w' := by
  obtain ⟨i0, hi, hi0, hi1, hi2⟩ := info_parts Try.infoInt8
  obtain ⟨-, ⟨t0, t1⟩, -, hR⟩ := (placesF_zero zs sc ta mo).1 hp
  have HR := Lib.hid hR
  have hn : n ≤ 1000 := by rw [← hz]; exact hR.len
  have HP := Lib.hid hp; have HZ := Lib.hid hz
  have HC := Lib.hid hc
  have hN : Nums w (.slice (some ⟨b, off, none⟩) n cap) zs := .inr ⟨b, off, cap, by rw [hz], fun h => by subst h; simp at hz; omega, hlt, by rw [hz]; unfold maxLen; omega, by rw [hz]; exact hc⟩
  have HN := Lib.hid hN
  unfold maxLen at hcm
  clear hp hz hR hc hN
  go_enter Try.func11, Try.ntmps11
  go_wp2_with fail
  refine (places_any _ zs _ _ _ _ (HN.out.below ((Below.refl _ _).alloc (Nat.le_refl _) _) (Nat.le_refl _))).mono ?_; rintro e w1 ⟨rfl, b1⟩
  rw [HP.out]
  have b0 : Below w.heap.size w w1 := ((Below.refl _ _).alloc (Nat.le_refl _) _).trans (b1.mono (by simp))
  have hs1 : w.heap.size < w1.heap.size := by have := b1.size; simp at this; omega
  have e1 : w1.cell? ⟨w.heap.size, 1, none⟩ = some (.int .i64 ta) := by rw [b1.cell (p := ⟨w.heap.size, 1, none⟩) (by simp), World.cell?_alloc_at _ _ _ _ (by simp)]; rfl
  obtain ⟨p, hp0⟩ : ∃ p, zs.getD 0 0 = p := ⟨_, rfl⟩
  have c0 : w1.cell? ⟨b, off, none⟩ = some (.int .i64 p) := by rw [b0.cell (p := ⟨b, off, none⟩) hlt, ← hp0]; exact HC.out 0 hn0
  have HP0 := Lib.hid hp0
  clear b1 hp0
  by_cases hcap : cap = 1
  · have hn1 : n = 1 := by omega
    subst hcap
    have HE : Hid (gridTo zs ta (n - 1) = [p]) := Lib.hid (by rw [hn1, gridTo, HP0.out])
    subst hn1
    go_wp2_with fail
    refine wp_loop_rounds 1 ?_
    rw [rounds_succ]
    go_wp2_with fail
    go_ret2
    refine ⟨⟨_, rfl, ?_⟩, b0.alloc b0.size _⟩
    rw [HE.out]
    exact NumsC.ofOwn (zs := [p]) (one_row w1 p w1.heap.size (Nat.le_refl _))
  · have hcap2 : 1 < cap := by omega
    clear hcap
    go_wp2_with fail
    go_loopw [7, 23] (fun v i wr => ∃ (k : Nat) (ts : List Int), k ≤ n - 1 ∧ i = .int .i64 k ∧ wr.ownsRow w1.heap.size 3 1 v ts.length (ts.map (Value.int .i64)) ∧ w1.heap.size ≤ wr.heap.size ∧ Below w1.heap.size w1 wr ∧ Hid (gridTo zs ta k = ts) ∧ ts.length ≤ k + 1) (fun _ i _ => n - 1 - (intOf i).toNat)
    case atStart => exact ⟨0, [p], by omega, rfl, one_row w1 p _ (Nat.le_refl _), by simp, (Below.refl _ _).alloc (Nat.le_refl _) _, Lib.hid (by rw [gridTo, HP0.out]), by simp⟩
    case round =>
      obtain ⟨k, ts, hk, rfl, hown, hsz, hbel, HG, htl⟩ := hrel
      have d0 : wr.cell? ⟨b, off, none⟩ = some (.int .i64 p) := by rw [hbel.cell (p := ⟨b, off, none⟩) (Nat.lt_of_lt_of_le hlt b0.size)]; exact c0
      have d1 : wr.cell? ⟨w.heap.size, 1, none⟩ = some (.int .i64 ta) := by rw [hbel.cell (p := ⟨w.heap.size, 1, none⟩) hs1]; exact e1
      by_cases hlt2 : k < n - 1
      · obtain ⟨x, hx⟩ : ∃ x, zs.getD (k + 1) 0 = x := ⟨_, rfl⟩
        have d2 : wr.cell? ⟨b, off + 1 + k, none⟩ = some (.int .i64 x) := by
          rw [hbel.cell (p := ⟨b, off + 1 + k, none⟩) (Nat.lt_of_lt_of_le hlt b0.size), b0.cell (p := ⟨b, off + 1 + k, none⟩) hlt, ← hx, show off + 1 + k = off + (k + 1) by omega]
          exact HC.out (k + 1) (by omega)
        have HX := Lib.hid hx
        obtain ⟨p1, p2⟩ : -1000000000000000 ≤ p ∧ p ≤ 1000000000000000 := by rw [← HP0.out]; exact HR.out.time 0 (by rw [HZ.out]; exact hn0)
        obtain ⟨m, hm⟩ : ∃ m, ts.length = m := ⟨_, rfl⟩
        obtain ⟨M, hM⟩ : ∃ M, (m : Int) * ta = M := ⟨_, rfl⟩
        have hm1 : m ≤ 1000 := by omega
        have hMb : 0 ≤ M ∧ M ≤ 50000000000 := by
          rw [← hM]
          exact ⟨Int.mul_nonneg (by omega) (by omega), Int.le_trans (Int.mul_le_mul (show (m : Int) ≤ 1000 by omega) t1 (by omega) (by decide)) (by decide)⟩
        have HM := Lib.hid hM
        have hwM : IntKind.i64.wrap ((m : Int) * ta) = M := by rw [hM]; exact IntWalk.i64_in _ ⟨by omega, by omega⟩
        have hwP : IntKind.i64.wrap (p + M) = p + M := IntWalk.i64_in _ ⟨by omega, by omega⟩
        have HST : Hid (gridTo zs ta (k + 1) = if p + M ≤ x then ts ++ [x] else ts) := Lib.hid (by rw [gridTo, HP0.out, HX.out, HG.out, hm, hM])
        have HML := Lib.hid hm
        rw [hm] at hown htl
        obtain ⟨a7, c7, rfl⟩ := own_form hown
        clear hx hM hm
        by_cases hge : p + M ≤ x
        · go_upto_region 8 with fail
          go_quiet (fail)
          go_wp2_with (at_builtin; refine wpList_append_own _ rfl _ _ 22 rfl w1.heap.size 3 i0 (.int .i64 0) 1 8 Try.underlying22 hi hi0 hi1 hi2 rfl (by decide) _ _ _ rfl (hown.alloc _) ⟨wr.heap.size, 0, none⟩ 1 1 [.int .i64 x] rfl rfl ?b1 ?b2 ?b3 ?b4 ?b5 ?_)
          case b1 =>
            have := World.news_of_block (cs := #[.int .i64 x]) (t := 3) (fr := (0, 0)) (heap_alloc_new (wr.drewN nq) (.cells #[.int .i64 x] 3))
            simpa using this
          case b2 => simp [Value.oneCell']
          case b3 => unfold maxLen; omega
          case b4 => omega
          case b5 => first | omega | (simp; omega)
          intro v' w2 hown1 hgrow _
          have hb2 : Below w1.heap.size w1 w2 := (((below_drewN hbel nq).alloc (by simpa using hsz) _).grown hgrow (by simp; omega) (fun q hq => (hown.lt q hq).1))
          have hs2 : w1.heap.size ≤ w2.heap.size := by have := hgrow.size; simp at this; omega
          clear hgrow hown
          go_wp2_with fail
          go_roundw
          case rel =>
            refine ⟨k + 1, ts ++ [x], by omega, by go_num, ?_, hs2, hb2, Lib.hid (by rw [HST.out, if_pos hge]), by rw [List.length_append, HML.out]; simp; omega⟩
            rw [List.length_append, HML.out, List.map_append]
            exact hown1
          case measure => simp [intOf]; omega
        · have hd : decide (p + M ≤ x) = false := by simp; omega
          go_upto_region 8 with fail
          go_quiet (fail)
          go_wp2_with fail
          go_roundw
          case rel => exact ⟨k + 1, ts, by omega, by go_num, by rw [HML.out]; exact hown, by simpa using hsz, below_drewN hbel nq, Lib.hid (by rw [HST.out, if_neg hge]), by rw [HML.out]; omega⟩
          case measure => simp [intOf]; omega
      · have hkn : k = n - 1 := by omega
        subst hkn
        have hd : decide (n - 1 < n - 1) = false := by simp
        obtain ⟨ts', hts⟩ : ∃ ts', gridTo zs ta (n - 1) = ts' := ⟨_, rfl⟩
        have HTT := Lib.hid hts
        have hb3 := b0.trans (hbel.mono b0.size)
        clear hts
        go_wp2_with fail
        go_ret2
        refine ⟨⟨_, rfl, ?_⟩, hb3⟩
        rw [HG.out]
        exact NumsC.ofOwn hown
theorem grid_any (v : Value) (zs : List Int) (sc ta mo : Int) (w : World) (h : NumsC w v zs) :
    Calls Try.prog 11 #[v, .agg #[.int .i64 sc, .int .i64 ta, .int .i64 mo]] w fun e w' => (∃ u, e = .returned (.tuple #[u, .int .i64 (placesF zs sc ta mo)]) ∧ NumsC w' u (gridR zs sc ta mo)) ∧ Below w.heap.size w w' := by
  obtain ⟨f, hf⟩ : ∃ f, placesF zs sc ta mo = f := ⟨_, rfl⟩
  by_cases h0 : f = 0
  · subst h0
    have hR := ((placesF_zero zs sc ta mo).1 hf).2.2.2
    rw [gridR, hf, if_pos rfl]
    rcases h with ⟨a, cap, rfl, rfl⟩ | ⟨b, off, cap, rfl, hne, hlt, hl, hm, hc⟩
    · exact absurd hR.pos (by simp)
    · exact grid_walk b off _ cap zs sc ta mo w rfl (List.length_pos_iff.2 hne) hlt hl hm hc hf
  · rw [gridR, hf, if_neg h0]
    have hN := Lib.hid h.nums
    have HF := Lib.hid hf
    have hb : (f == 0) = false := by simp [h0]
    obtain ⟨a, cap, rfl, hmx⟩ := h.parts
    clear hf h h0
    go_enter Try.func11, Try.ntmps11
    go_wp2_with fail
    refine (places_any _ zs _ _ _ _ (hN.out.below ((Below.refl _ _).alloc (Nat.le_refl _) _) (Nat.le_refl _))).mono ?_; rintro e w1 ⟨rfl, b1⟩
    rw [HF.out]
    have b0 : Below w.heap.size w w1 := ((Below.refl _ _).alloc (Nat.le_refl _) _).trans (b1.mono (by simp))
    go_wp2_with fail
    go_ret2
    exact ⟨⟨_, rfl, .inl ⟨_, _, rfl, rfl⟩⟩, b0⟩
theorem aw4_f : placesF [0, 4, 7] 1 6 8 = 0 := by decide +kernel
theorem aw4_g : gridR [0, 4, 7] 1 6 8 = [0, 7] := by decide +kernel
set_option maxHeartbeats 1000000 in
theorem awake4_any (w : World) :
    Calls Try.prog 12 #[] w fun e w' => e = .returned (.bool true) ∧ Below w.heap.size w w' := by
  have hN : NumsC (w.alloc (.cells #[.int .i64 0, .int .i64 4, .int .i64 7] 3)) (.slice (some ⟨w.heap.size, 0, none⟩) 3 3) [0, 4, 7] := by
    refine .inr ⟨w.heap.size, 0, 3, rfl, by simp, by simp, by simp, by unfold maxLen; omega, fun j hj => ?_⟩
    rw [World.cell?_alloc_at _ _ _ _ (by simp)]
    match j, hj with
    | 0, _ => rfl
    | 1, _ => rfl
    | 2, _ => rfl
  have HN := Lib.hid hN
  have hb : Below w.heap.size w (w.alloc (.cells #[.int .i64 0, .int .i64 4, .int .i64 7] 3)) := (Below.refl _ _).alloc (Nat.le_refl _) _
  clear hN
  go_enter Try.func12, Try.ntmps12
  go_wp2_with fail
  refine (grid_any _ _ _ _ _ _ HN.out).mono ?_; rintro e w1 ⟨⟨u, rfl, n1⟩, b1⟩
  rw [aw4_f]; rw [aw4_g] at n1
  have bel := hb.trans (b1.mono hb.size)
  rcases n1 with ⟨a, c, rfl, h⟩ | ⟨g, o, c, rfl, hne, hlt, hl, hm, hc⟩
  · simp at h
  · have c1 := hc 1 (by simp)
    simp at c1
    clear hc
    go_wp2_with fail
    go_ret
    exact ⟨rfl, bel⟩

end Go.Proofs.Ytgbdmgmbdjajeaa
