/- cut.Millis. -/
import Derived.Test.YtgbdmgmbdjajeaaMilli
import Derived.Test.YtgbdmgmbdjajeaaGrid
import Derived.Test.YtgbdmgmbdjajeaaPairs
namespace Go.Proofs.Ytgbdmgmbdjajeaa
set_option linter.unusedVariables false
set_option linter.unusedSimpArgs false
open Go.RowKit Go.Deep

/-- Where segment i ends: at the next boundary, the last one at its end. -/
def endAt (ls : List Seg) (i : Nat) : Int := if i + 1 < ls.length then bndV (ls.getD (i + 1) seg0) else endS (ls.getD i seg0)
def milF (ls : List Seg) (sc : Int) : Int := fstF [fIf (!inB sc 1 1000000000) 1, timF ls]
def milTo (ls : List Seg) (sc : Int) (k : Nat) : List Int := (List.range k).map fun i => msQ (endAt ls i) sc - msQ (bndV (ls.getD i seg0)) sc
/-- What Millis returns. -/
def milR (ls : List Seg) (sc : Int) : List Int := if milF ls sc = 0 then milTo ls sc ls.length else []
theorem milF_zero (ls : List Seg) (sc : Int) : milF ls sc = 0 ↔ (1 ≤ sc ∧ sc ≤ 1000000000) ∧ Timed ls := by
  unfold milF
  rw [fstF_zero]
  simp only [List.mem_cons, List.not_mem_nil, or_false, forall_eq_or_imp, forall_eq]
  rw [fIf_zero (by decide), timF_zero]
  simp only [Bool.not_eq_false', inB_iff]
theorem milTo_len (ls : List Seg) (sc : Int) (k : Nat) : (milTo ls sc k).length = k := by simp [milTo]
theorem milTo_succ (ls : List Seg) (sc : Int) (k : Nat) : milTo ls sc (k + 1) = milTo ls sc k ++ [msQ (endAt ls k) sc - msQ (bndV (ls.getD k seg0)) sc] := by simp [milTo, List.range_succ]
theorem milTo_at (ls : List Seg) (sc : Int) (k i : Nat) (h : i < k) : (milTo ls sc k).getD i 0 = msQ (endAt ls i) sc - msQ (bndV (ls.getD i seg0)) sc := by simp [milTo, List.getD_eq_getElem?_getD, h]
theorem okT_bd {s : Seg} (h : OkT s) : (-2000000000000000 ≤ bndV s ∧ bndV s ≤ 1000000000000000) ∧ (-1000000000000000 ≤ endS s ∧ endS s ≤ 1000000000000000) := by
  have a := h.bnd; have b := h.endS
  obtain ⟨q1, q2, q3, q4⟩ := h
  unfold isT at q1 q2 q4
  omega
theorem carryM {w W' w3 : World} {R : Nat} {no fr te bg ln by_ ld : Int} (h : W'.cell? ⟨R, 0, none⟩ = some (.int .i64 no) ∧ W'.cell? ⟨R, 1, none⟩ = some (.int .i64 fr) ∧ W'.cell? ⟨R, 2, none⟩ = some (.int .i64 te) ∧ W'.cell? ⟨R, 3, none⟩ = some (.int .i64 bg) ∧ W'.cell? ⟨R, 4, none⟩ = some (.int .i64 ln) ∧ W'.cell? ⟨R, 5, none⟩ = some (.int .i64 by_) ∧ W'.cell? ⟨R, 6, none⟩ = some (.int .i64 ld) ∧ Below w.heap.size w W' ∧ R < W'.heap.size) (b3 : Below W'.heap.size W' w3) : w3.cell? ⟨R, 0, none⟩ = some (.int .i64 no) ∧ w3.cell? ⟨R, 1, none⟩ = some (.int .i64 fr) ∧ w3.cell? ⟨R, 2, none⟩ = some (.int .i64 te) ∧ w3.cell? ⟨R, 3, none⟩ = some (.int .i64 bg) ∧ w3.cell? ⟨R, 4, none⟩ = some (.int .i64 ln) ∧ w3.cell? ⟨R, 5, none⟩ = some (.int .i64 by_) ∧ w3.cell? ⟨R, 6, none⟩ = some (.int .i64 ld) ∧ Below w.heap.size w w3 ∧ R < w3.heap.size := carry7 h b3
set_option maxRecDepth 100000 in
set_option maxHeartbeats 8000000 in
theorem millis_walk (b off n cap : Nat) (ls : List Seg) (sc : Int) (w : World) (hz : ls.length = n) (hn0 : 0 < n) (hlt : b < w.heap.size) (h0 : milF ls sc = 0) (hS0 : Segs w (.slice (some ⟨b, off, none⟩) n cap) ls) :
    Calls Try.prog 25 #[.slice (some ⟨b, off, none⟩) n cap, .int .i64 sc] w fun e w' => (∃ u, e = .returned (.tuple #[u, .int .i64 0]) ∧ NumsC w' u (milTo ls sc n)) ∧ Below w.heap.size w w' := by
  obtain ⟨ti0, hi, hi0, hi1, hi2⟩ := info_parts Try.infoInt8
  obtain ⟨⟨c0, c1⟩, hT⟩ := (milF_zero ls sc).1 h0
  have hn : n ≤ 1000 := by rw [← hz]; exact hT.len
  have HT := Lib.hid hT
  have HS := Lib.hid hS0
  have HC := Lib.hid (fun j (hj : j < n) => hS0.cells j (by omega))
  have HF : Hid (fstF [fIf (!inB sc 1 1000000000) 1, timF ls] = 0) := Lib.hid h0
  have HZ := Lib.hid hz
  have hcap := hS0.block (by omega)
  obtain ⟨-, hnc, hcm⟩ := hcap
  unfold maxLen at hcm
  clear hz hS0 h0 hT
  go_enter Try.func25, Try.ntmps25
  go_wp2_with fail
  refine (bscale_any _ _).mono ?_; rintro e w' ⟨rfl, rfl⟩
  go_wp2_with fail
  refine (bfaultIf_any _ _ _).mono ?_; rintro e w' ⟨rfl, rfl⟩
  go_wp2_with fail
  refine (tims_any _ ls _ HS.out).mono ?_; rintro e w1 ⟨rfl, b1⟩
  go_wp2_with fail
  refine (bfirst2 _ _ _).mono ?_; rintro e w' ⟨rfl, rfl⟩
  rw [HF.out]
  have b2 : Below w.heap.size w (w1.alloc (.cells #[.int .i64 (fIf (!inB sc 1 1000000000) 1), .int .i64 (timF ls)] 25)) := b1.alloc b1.size _
  generalize w1.alloc (.cells #[.int .i64 (fIf (!inB sc 1 1000000000) 1), .int .i64 (timF ls)] 25) = w2 at *
  go_wp2_with fail
  go_loopw [7, 24] (fun v7 v wr => ∃ (k : Nat), k ≤ n ∧ v = .int .i64 k ∧ wr.ownsRow w2.heap.size 3 1 v7 k ((milTo ls sc k).map (Value.int .i64)) ∧ w2.heap.size ≤ wr.heap.size ∧ Below w.heap.size w wr) (fun _ v _ => n - (intOf v).toNat)
  case atStart => exact ⟨0, by omega, rfl, World.ownsRow_nil _ _ _ _, Nat.le_refl _, b2⟩
  case round =>
    obtain ⟨k, hk, rfl, hown, hsz, hbel⟩ := hrel
    by_cases hlt2 : k < n
    · obtain ⟨s, hs⟩ : ∃ s, ls.getD k seg0 = s := ⟨_, rfl⟩
      obtain ⟨d0, d1, d2, d3, d4, d5, d6⟩ := HC.out k hlt2
      rw [hs] at d0 d1 d2 d3 d4 d5 d6
      have hok := HT.out.ok k (by rw [HZ.out]; exact hlt2)
      rw [hs] at hok
      obtain ⟨⟨bb1, bb2⟩, ⟨ee1, ee2⟩⟩ := okT_bd hok
      obtain ⟨bs, hbs⟩ : ∃ bs, bndV s = bs := ⟨_, rfl⟩
      obtain ⟨es, hes⟩ : ∃ es, endS s = es := ⟨_, rfl⟩
      rw [hbs] at bb1 bb2; rw [hes] at ee1 ee2
      have HBS0 := Lib.hid (bound_any s); have HEN0 := Lib.hid (end_any s)
      rw [hbs] at HBS0; rw [hes] at HEN0
      obtain ⟨M2, hM2⟩ : ∃ M2, msQ bs sc = M2 := ⟨_, rfl⟩
      have HM2 : Hid (∀ W', Calls Try.prog 48 #[.int .i64 bs, .int .i64 sc] W' fun e w' => e = .returned (.int .i64 M2) ∧ ∃ k, w' = W'.drewN k) := Lib.hid (fun W' => by rw [← hM2]; exact ms_any bs sc W' ⟨c0, c1⟩ (by omega) (by omega))
      obtain ⟨-, m20, m21⟩ := msQ_bd bs sc ⟨c0, c1⟩ (by omega) (by omega)
      rw [hM2] at m20 m21
      have HCL := Lib.hid (seg_cells s wr)
      rw [← hbel.cell (p := ⟨b, off + k * 7, none⟩) hlt] at d0
      rw [← hbel.cell (p := ⟨b, off + k * 7 + 1, none⟩) hlt] at d1
      rw [← hbel.cell (p := ⟨b, off + k * 7 + 2, none⟩) hlt] at d2
      rw [← hbel.cell (p := ⟨b, off + k * 7 + 3, none⟩) hlt] at d3
      rw [← hbel.cell (p := ⟨b, off + k * 7 + 4, none⟩) hlt] at d4
      rw [← hbel.cell (p := ⟨b, off + k * 7 + 5, none⟩) hlt] at d5
      rw [← hbel.cell (p := ⟨b, off + k * 7 + 6, none⟩) hlt] at d6
      have HSG := Lib.hid hs
      have HBB : Hid (bndV (ls.getD k seg0) = bs) := Lib.hid (by rw [hs, hbs])
      have HEE : Hid (endS (ls.getD k seg0) = es) := Lib.hid (by rw [hs, hes])
      have HMM2 := Lib.hid hM2
      clear hs hbs hes hM2 hok
      obtain ⟨no, fr, te, bg, ln, by_, ld⟩ := s
      simp only at d0 d1 d2 d3 d4 d5 d6 HBS0 HEN0 HCL
      have HBS : Hid (∀ W', Calls Try.prog 39 #[.agg #[.int .i64 no, .int .i64 fr, .int .i64 te, .int .i64 bg, .int .i64 ln, .int .i64 by_, .int .i64 ld]] W' fun e w' => e = .returned (.int .i64 bs) ∧ Below W'.heap.size W' w') := HBS0
      have HEN : Hid (∀ W', Calls Try.prog 47 #[.agg #[.int .i64 no, .int .i64 fr, .int .i64 te, .int .i64 bg, .int .i64 ln, .int .i64 by_, .int .i64 ld]] W' fun e w' => e = .returned (.int .i64 es) ∧ Below W'.heap.size W' w') := HEN0
      clear HBS0 HEN0
      obtain ⟨e0, e1, e2, e3, e4, e5, e6⟩ := HCL.out
      clear HCL
      go_upto_region 8 with fail
      have hWb : Below w.heap.size w (wr.alloc (.cells #[.int .i64 no, .int .i64 fr, .int .i64 te, .int .i64 bg, .int .i64 ln, .int .i64 by_, .int .i64 ld] 45)) := hbel.alloc hbel.size _
      have hWs : wr.heap.size < (wr.alloc (.cells #[.int .i64 no, .int .i64 fr, .int .i64 te, .int .i64 bg, .int .i64 ln, .int .i64 by_, .int .i64 ld] 45)).heap.size := by simp
      have hownW : (wr.alloc (.cells #[.int .i64 no, .int .i64 fr, .int .i64 te, .int .i64 bg, .int .i64 ln, .int .i64 by_, .int .i64 ld] 45)).ownsRow w2.heap.size 3 1 u7 k ((milTo ls sc k).map (Value.int .i64)) := hown.alloc _
      have hszW : w2.heap.size ≤ (wr.alloc (.cells #[.int .i64 no, .int .i64 fr, .int .i64 te, .int .i64 bg, .int .i64 ln, .int .i64 by_, .int .i64 ld] 45)).heap.size := by simp; omega
      have hRown : ∀ q, Value.ownBlock u7 = some q → q < wr.heap.size := fun q hq => (hown.lt q hq).2
      generalize wr.alloc (.cells #[.int .i64 no, .int .i64 fr, .int .i64 te, .int .i64 bg, .int .i64 ln, .int .i64 by_, .int .i64 ld] 45) = W at *
      generalize wr.heap.size = R at *
      have hS : W.cell? ⟨R, 0, none⟩ = some (.int .i64 no) ∧ W.cell? ⟨R, 1, none⟩ = some (.int .i64 fr) ∧ W.cell? ⟨R, 2, none⟩ = some (.int .i64 te) ∧ W.cell? ⟨R, 3, none⟩ = some (.int .i64 bg) ∧ W.cell? ⟨R, 4, none⟩ = some (.int .i64 ln) ∧ W.cell? ⟨R, 5, none⟩ = some (.int .i64 by_) ∧ W.cell? ⟨R, 6, none⟩ = some (.int .i64 ld) ∧ Below w.heap.size w W ∧ R < W.heap.size := ⟨e0, e1, e2, e3, e4, e5, e6, hWb, hWs⟩
      clear hown
      go_wp2_with fail
      refine (HEN.out _).mono ?_; rintro e w3 ⟨rfl, b3⟩
      have hS := carryM hS b3
      have hb3 := b3
      have i0 : (0 : Int) ≤ (k : Int) + 1 := by omega
      have i2 : ((k : Int) + 1).toNat = k + 1 := by omega
      have i4 : IntKind.i64.wrap ((k : Int) + 1) = (k : Int) + 1 := IntWalk.i64_in _ ⟨by omega, by omega⟩
      by_cases hlast : k + 1 < n
      · have HEA0 : Hid (endAt ls k = bndV (ls.getD (k + 1) seg0)) := Lib.hid (by rw [endAt, HZ.out, if_pos hlast])
        obtain ⟨s', hs'⟩ : ∃ s', ls.getD (k + 1) seg0 = s' := ⟨_, rfl⟩
        obtain ⟨q0, q1, q2, q3, q4, q5, q6⟩ := HC.out (k + 1) hlast
        rw [hs'] at q0 q1 q2 q3 q4 q5 q6
        have hbw3 : Below w.heap.size w w3 := hWb.trans (b3.mono hWb.size)
        rw [← hbw3.cell (p := ⟨b, off + (k + 1) * 7, none⟩) hlt] at q0
        rw [← hbw3.cell (p := ⟨b, off + (k + 1) * 7 + 1, none⟩) hlt] at q1
        rw [← hbw3.cell (p := ⟨b, off + (k + 1) * 7 + 2, none⟩) hlt] at q2
        rw [← hbw3.cell (p := ⟨b, off + (k + 1) * 7 + 3, none⟩) hlt] at q3
        rw [← hbw3.cell (p := ⟨b, off + (k + 1) * 7 + 4, none⟩) hlt] at q4
        rw [← hbw3.cell (p := ⟨b, off + (k + 1) * 7 + 5, none⟩) hlt] at q5
        rw [← hbw3.cell (p := ⟨b, off + (k + 1) * 7 + 6, none⟩) hlt] at q6
        have hok' := HT.out.ok (k + 1) (by rw [HZ.out]; exact hlast)
        rw [hs'] at hok'
        obtain ⟨⟨nb1, nb2⟩, -⟩ := okT_bd hok'
        obtain ⟨ns, hns⟩ : ∃ ns, bndV s' = ns := ⟨_, rfl⟩
        rw [hns] at nb1 nb2
        have HEA : Hid (endAt ls k = ns) := Lib.hid (by rw [HEA0.out, hs', hns])
        have HBN := Lib.hid (bound_any s')
        rw [hns] at HBN
        have i1 : (k : Int) + 1 < (n : Int) := by omega
        clear hs' hns hok'
        go_wp2_with fail
        refine (HBN.out _).mono ?_; rintro e w4 ⟨rfl, b4⟩
        have hS := carryM hS b4
        have hbW := b3.trans (b4.mono b3.size)
        obtain ⟨M1, hM1⟩ : ∃ M1, msQ ns sc = M1 := ⟨_, rfl⟩
        have HM1 : Hid (∀ W', Calls Try.prog 48 #[.int .i64 ns, .int .i64 sc] W' fun e w' => e = .returned (.int .i64 M1) ∧ ∃ k, w' = W'.drewN k) := Lib.hid (fun W' => by rw [← hM1]; exact ms_any ns sc W' ⟨c0, c1⟩ (by omega) (by omega))
        obtain ⟨-, m10, m11⟩ := msQ_bd ns sc ⟨c0, c1⟩ (by omega) (by omega)
        rw [hM1] at m10 m11
        have HMM1 := Lib.hid hM1
        clear hM1
        have HTO : Hid (milTo ls sc (k + 1) = milTo ls sc k ++ [M1 - M2]) := Lib.hid (by rw [milTo_succ, HBB.out, HMM2.out, HEA.out, HMM1.out])
        have hwd : IntKind.i64.wrap (M1 - M2) = M1 - M2 := IntWalk.i64_in _ ⟨by omega, by omega⟩
        go_upto_region 11 with fail
        refine wp_region_noPanic ?_
        refine wp_region_held_drew (S := fun w' => w'.cell? ⟨R, 0, none⟩ = some (.int .i64 no) ∧ w'.cell? ⟨R, 1, none⟩ = some (.int .i64 fr) ∧ w'.cell? ⟨R, 2, none⟩ = some (.int .i64 te) ∧ w'.cell? ⟨R, 3, none⟩ = some (.int .i64 bg) ∧ w'.cell? ⟨R, 4, none⟩ = some (.int .i64 ln) ∧ w'.cell? ⟨R, 5, none⟩ = some (.int .i64 by_) ∧ w'.cell? ⟨R, 6, none⟩ = some (.int .i64 ld) ∧ Below w.heap.size w w' ∧ R < w'.heap.size) (by kernel_rfl) ?hS0 (fun hHeld => ?_)
        case hS0 => exact carryM hS (Below.refl _ _).drew
        have hS := carryM hS (Below.refl _ _).drew
        have hbW := hbW.drew
        generalize w4.drew = wd at *
        refine wpAnyH_take (i := 0) (v := ?_) rfl (by kernel_rfl) (by kernel_rfl) (by kernel_rfl) (fun _ _ _ h => h) (Or.inl ⟨by kernel_rfl, ?hy⟩) (by assumption) ?_
        case hy => (intro w hSw; (try dsimp only at hSw); go_simp; try (with_reducible rfl))
        try simp only [Act.put, List.setIfInBounds_toArray, List.set_cons_zero, List.set_cons_succ]
        refine wpAnyH_take (i := 1) (v := ?_) rfl (by kernel_rfl) (by kernel_rfl) (by kernel_rfl) (fun _ _ _ h => h) (Or.inl ⟨by kernel_rfl, ?hy⟩) (by assumption) ?_
        case hy => (intro w hSw; (try dsimp only at hSw); go_simp; try (with_reducible rfl))
        try simp only [Act.put, List.setIfInBounds_toArray, List.set_cons_zero, List.set_cons_succ]
        refine wpAnyH_take (i := 2) (v := ?_) rfl (by kernel_rfl) (by kernel_rfl) (by kernel_rfl) (fun _ _ _ h => h) (Or.inl ⟨by kernel_rfl, ?hy⟩) (by assumption) ?_
        case hy => (intro w hSw; (try dsimp only at hSw); go_simp; try (with_reducible rfl))
        try simp only [Act.put, List.setIfInBounds_toArray, List.set_cons_zero, List.set_cons_succ]
        refine wpAnyH_take (i := 4) (v := ?_) rfl (by kernel_rfl) (by kernel_rfl) (by kernel_rfl) (fun _ _ _ h => h) (Or.inl ⟨by kernel_rfl, ?hy⟩) (by assumption) ?_
        case hy => (intro w hSw; (try dsimp only at hSw); go_simp; try (with_reducible rfl))
        try simp only [Act.put, List.setIfInBounds_toArray, List.set_cons_zero, List.set_cons_succ]
        refine wpAnyH_take (i := 6) (v := ?_) rfl (by kernel_rfl) (by kernel_rfl) (by kernel_rfl) (fun _ _ _ h => h) (Or.inl ⟨by kernel_rfl, ?hy⟩) (by assumption) ?_
        case hy => (intro w hSw; (try dsimp only at hSw); go_simp; try (with_reducible rfl))
        try simp only [Act.put, List.setIfInBounds_toArray, List.set_cons_zero, List.set_cons_succ]
        refine wpAnyH_ready (rs := [3]) (by kernel_rfl) (by simp) ?_
        refine AllReadyH.cons rfl (fun K hK => ?_) AllReadyH.nil
        go_simp
        refine (HM1.out _).mono ?_; rintro e w' ⟨rfl, q3, rfl⟩; have hS := carryM hS (below_drewN (Below.refl _ _) q3); have hbW := below_drewN hbW q3
        refine hK.out _ _ hS (fun hHeld => ?_)
        clear hK K
        try simp only [Act.put, List.setIfInBounds_toArray, List.set_cons_zero, List.set_cons_succ]
        refine wpAnyH_ready (rs := [5]) (by kernel_rfl) (by simp) ?_
        refine AllReadyH.cons rfl (fun K hK => ?_) AllReadyH.nil
        go_simp
        refine (HBS.out _).mono ?_; rintro e w5 ⟨rfl, b5⟩; have hS := carryM hS b5; have hbW := hbW.trans (b5.mono hbW.size)
        refine hK.out _ _ hS (fun hHeld => ?_)
        clear hK K
        try simp only [Act.put, List.setIfInBounds_toArray, List.set_cons_zero, List.set_cons_succ]
        refine wpAnyH_ready (rs := [7]) (by kernel_rfl) (by simp) ?_
        refine AllReadyH.cons rfl (fun K hK => ?_) AllReadyH.nil
        go_simp
        refine (HM2.out _).mono ?_; rintro e w' ⟨rfl, q7, rfl⟩; have hS := carryM hS (below_drewN (Below.refl _ _) q7); have hbW := below_drewN hbW q7
        refine hK.out _ _ hS (fun hHeld => ?_)
        clear hK K
        try simp only [Act.put, List.setIfInBounds_toArray, List.set_cons_zero, List.set_cons_succ]
        refine wpAnyH_take (i := 8) (v := ?_) rfl (by kernel_rfl) (by kernel_rfl) (by kernel_rfl) (fun _ _ _ h => h) (Or.inl ⟨by kernel_rfl, ?hy⟩) (by assumption) ?_
        case hy => (intro w hSw; (try dsimp only at hSw); go_simp; try (with_reducible rfl))
        try simp only [Act.put, List.setIfInBounds_toArray, List.set_cons_zero, List.set_cons_succ]
        refine wpAnyH_ready (rs := [9]) (by kernel_rfl) (by simp) ?_
        refine AllReadyH.cons rfl (fun K hK => ?_) AllReadyH.nil
        go_simp
        refine hK.out _ _ (carryM hS ((Below.refl _ _).alloc (Nat.le_refl _) _)) (fun hHeld => ?_)
        have hS := hHeld
        have hbW9 := hbW
        clear hK K
        try simp only [Act.put, List.setIfInBounds_toArray, List.set_cons_zero, List.set_cons_succ]
        refine wpAnyH_ready (rs := [10]) (by kernel_rfl) (by simp) ?_
        refine AllReadyH.cons rfl (fun K hK => ?_) AllReadyH.nil
        have hown9 := ownsRow_below hownW hbW9 (Nat.le_refl _)
        have hg2 := hbW9.size
        refine step_append_lies _ rfl (.tmp 42) (.tmp 51) 22 rfl w2.heap.size 3 ti0 (.int .i64 0) 1 8 Try.underlying22 hi hi0 hi1 hi2 rfl (by decide) u7 k ((milTo ls sc k).map (Value.int .i64)) (by rfl) (hown9.alloc _) _ 1 1 [.int .i64 (M1 - M2)] (by rfl) rfl ?hn ?h1 (by omega) ?h63 ?hby ?hbase _ rfl ?_
        case hn =>
          have := World.news_of_block (cs := #[.int .i64 (M1 - M2)]) (t := 3) (fr := (0, 0)) (heap_alloc_new (w5.drewN q7) (.cells #[.int .i64 (M1 - M2)] 3))
          simpa using this
        case h1 => simp [Value.oneCell']
        case h63 => unfold maxLen; omega
        case hby => omega
        case hbase => simp; omega
        intro g6 cp6 w6 hown6 hgrow6 hat6 hlt6
        have far : ∀ i, w6.cell? ⟨R, i, none⟩ = _ := fun i => World.grownBy.cell_far hgrow6 ⟨R, i, none⟩ hS.2.2.2.2.2.2.2.2 (fun h => absurd (hRown R h.symm) (Nat.lt_irrefl _))
        have hb6 : Below w.heap.size w w6 := hS.2.2.2.2.2.2.2.1.grown hgrow6 (by simp; have := b2.size; omega) (fun q hq => by have := (hownW.lt q hq).1; have := b2.size; omega)
        have hz6 : R < w6.heap.size := by have h8 := hS.2.2.2.2.2.2.2.2; have h9 := hgrow6.size; omega
        have hS6 : w6.cell? ⟨R, 0, none⟩ = some (.int .i64 no) ∧ w6.cell? ⟨R, 1, none⟩ = some (.int .i64 fr) ∧ w6.cell? ⟨R, 2, none⟩ = some (.int .i64 te) ∧ w6.cell? ⟨R, 3, none⟩ = some (.int .i64 bg) ∧ w6.cell? ⟨R, 4, none⟩ = some (.int .i64 ln) ∧ w6.cell? ⟨R, 5, none⟩ = some (.int .i64 by_) ∧ w6.cell? ⟨R, 6, none⟩ = some (.int .i64 ld) ∧ Below w.heap.size w w6 ∧ R < w6.heap.size := ⟨(far 0).trans hS.1, (far 1).trans hS.2.1, (far 2).trans hS.2.2.1, (far 3).trans hS.2.2.2.1, (far 4).trans hS.2.2.2.2.1, (far 5).trans hS.2.2.2.2.2.1, (far 6).trans hS.2.2.2.2.2.2.1, hb6, hz6⟩
        have hs6 : w2.heap.size ≤ w6.heap.size := by have h9 := hgrow6.size; simp at h9; omega
        have hS := hS6
        refine hK.out _ _ hS6 (fun hHeld => ?_)
        clear hgrow6 hat6 far
        clear hK K
        try simp only [Act.put, List.setIfInBounds_toArray, List.set_cons_zero, List.set_cons_succ]
        refine wpAnyH_ready (rs := [11]) (by kernel_rfl) (by simp) ?_
        refine AllReadyH.cons rfl (fun K hK => ?_) AllReadyH.nil
        go_simp
        refine hK.out _ _ hS (fun hHeld => ?_)
        clear hK K
        try simp only [Act.put, List.setIfInBounds_toArray, List.set_cons_zero, List.set_cons_succ]
        refine wpAnyH_done (by kernel_rfl) ?_ _
        refine NoPanic.normal ?_
        go_wp2_with fail
        go_roundw
        case rel =>
          refine ⟨k + 1, by omega, by go_num, ?_, hs6, hb6⟩
          rw [HTO.out, List.map_append]
          exact hown6
        case measure => simp [intOf]; omega
      · have HEA : Hid (endAt ls k = es) := Lib.hid (by rw [endAt, HZ.out, if_neg hlast, HEE.out])
        have hl1 : decide (k + 1 < n) = false := by simp; omega
        have hl2 : decide ((k : Int) + 1 < (n : Int)) = false := by simp; omega
        have hbW := b3
        obtain ⟨M1, hM1⟩ : ∃ M1, msQ es sc = M1 := ⟨_, rfl⟩
        have HM1 : Hid (∀ W', Calls Try.prog 48 #[.int .i64 es, .int .i64 sc] W' fun e w' => e = .returned (.int .i64 M1) ∧ ∃ k, w' = W'.drewN k) := Lib.hid (fun W' => by rw [← hM1]; exact ms_any es sc W' ⟨c0, c1⟩ (by omega) (by omega))
        obtain ⟨-, m10, m11⟩ := msQ_bd es sc ⟨c0, c1⟩ (by omega) (by omega)
        rw [hM1] at m10 m11
        have HMM1 := Lib.hid hM1
        clear hM1
        have HTO : Hid (milTo ls sc (k + 1) = milTo ls sc k ++ [M1 - M2]) := Lib.hid (by rw [milTo_succ, HBB.out, HMM2.out, HEA.out, HMM1.out])
        have hwd : IntKind.i64.wrap (M1 - M2) = M1 - M2 := IntWalk.i64_in _ ⟨by omega, by omega⟩
        go_upto_region 11 with fail
        refine wp_region_noPanic ?_
        refine wp_region_held_drew (S := fun w' => w'.cell? ⟨R, 0, none⟩ = some (.int .i64 no) ∧ w'.cell? ⟨R, 1, none⟩ = some (.int .i64 fr) ∧ w'.cell? ⟨R, 2, none⟩ = some (.int .i64 te) ∧ w'.cell? ⟨R, 3, none⟩ = some (.int .i64 bg) ∧ w'.cell? ⟨R, 4, none⟩ = some (.int .i64 ln) ∧ w'.cell? ⟨R, 5, none⟩ = some (.int .i64 by_) ∧ w'.cell? ⟨R, 6, none⟩ = some (.int .i64 ld) ∧ Below w.heap.size w w' ∧ R < w'.heap.size) (by kernel_rfl) ?hS0 (fun hHeld => ?_)
        case hS0 => exact carryM hS (Below.refl _ _).drew
        have hS := carryM hS (Below.refl _ _).drew
        have hbW := hbW.drew
        generalize w3.drew = wd at *
        refine wpAnyH_take (i := 0) (v := ?_) rfl (by kernel_rfl) (by kernel_rfl) (by kernel_rfl) (fun _ _ _ h => h) (Or.inl ⟨by kernel_rfl, ?hy⟩) (by assumption) ?_
        case hy => (intro w hSw; (try dsimp only at hSw); go_simp; try (with_reducible rfl))
        try simp only [Act.put, List.setIfInBounds_toArray, List.set_cons_zero, List.set_cons_succ]
        refine wpAnyH_take (i := 1) (v := ?_) rfl (by kernel_rfl) (by kernel_rfl) (by kernel_rfl) (fun _ _ _ h => h) (Or.inl ⟨by kernel_rfl, ?hy⟩) (by assumption) ?_
        case hy => (intro w hSw; (try dsimp only at hSw); go_simp; try (with_reducible rfl))
        try simp only [Act.put, List.setIfInBounds_toArray, List.set_cons_zero, List.set_cons_succ]
        refine wpAnyH_take (i := 2) (v := ?_) rfl (by kernel_rfl) (by kernel_rfl) (by kernel_rfl) (fun _ _ _ h => h) (Or.inl ⟨by kernel_rfl, ?hy⟩) (by assumption) ?_
        case hy => (intro w hSw; (try dsimp only at hSw); go_simp; try (with_reducible rfl))
        try simp only [Act.put, List.setIfInBounds_toArray, List.set_cons_zero, List.set_cons_succ]
        refine wpAnyH_take (i := 4) (v := ?_) rfl (by kernel_rfl) (by kernel_rfl) (by kernel_rfl) (fun _ _ _ h => h) (Or.inl ⟨by kernel_rfl, ?hy⟩) (by assumption) ?_
        case hy => (intro w hSw; (try dsimp only at hSw); go_simp; try (with_reducible rfl))
        try simp only [Act.put, List.setIfInBounds_toArray, List.set_cons_zero, List.set_cons_succ]
        refine wpAnyH_take (i := 6) (v := ?_) rfl (by kernel_rfl) (by kernel_rfl) (by kernel_rfl) (fun _ _ _ h => h) (Or.inl ⟨by kernel_rfl, ?hy⟩) (by assumption) ?_
        case hy => (intro w hSw; (try dsimp only at hSw); go_simp; try (with_reducible rfl))
        try simp only [Act.put, List.setIfInBounds_toArray, List.set_cons_zero, List.set_cons_succ]
        refine wpAnyH_ready (rs := [3]) (by kernel_rfl) (by simp) ?_
        refine AllReadyH.cons rfl (fun K hK => ?_) AllReadyH.nil
        go_simp
        refine (HM1.out _).mono ?_; rintro e w' ⟨rfl, q3, rfl⟩; have hS := carryM hS (below_drewN (Below.refl _ _) q3); have hbW := below_drewN hbW q3
        refine hK.out _ _ hS (fun hHeld => ?_)
        clear hK K
        try simp only [Act.put, List.setIfInBounds_toArray, List.set_cons_zero, List.set_cons_succ]
        refine wpAnyH_ready (rs := [5]) (by kernel_rfl) (by simp) ?_
        refine AllReadyH.cons rfl (fun K hK => ?_) AllReadyH.nil
        go_simp
        refine (HBS.out _).mono ?_; rintro e w5 ⟨rfl, b5⟩; have hS := carryM hS b5; have hbW := hbW.trans (b5.mono hbW.size)
        refine hK.out _ _ hS (fun hHeld => ?_)
        clear hK K
        try simp only [Act.put, List.setIfInBounds_toArray, List.set_cons_zero, List.set_cons_succ]
        refine wpAnyH_ready (rs := [7]) (by kernel_rfl) (by simp) ?_
        refine AllReadyH.cons rfl (fun K hK => ?_) AllReadyH.nil
        go_simp
        refine (HM2.out _).mono ?_; rintro e w' ⟨rfl, q7, rfl⟩; have hS := carryM hS (below_drewN (Below.refl _ _) q7); have hbW := below_drewN hbW q7
        refine hK.out _ _ hS (fun hHeld => ?_)
        clear hK K
        try simp only [Act.put, List.setIfInBounds_toArray, List.set_cons_zero, List.set_cons_succ]
        refine wpAnyH_take (i := 8) (v := ?_) rfl (by kernel_rfl) (by kernel_rfl) (by kernel_rfl) (fun _ _ _ h => h) (Or.inl ⟨by kernel_rfl, ?hy⟩) (by assumption) ?_
        case hy => (intro w hSw; (try dsimp only at hSw); go_simp; try (with_reducible rfl))
        try simp only [Act.put, List.setIfInBounds_toArray, List.set_cons_zero, List.set_cons_succ]
        refine wpAnyH_ready (rs := [9]) (by kernel_rfl) (by simp) ?_
        refine AllReadyH.cons rfl (fun K hK => ?_) AllReadyH.nil
        go_simp
        refine hK.out _ _ (carryM hS ((Below.refl _ _).alloc (Nat.le_refl _) _)) (fun hHeld => ?_)
        have hS := hHeld
        have hbW9 := hbW
        clear hK K
        try simp only [Act.put, List.setIfInBounds_toArray, List.set_cons_zero, List.set_cons_succ]
        refine wpAnyH_ready (rs := [10]) (by kernel_rfl) (by simp) ?_
        refine AllReadyH.cons rfl (fun K hK => ?_) AllReadyH.nil
        have hown9 := ownsRow_below hownW hbW9 (Nat.le_refl _)
        have hg2 := hbW9.size
        refine step_append_lies _ rfl (.tmp 42) (.tmp 51) 22 rfl w2.heap.size 3 ti0 (.int .i64 0) 1 8 Try.underlying22 hi hi0 hi1 hi2 rfl (by decide) u7 k ((milTo ls sc k).map (Value.int .i64)) (by rfl) (hown9.alloc _) _ 1 1 [.int .i64 (M1 - M2)] (by rfl) rfl ?hn ?h1 (by omega) ?h63 ?hby ?hbase _ rfl ?_
        case hn =>
          have := World.news_of_block (cs := #[.int .i64 (M1 - M2)]) (t := 3) (fr := (0, 0)) (heap_alloc_new (w5.drewN q7) (.cells #[.int .i64 (M1 - M2)] 3))
          simpa using this
        case h1 => simp [Value.oneCell']
        case h63 => unfold maxLen; omega
        case hby => omega
        case hbase => simp; omega
        intro g6 cp6 w6 hown6 hgrow6 hat6 hlt6
        have far : ∀ i, w6.cell? ⟨R, i, none⟩ = _ := fun i => World.grownBy.cell_far hgrow6 ⟨R, i, none⟩ hS.2.2.2.2.2.2.2.2 (fun h => absurd (hRown R h.symm) (Nat.lt_irrefl _))
        have hb6 : Below w.heap.size w w6 := hS.2.2.2.2.2.2.2.1.grown hgrow6 (by simp; have := b2.size; omega) (fun q hq => by have := (hownW.lt q hq).1; have := b2.size; omega)
        have hz6 : R < w6.heap.size := by have h8 := hS.2.2.2.2.2.2.2.2; have h9 := hgrow6.size; omega
        have hS6 : w6.cell? ⟨R, 0, none⟩ = some (.int .i64 no) ∧ w6.cell? ⟨R, 1, none⟩ = some (.int .i64 fr) ∧ w6.cell? ⟨R, 2, none⟩ = some (.int .i64 te) ∧ w6.cell? ⟨R, 3, none⟩ = some (.int .i64 bg) ∧ w6.cell? ⟨R, 4, none⟩ = some (.int .i64 ln) ∧ w6.cell? ⟨R, 5, none⟩ = some (.int .i64 by_) ∧ w6.cell? ⟨R, 6, none⟩ = some (.int .i64 ld) ∧ Below w.heap.size w w6 ∧ R < w6.heap.size := ⟨(far 0).trans hS.1, (far 1).trans hS.2.1, (far 2).trans hS.2.2.1, (far 3).trans hS.2.2.2.1, (far 4).trans hS.2.2.2.2.1, (far 5).trans hS.2.2.2.2.2.1, (far 6).trans hS.2.2.2.2.2.2.1, hb6, hz6⟩
        have hs6 : w2.heap.size ≤ w6.heap.size := by have h9 := hgrow6.size; simp at h9; omega
        have hS := hS6
        refine hK.out _ _ hS6 (fun hHeld => ?_)
        clear hgrow6 hat6 far
        clear hK K
        try simp only [Act.put, List.setIfInBounds_toArray, List.set_cons_zero, List.set_cons_succ]
        refine wpAnyH_ready (rs := [11]) (by kernel_rfl) (by simp) ?_
        refine AllReadyH.cons rfl (fun K hK => ?_) AllReadyH.nil
        go_simp
        refine hK.out _ _ hS (fun hHeld => ?_)
        clear hK K
        try simp only [Act.put, List.setIfInBounds_toArray, List.set_cons_zero, List.set_cons_succ]
        refine wpAnyH_done (by kernel_rfl) ?_ _
        refine NoPanic.normal ?_
        go_wp2_with fail
        go_roundw
        case rel =>
          refine ⟨k + 1, by omega, by go_num, ?_, hs6, hb6⟩
          rw [HTO.out, List.map_append]
          exact hown6
        case measure => simp [intOf]; omega
    · have hkn : k = n := by omega
      subst hkn
      have hlt' : decide (k < k) = false := by simp
      have hln := milTo_len ls sc k
      have HLN := Lib.hid hln
      clear hln hlt2
      go_wp2_with fail
      go_ret2
      exact ⟨⟨_, rfl, NumsC.ofOwn (zs := milTo ls sc k) (by rw [HLN.out]; exact hown)⟩, hbel⟩
theorem millis_any (v : Value) (ls : List Seg) (sc : Int) (w : World) (h : Segs w v ls) :
    Calls Try.prog 25 #[v, .int .i64 sc] w fun e w' => (∃ u, e = .returned (.tuple #[u, .int .i64 (milF ls sc)]) ∧ NumsC w' u (milR ls sc)) ∧ Below w.heap.size w w' := by
  obtain ⟨g, hg⟩ : ∃ g, milF ls sc = g := ⟨_, rfl⟩
  have HF : Hid (fstF [fIf (!inB sc 1 1000000000) 1, timF ls] = g) := Lib.hid hg
  by_cases h0 : g = 0
  · subst h0
    rw [milR, hg, if_pos rfl]
    rcases h with ⟨a, cap, rfl, hl0⟩ | ⟨b, off, cap, rfl, hne, hlt, hl, hm, hc⟩
    · have he : ls = [] := List.length_eq_zero_iff.1 hl0
      subst he
      have HS : Hid (Segs w (.slice a 0 cap) []) := Lib.hid (.inl ⟨_, _, rfl, rfl⟩)
      clear hg hl0
      go_enter Try.func25, Try.ntmps25
      go_wp2_with fail
      refine (bscale_any _ _).mono ?_; rintro e w' ⟨rfl, rfl⟩
      go_wp2_with fail
      refine (bfaultIf_any _ _ _).mono ?_; rintro e w' ⟨rfl, rfl⟩
      go_wp2_with fail
      refine (tims_any _ [] _ HS.out).mono ?_; rintro e w1 ⟨rfl, b1⟩
      go_wp2_with fail
      refine (bfirst2 _ _ _).mono ?_; rintro e w' ⟨rfl, rfl⟩
      rw [HF.out]
      go_wp2_with fail
      refine wp_loop_rounds 1 ?_
      rw [rounds_succ]
      go_wp2_with fail
      go_ret2
      exact ⟨⟨_, rfl, .inl ⟨_, _, rfl, rfl⟩⟩, b1.alloc b1.size _⟩
    · exact millis_walk b off _ cap ls sc w rfl hne hlt hg (.inr ⟨b, off, cap, rfl, hne, hlt, hl, hm, hc⟩)
  · have HR : Hid (milR ls sc = []) := Lib.hid (by rw [milR, hg, if_neg h0])
    rw [HR.out, hg]
    obtain ⟨a, cap, rfl⟩ := h.parts
    have HS := Lib.hid h
    have hmx := h.max.2
    have hb : (g == 0) = false := by simp [h0]
    clear hg h0 h
    go_enter Try.func25, Try.ntmps25
    go_wp2_with fail
    refine (bscale_any _ _).mono ?_; rintro e w' ⟨rfl, rfl⟩
    go_wp2_with fail
    refine (bfaultIf_any _ _ _).mono ?_; rintro e w' ⟨rfl, rfl⟩
    go_wp2_with fail
    refine (tims_any _ ls _ HS.out).mono ?_; rintro e w1 ⟨rfl, b1⟩
    go_wp2_with fail
    refine (bfirst2 _ _ _).mono ?_; rintro e w' ⟨rfl, rfl⟩
    rw [HF.out]
    go_wp2_with fail
    go_ret2
    exact ⟨⟨_, rfl, .inl ⟨_, _, rfl, rfl⟩⟩, b1.alloc b1.size _⟩

end Go.Proofs.Ytgbdmgmbdjajeaa
