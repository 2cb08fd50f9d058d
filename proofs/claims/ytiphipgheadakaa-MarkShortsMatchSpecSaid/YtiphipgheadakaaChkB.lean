/- CheckBreaks (program). -/
import Derived.Test.YtiphipgheadakaaChkB1
import Derived.Test.YtiphipgheadakaaChkB2
import Derived.Test.YtiphipgheadakaaChkB3
import Derived.Test.YtiphipgheadakaaChkB4
import Derived.Deep.SlicePairs
import Derived.Deep.RegionHeld3
import Derived.BigQuiet
import Derived.Deep.QuietTactic
import Derived.Deep.DeepCutAuto
import Derived.Deep.CutBlock
namespace Go.Proofs.Ytiphipgheadakaa
set_option linter.unusedVariables false
set_option linter.unusedSimpArgs false
open Go.RowKit

theorem chkb_any (k n cap : Nat) (a : Option Addr) (bs : List Bk) (LB SB MB : Nat) (f : Int → Bool) (w : World) (hS : Bks w (.slice a n cap) bs) (hn : bs.length = n) (hn2 : n ≤ 200) (hkn : k < n) (hL : w.cell? ⟨LB, 0, none⟩ = some (.slice a n cap)) (hLl : LB < w.heap.size) (hSc : w.cell? ⟨SB, 0, none⟩ = some (.map (some MB))) (hSl : SB < w.heap.size) (hM : Sn w MB k f) (hSM : SB ≠ MB) (hw : (Lit.int .i64 (bs.getD k bk0).ev).wf = true) :
    Calls Try.prog 46 #[.int .i64 k, .agg #[.int .i64 (bs.getD k bk0).ev, .int .i64 (bs.getD k bk0).be, .int .i64 (bs.getD k bk0).en], .pointer (some ⟨LB, 0, none⟩), .pointer (some ⟨SB, 0, none⟩)] w fun r w' => r = .returned (.int .i64 (bkE (preE bs k) (f (bs.getD k bk0).ev) (bs.getD k bk0))) ∧ Sn w' MB (k + 1) (fun y => y == (bs.getD k bk0).ev || f y) ∧ BelowX w.heap.size MB w w' := by
  obtain ⟨x, hx⟩ : ∃ x, bs.getD k bk0 = x := ⟨_, rfl⟩
  rw [hx] at hw ⊢
  obtain ⟨ev, be, en⟩ := x
  cases k with
  | zero =>
    show Calls _ _ #[.int .i64 ((0 : Nat) : Int), _, _, _] w fun r w' => r = .returned (.int .i64 (bkE 0 (f ev) ⟨ev, be, en⟩)) ∧ _
    cases hT : inB be 0 1000000000000000 <;> cases hE : (en != -1)
    · exact chkb_zfo ev be en LB SB MB 0 f w hLl hSc hSl hM hSM (by omega) hw hT hE
    · exact chkb_zfe ev be en LB SB MB 0 f w hLl hSc hSl hM hSM (by omega) hw hT hE
    · exact chkb_zto ev be en LB SB MB 0 f w hLl hSc hSl hM hSM (by omega) hw hT hE
    · exact chkb_zte ev be en LB SB MB 0 f w hLl hSc hSl hM hSM (by omega) hw hT hE
  | succ k =>
    obtain ⟨b, off, cap', hv, hlt, -, -⟩ := hS.spot (by omega)
    simp only [Value.slice.injEq] at hv
    obtain ⟨rfl, -, rfl⟩ := hv
    obtain ⟨c0, c1, c2⟩ := hS.cells k (by omega)
    show Calls _ _ _ w fun r w' => r = .returned (.int .i64 (bkE (bs.getD k bk0).en (f ev) ⟨ev, be, en⟩)) ∧ _
    have hk1 : k + 1 - 1 = k := by omega
    cases hT : inB be 0 1000000000000000 <;> cases hE : (en != -1)
    · exact chkb_sfo (k + 1) b off n cap _ _ _ ev be en LB SB MB (k + 1) f w (by omega) hkn hn2 hL (by rw [hk1]; exact c0) (by rw [hk1]; exact c1) (by rw [hk1]; exact c2) hlt hLl hSc hSl hM hSM (by omega) hw hT hE
    · exact chkb_sfe (k + 1) b off n cap _ _ _ ev be en LB SB MB (k + 1) f w (by omega) hkn hn2 hL (by rw [hk1]; exact c0) (by rw [hk1]; exact c1) (by rw [hk1]; exact c2) hlt hLl hSc hSl hM hSM (by omega) hw hT hE
    · exact chkb_sto (k + 1) b off n cap _ _ _ ev be en LB SB MB (k + 1) f w (by omega) hkn hn2 hL (by rw [hk1]; exact c0) (by rw [hk1]; exact c1) (by rw [hk1]; exact c2) hlt hLl hSc hSl hM hSM (by omega) hw hT hE
    · exact chkb_ste (k + 1) b off n cap _ _ _ ev be en LB SB MB (k + 1) f w (by omega) hkn hn2 hL (by rw [hk1]; exact c0) (by rw [hk1]; exact c1) (by rw [hk1]; exact c2) hlt hLl hSc hSl hM hSM (by omega) hw hT hE
theorem Bks.belowX {B x : Nat} {w w' : World} {v : Value} {bs : List Bk} (h : Bks w v bs) (hb : BelowX B x w w') (hB : w.heap.size ≤ B) (hx : ∀ g o n c, v = .slice (some ⟨g, o, none⟩) n c → g ≠ x) : Bks w' v bs := by
  rcases h with h | ⟨b, off, cap, hv, hne, hlt, hl, hm, hc⟩
  · exact .inl h
  · refine .inr ⟨b, off, cap, hv, hne, Nat.lt_of_lt_of_le hlt hb.size, hl, hm, fun j hj c hc' => ?_⟩
    rw [hb.cell (p := ⟨b, off + j * 3 + c, none⟩) (by show b < B; omega) (hx _ _ _ _ hv)]
    exact hc j hj c hc'
theorem twB_eq (bs : List Bk) (k : Nat) : (fun y => y == (bs.getD k bk0).ev || twB bs k y) = twB bs (k + 1) := by
  funext y; rw [twB_succ]
set_option maxRecDepth 100000 in
set_option maxHeartbeats 16000000 in
theorem eachb_walk (a : Option Addr) (n cap : Nat) (bs : List Bk) (LB SB MB : Nat) (w : World) (hS : ∀ W, BelowX w.heap.size MB w W → Bks W (.slice a n cap) bs) (hn : bs.length = n) (hn0 : n ≤ 200) (hwf : ∀ y ∈ bs, bkWf y)
    (hL : w.cell? ⟨LB, 0, none⟩ = some (.slice a n cap)) (hLl : LB < w.heap.size) (hLM : LB ≠ MB) (hSc : w.cell? ⟨SB, 0, none⟩ = some (.map (some MB))) (hSl : SB < w.heap.size) (hSM : SB ≠ MB) (hM : Sn w MB 0 (fun _ => false)) :
    Calls Try.prog 45 #[.slice a n cap, .func (.func 46) #[] #[.pointer (some ⟨LB, 0, none⟩), .pointer (some ⟨SB, 0, none⟩)]] w fun r w' => r = .returned (.int .i64 (bksF bs)) ∧ BelowX w.heap.size MB w w' := by
  have HS := Lib.hid hS; have HN := Lib.hid hn
  have HW : Hid (∀ j, j < n → (Lit.int .i64 (bs.getD j bk0).ev).wf = true) := Lib.hid (fun j hj => (hwf _ (by
    rw [List.getD_eq_getElem?_getD, List.getElem?_eq_getElem (by omega)]
    exact List.getElem_mem _)).1)
  have HC : Hid (∀ k W, k < n → BelowX w.heap.size MB w W → Sn W MB k (twB bs k) → Calls Try.prog 46 #[.int .i64 k, .agg #[.int .i64 (bs.getD k bk0).ev, .int .i64 (bs.getD k bk0).be, .int .i64 (bs.getD k bk0).en], .pointer (some ⟨LB, 0, none⟩), .pointer (some ⟨SB, 0, none⟩)] W fun r w' => r = .returned (.int .i64 (bksE bs k)) ∧ Sn w' MB (k + 1) (twB bs (k + 1)) ∧ BelowX W.heap.size MB W w') := Lib.hid (fun k W hk hb hs => by
    have := chkb_any k n cap a bs LB SB MB (twB bs k) W (hS W hb) hn hn0 hk ((hb.cell (p := ⟨LB, 0, none⟩) hLl hLM).trans hL) (Nat.lt_of_lt_of_le hLl hb.size) ((hb.cell (p := ⟨SB, 0, none⟩) hSl hSM).trans hSc) (Nat.lt_of_lt_of_le hSl hb.size) hs hSM (HW.out k hk)
    rw [twB_eq] at this
    exact this)
  obtain ⟨R, hR⟩ : ∃ R, bksF bs = R := ⟨_, rfl⟩
  rw [hR]
  have HR := Lib.hid hR
  have hM : Sn w MB 0 (twB bs 0) := hM
  clear hS hn hwf hR hL hLl hLM hSc hSl hSM
  go_enter Try.func45, Try.ntmps45
  go_wp2_with fail
  go_loopw [10] (fun v wr => ∃ k : Nat, k ≤ n ∧ v = .int .i64 k ∧ Sn wr MB k (twB bs k) ∧ BelowX w.heap.size MB w wr ∧ Hid (∀ i, i < k → bksE bs i = 0)) (fun v _ => n - (intOf v).toNat)
  case atStart => exact ⟨0, Nat.zero_le _, rfl, hM, BelowX.refl _ _ _, Lib.hid (fun i hi => by omega)⟩
  case round =>
    clear hM
    obtain ⟨k, hk, rfl, hM, hbr, HK⟩ := hrel
    by_cases hk2 : k < n
    rotate_left
    · have hkn : k = n := by omega
      have e1 : R = 0 := by rw [← HR.out]; exact (bksF_zero bs).2 (fun i hi => HK.out i (by have := HN.out; omega))
      have kD : decide ((k : Int) < (n : Int)) = false := by simp; omega
      have kD2 : decide (k < n) = false := by simp; omega
      subst e1
      clear hkn hM
      go_wp2_with fail
      go_ret
      exact ⟨rfl, hbr⟩
    · have hSW := HS.out wr hbr
      obtain ⟨b, off, cap', hv, hlt, -, -⟩ := hSW.spot (by rw [HN.out]; omega)
      simp only [Value.slice.injEq] at hv
      obtain ⟨rfl, -, rfl⟩ := hv
      obtain ⟨c0, c1, c2⟩ := hSW.cells k (by rw [HN.out]; exact hk2)
      have HAT : Hid (bksE bs k ≠ 0 → R = bksE bs k) := Lib.hid (fun h => by rw [← HR.out]; exact bksF_at (by rw [HN.out]; exact hk2) HK.out h)
      have HNX : Hid (bksE bs k = 0 → ∀ i, i < k + 1 → bksE bs i = 0) := Lib.hid (fun h i hi => by
        by_cases e : i = k
        · subst e; exact h
        · exact HK.out i (by omega))
      have HCK : Hid (∀ W, BelowX w.heap.size MB w W → Sn W MB k (twB bs k) → Calls Try.prog 46 #[.int .i64 k, .agg #[.int .i64 (bs.getD k bk0).ev, .int .i64 (bs.getD k bk0).be, .int .i64 (bs.getD k bk0).en], .pointer (some ⟨LB, 0, none⟩), .pointer (some ⟨SB, 0, none⟩)] W fun r w' => r = .returned (.int .i64 (bksE bs k)) ∧ Sn w' MB (k + 1) (twB bs (k + 1)) ∧ BelowX W.heap.size MB W w') := Lib.hid (fun W => HC.out k W hk2)
      obtain ⟨z, hz⟩ : ∃ z, bksE bs k = z := ⟨_, rfl⟩
      obtain ⟨x, hx⟩ : ∃ x, bs.getD k bk0 = x := ⟨_, rfl⟩
      rw [hz] at HAT HNX HCK
      rw [hx] at c0 c1 c2 HCK
      have kI : (k : Int) < (n : Int) := by omega
      have hwI : IntKind.i64.wrap ((k : Int) + 1) = (k : Int) + 1 := IntWalk.i64_in _ ⟨by omega, by omega⟩
      have PX := BBox.new wr x 35
      have hM := hM.alloc (.cells #[.int .i64 x.ev, .int .i64 x.be, .int .i64 x.en] 35)
      have hbr := hbr.alloc hbr.size (.cells #[.int .i64 x.ev, .int .i64 x.be, .int .i64 x.en] 35)
      clear hz hx hSW HK
      go_upto_region 4 with fail
      generalize wr.alloc (.cells #[.int .i64 x.ev, .int .i64 x.be, .int .i64 x.en] 35) = W9 at *
      generalize wr.heap.size = X9 at *
      clear c0 c1 c2
      have y0 := PX.c0; have y1 := PX.c1; have y2 := PX.c2; have yl := PX.lt
      go_wp2_with fail
      refine (HCK.out _ hbr hM).mono ?_; rintro e w5 ⟨rfl, hM, b5⟩
      have hbn := hbr.trans (b5.mono hbr.size)
      clear y0 y1 y2 yl PX b5 hbr HCK
      by_cases h0 : z = 0
      · have HN2 := Lib.hid (HNX.out h0)
        subst h0
        clear HNX HAT
        go_wp2_with fail
        go_roundw
        case rel => exact ⟨k + 1, by omega, by go_num, hM, hbn, HN2⟩
        case measure => simp [intOf]; omega
      · have hne2 : (z == 0) = false := by simp; exact h0
        have hne3 : (z != 0) = true := by simp; exact h0
        have e1 : R = z := HAT.out h0
        subst e1
        clear HNX HAT hM
        go_wp2_with fail
        go_ret
        exact ⟨rfl, hbn⟩
set_option maxRecDepth 100000 in
set_option maxHeartbeats 16000000 in
theorem CheckBreaks_any (v : Value) (bs : List Bk) (w : World) (hS : Bks w v bs) (hwf : ∀ y ∈ bs, bkWf y) :
    Calls Try.prog 17 #[v] w fun e w' => e = .returned (.int .i64 (bkF bs)) ∧ Below w.heap.size w w' := by
  obtain ⟨a, cap, rfl⟩ := hS.parts
  have hlen := hS.max.2
  obtain ⟨n, hn⟩ : ∃ n, bs.length = n := ⟨_, rfl⟩
  obtain ⟨R, hR⟩ : ∃ R, bkF bs = R := ⟨_, rfl⟩
  rw [hR]
  have hmm := @run_makeMap Try.prog
  have b1 : Below w.heap.size w (w.alloc (.cells #[.slice a bs.length cap] 28)) := (Below.refl _ w).alloc (Nat.le_refl _) _
  have l0 : (w.alloc (.cells #[.slice a bs.length cap] 28)).cell? ⟨w.heap.size, 0, none⟩ = some (.slice a bs.length cap) := by rw [World.cell?_alloc_at _ _ _ _ (by simp)]; rfl
  rw [hn] at hlen b1 l0 ⊢
  unfold maxLen at hlen
  have ll : w.heap.size < (w.alloc (.cells #[.slice a n cap] 28)).heap.size := by simp
  by_cases hbig : 200 < n
  · have e1 : R = 2 := by rw [← hR]; exact bkF_large bs (by omega)
    subst e1
    clear hR hS hwf hmm hn
    go_enter Try.func17, Try.ntmps17
    go_upto_region 1 with fail
    generalize w.alloc (.cells #[.slice a n cap] 28) = W at *
    go_wp2_with fail
    go_ret
    exact ⟨rfl, b1⟩
  · have hR2 : bksF bs = R := by rw [← hR]; exact (bkF_few bs (by omega)).symm
    have kD : decide ((200 : Int) < (n : Int)) = false := by simp; omega
    have kD2 : decide (200 < n) = false := by simp; omega
    have HE : Hid (∀ W, Below w.heap.size w W → W.cell? ⟨w.heap.size, 0, none⟩ = some (.slice a n cap) → W.cell? ⟨w.heap.size + 1 + 1, 0, none⟩ = some (.map (some (w.heap.size + 1))) → w.heap.size + 1 + 1 < W.heap.size → Sn W (w.heap.size + 1) 0 (fun _ => false) → Calls Try.prog 45 #[.slice a n cap, .func (.func 46) #[] #[.pointer (some ⟨w.heap.size, 0, none⟩), .pointer (some ⟨w.heap.size + 1 + 1, 0, none⟩)]] W fun r w' => r = .returned (.int .i64 R) ∧ BelowX W.heap.size (w.heap.size + 1) W w') := Lib.hid (fun W hb h0 h1 h2 h3 => by
      rw [← hR2]
      refine eachb_walk a n cap bs _ _ _ W (fun W' hb' => ?_) hn (by omega) hwf h0 (by omega) (by omega) h1 h2 (by omega) h3
      rw [← hn]
      exact hS.below (hb.trans (hb'.below (by omega) (by omega))) (Nat.le_refl _))
    clear hR hR2 hS hwf hn hbig
    go_enter Try.func17, Try.ntmps17
    have hs1 : (w.alloc (.cells #[.slice a n cap] 28)).heap.size = w.heap.size + 1 := by simp
    have hs2 : ((w.alloc (.cells #[.slice a n cap] 28)).alloc (.map #[] 0)).heap.size = w.heap.size + 1 + 1 := by simp
    have bb : Below w.heap.size w (((w.alloc (.cells #[.slice a n cap] 28)).alloc (.map #[] 0)).alloc (.cells #[.map (some (w.heap.size + 1))] 79)) := (b1.alloc b1.size _).alloc (by rw [hs2]; omega) _
    have l1 : (((w.alloc (.cells #[.slice a n cap] 28)).alloc (.map #[] 0)).alloc (.cells #[.map (some (w.heap.size + 1))] 79)).cell? ⟨w.heap.size, 0, none⟩ = some (.slice a n cap) := by
      rw [World.cell?_alloc_old _ _ _ (by rw [hs2]; show w.heap.size ≠ _; omega), World.cell?_alloc_old _ _ _ (by rw [hs1]; show w.heap.size ≠ _; omega)]
      exact l0
    have m0 : (((w.alloc (.cells #[.slice a n cap] 28)).alloc (.map #[] 0)).alloc (.cells #[.map (some (w.heap.size + 1))] 79)).cell? ⟨w.heap.size + 1 + 1, 0, none⟩ = some (.map (some (w.heap.size + 1))) := by
      rw [World.cell?_alloc_at _ _ _ _ hs2.symm]; rfl
    have ms : w.heap.size + 1 + 1 < (((w.alloc (.cells #[.slice a n cap] 28)).alloc (.map #[] 0)).alloc (.cells #[.map (some (w.heap.size + 1))] 79)).heap.size := by simp
    have sn : Sn (((w.alloc (.cells #[.slice a n cap] 28)).alloc (.map #[] 0)).alloc (.cells #[.map (some (w.heap.size + 1))] 79)) (w.heap.size + 1) 0 (fun _ => false) := by
      have := (Sn.made (w.alloc (.cells #[.slice a n cap] 28))).alloc (.cells #[.map (some (w.heap.size + 1))] 79)
      rw [hs1] at this
      exact this
    clear b1 l0 ll hs1 hs2
    go_upto_region 1 with fail
    go_upto_region 4 with fail
    generalize ((w.alloc (.cells #[.slice a n cap] 28)).alloc (.map #[] 0)).alloc (.cells #[.map (some (w.heap.size + 1))] 79) = W at *
    go_wp2_with fail
    refine (HE.out _ bb l1 m0 ms sn).mono ?_; rintro e w3 ⟨rfl, b3⟩
    go_wp2_with fail
    go_ret
    exact ⟨rfl, bb.trans (b3.below bb.size (by omega))⟩

end Go.Proofs.Ytiphipgheadakaa
