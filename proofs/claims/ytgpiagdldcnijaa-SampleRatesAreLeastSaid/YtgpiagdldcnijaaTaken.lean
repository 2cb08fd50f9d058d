/- roundedUp, bytesOf, within, checkParcel, eachTaken of package sample. -/
import Derived.Test.YtgpiagdldcnijaaChk
import Derived.Test.YtgpiagdldcnijaaRatePlain
import Derived.Test.YtgpiagdldcnijaaBelowX
import Derived.Deep.DeepCutAuto
import Derived.Shelf.Abstract
import Derived.Deep.CutBlock
namespace Go.Proofs.Ytgpiagdldcnijaa
set_option linter.unusedVariables false
set_option linter.unusedSimpArgs false
open Go.RowKit Go.Deep

theorem swithin_any (n a b : Int) (w : World) :
    Calls Try.prog 78 #[.int .i64 n, .int .i64 a, .int .i64 b] w fun e w' => e = .returned (.bool (inB n a b)) ∧ w = w' := by
  by_cases h1 : a ≤ n
  · by_cases h2 : n ≤ b
    · have e : inB n a b = true := by simp [inB, h1, h2]
      have E := Lib.hid e
      clear e
      go_enter Try.func78, Try.ntmps78
      go_wp2
      go_ret
      exact ⟨bret_bool (by rw [E.out]; try simp; try omega), rfl⟩
    · have e : inB n a b = false := by simp [inB, h2]
      have d : decide (n ≤ b) = false := by simp only [decide_eq_false_iff_not]; exact h2
      have E := Lib.hid e
      clear e
      go_enter Try.func78, Try.ntmps78
      go_wp2
      go_ret
      exact ⟨bret_bool (by rw [E.out]; try simp; try omega), rfl⟩
  · have e : inB n a b = false := by simp [inB, h1]
    have d : decide (a ≤ n) = false := by simp only [decide_eq_false_iff_not]; exact h1
    have E := Lib.hid e
    clear e
    go_enter Try.func78, Try.ntmps78
    go_wp2
    go_ret
    exact ⟨bret_bool (by rw [E.out]; try simp; try omega), rfl⟩

theorem roundedUp_any (n d : Int) (w : World) (h0 : 0 ≤ n) (h1 : n ≤ 1000000000000000000) (d0 : 1 ≤ d) (d1 : d ≤ 1000000000000000000) :
    Calls Try.prog 100 #[.int .i64 n, .int .i64 d] w fun e w' => e = .returned (.int .i64 (upQ n d)) ∧ w = w' := by
  obtain ⟨x, hx⟩ : ∃ x, upQ n d = x := ⟨_, rfl⟩
  have hz : (d == 0) = false := by simp; omega
  have hq : (n + d - 1).tdiv d = x := by rw [Int.tdiv_eq_ediv_of_nonneg (by omega)]; exact hx
  have hq2 : (n + d - 1) / d = x := hx
  have hb := upQ_bd h0 d0
  have hb0 := upQ_nonneg h0 d0
  rw [hx] at hb hb0 ⊢
  clear hx
  go_enter Try.func100, Try.ntmps100
  go_wp2_with fail
  go_ret
  exact ⟨bret_int (by first | rfl | exact hq | exact hq2 | omega), rfl⟩

set_option maxHeartbeats 1000000 in
theorem checkParcel_any (S : Int) (v : Value) (ss : List Smp) (w : World) (h : Smps w v ss) :
    Calls Try.prog 97 #[.agg #[.int .i64 S, v]] w fun e w' => e = .returned (.int .i64 (chkP ss S)) ∧ Below w.heap.size w w' := by
  obtain ⟨a, cap, rfl⟩ := h.parts
  obtain ⟨n, hn⟩ : ∃ n, ss.length = n := ⟨_, rfl⟩
  rw [hn] at h ⊢
  have hb0 : Below w.heap.size w (w.alloc (.cells #[.int .i64 S, .slice a n cap] 82)) := (Below.refl _ _).alloc (Nat.le_refl _) _
  have HS := Lib.hid (h.below hb0 (Nat.le_refl _))
  obtain ⟨x, hx⟩ : ∃ x, chkF ss = x := ⟨_, rfl⟩
  have HX := Lib.hid hx
  by_cases h0 : x = 0
  · subst h0
    have hP : chkP ss S = fIf (!inB S 1 1000000000) 1 := by rw [chkP, if_pos hx]
    cases hB : inB S 1 1000000000 with
    | true =>
      rw [hB] at hP
      have HP := Lib.hid hP
      have HB := Lib.hid hB
      clear hP hB hx h hn
      go_enter Try.func97, Try.ntmps97
      go_wp2_with fail
      refine (chk_any _ ss _ HS.out).mono ?_; rintro e w1 ⟨rfl, b1⟩
      rw [HX.out]
      have c0 : w1.cell? ⟨w.heap.size, 0, none⟩ = some (.int .i64 S) := by rw [b1.cell (p := ⟨w.heap.size, 0, none⟩) (by simp), World.cell?_alloc_at _ _ _ _ (by simp)]; rfl
      have bel := hb0.trans (b1.mono hb0.size)
      clear b1
      go_wp2_with fail
      refine (swithin_any _ _ _ _).mono ?_; rintro e w' ⟨rfl, rfl⟩
      rw [HB.out]
      go_wp2_with fail
      go_ret
      exact ⟨bret_int HP.out.symm, bel⟩
    | false =>
      rw [hB] at hP
      have HP := Lib.hid hP
      have HB := Lib.hid hB
      clear hP hB hx h hn
      go_enter Try.func97, Try.ntmps97
      go_wp2_with fail
      refine (chk_any _ ss _ HS.out).mono ?_; rintro e w1 ⟨rfl, b1⟩
      rw [HX.out]
      have c0 : w1.cell? ⟨w.heap.size, 0, none⟩ = some (.int .i64 S) := by rw [b1.cell (p := ⟨w.heap.size, 0, none⟩) (by simp), World.cell?_alloc_at _ _ _ _ (by simp)]; rfl
      have bel := hb0.trans (b1.mono hb0.size)
      clear b1
      go_wp2_with fail
      refine (swithin_any _ _ _ _).mono ?_; rintro e w' ⟨rfl, rfl⟩
      rw [HB.out]
      go_wp2_with fail
      go_ret
      exact ⟨bret_int HP.out.symm, bel⟩
  · have hP : chkP ss S = x := by rw [chkP, hx, if_neg h0]
    have hb : (x == 0) = false := by simp [h0]
    have HP := Lib.hid hP
    clear hP hx h hn h0
    go_enter Try.func97, Try.ntmps97
    go_wp2_with fail
    refine (chk_any _ ss _ HS.out).mono ?_; rintro e w1 ⟨rfl, b1⟩
    rw [HX.out]
    go_wp2_with fail
    go_ret
    exact ⟨bret_int HP.out.symm, hb0.trans (b1.mono hb0.size)⟩

theorem sizeTo_bd5 {ss : List Smp} (g : Good ss) (k : Nat) (h : k ≤ ss.length) : 0 ≤ sizeTo ss k ∧ sizeTo ss k ≤ 500000000 := by
  have := sizeTo_bd g k h
  have := g.len
  omega

set_option maxRecDepth 100000 in
set_option maxHeartbeats 4000000 in
/-- eachTaken calls a closure that writes one captured variable, block bx. -/
theorem each_walk (S : Int) (b off n cap : Nat) (ss : List Smp) (N : Nat) (cb : Array Value) (bx : Nat) (ty : TypeId) (V : Nat → Value) (w : World) (eg : ∀ args w, (callFunc N args).run Try.prog w = .ok (.enter N args) w)
    (hz : ss.length = n) (hn0 : 0 < n) (g : Good ss) (hlt : b < w.heap.size) (hne : b ≠ bx) (hbx : bx < w.heap.size) (hS : Smps w (.slice (some ⟨b, off, none⟩) n cap) ss)
    (h0 : w.heap[bx]? = some (.cells #[V 0] ty (0, 0)))
    (hf : ∀ (k : Nat) (wr : World), k < n → BelowX w.heap.size bx w wr → wr.heap[bx]? = some (.cells #[V k] ty (0, 0)) →
      Calls Try.prog N (#[.int .i64 (tickAt ss k), .int .i64 (sizeTo ss k), .int .i64 (sizeTo ss (k + 1))] ++ cb) wr fun e w' => e = .returned (.tuple #[]) ∧ BelowX wr.heap.size bx wr w' ∧ w'.heap[bx]? = some (.cells #[V (k + 1)] ty (0, 0))) :
    Calls Try.prog 98 #[.agg #[.int .i64 S, .slice (some ⟨b, off, none⟩) n cap], .func (.func N) #[] cb] w fun e w' => e = .returned (.tuple #[]) ∧ BelowX w.heap.size bx w w' ∧ w'.heap[bx]? = some (.cells #[V n] ty (0, 0)) := by
  have hn := g.len
  rw [hz] at hn
  have HC : Hid (∀ j, j < n → w.cell? ⟨b, off + j * 5, none⟩ = some (.int .i64 (ss.getD j smp0).t) ∧ w.cell? ⟨b, off + j * 5 + 1, none⟩ = some (.int .i64 (ss.getD j smp0).s) ∧ w.cell? ⟨b, off + j * 5 + 2, none⟩ = some (.int .i64 (ss.getD j smp0).h) ∧ w.cell? ⟨b, off + j * 5 + 3, none⟩ = some (.int .i64 (ss.getD j smp0).z) ∧ w.cell? ⟨b, off + j * 5 + 4, none⟩ = some (.bool (ss.getD j smp0).k)) := Lib.hid (fun j hj => hS.cells j (by omega))
  have HZ := Lib.hid hz
  have HG := Lib.hid g
  have HF := Lib.hid hf
  have H0 := Lib.hid h0
  clear hz g hf hS h0
  have e1 : (w.alloc (.cells #[.int .i64 S, .slice (some ⟨b, off, none⟩) n cap] 82)).cell? ⟨w.heap.size, 1, none⟩ = some (.slice (some ⟨b, off, none⟩) n cap) := by rw [World.cell?_alloc_at _ _ _ _ (by simp)]; rfl
  have hbA : BelowX w.heap.size bx w (w.alloc (.cells #[.int .i64 S, .slice (some ⟨b, off, none⟩) n cap] 82)) := (BelowX.refl _ _ _).alloc (Nat.le_refl _) _
  have hsA : (w.alloc (.cells #[.int .i64 S, .slice (some ⟨b, off, none⟩) n cap] 82)).heap.size = w.heap.size + 1 := by simp
  have h0A : (w.alloc (.cells #[.int .i64 S, .slice (some ⟨b, off, none⟩) n cap] 82)).heap[bx]? = some (.cells #[V 0] ty (0, 0)) := one_alloc H0.out
  have E1 := Lib.hid e1; have HBA := Lib.hid hbA; have HSA := Lib.hid hsA; have H0A := Lib.hid h0A
  clear e1 hbA hsA h0A
  go_enter Try.func98, Try.ntmps98
  go_wp2_with fail
  generalize w.alloc (.cells #[.int .i64 S, .slice (some ⟨b, off, none⟩) n cap] 82) = wA at *
  go_loopw [4, 10] (fun u v wr => ∃ k : Nat, k ≤ n ∧ u = .int .i64 (sizeTo ss k) ∧ v = .int .i64 k ∧ BelowX (w.heap.size + 1) bx wA wr ∧ wr.heap[bx]? = some (.cells #[V k] ty (0, 0))) (fun _ v _ => n - (intOf v).toNat)
  case atStart => exact ⟨0, Nat.zero_le _, rfl, rfl, BelowX.refl _ _ _, H0A.out⟩
  case round =>
    obtain ⟨k, hk, rfl, rfl, hbel, hV⟩ := hrel
    have hsz := hbel.size
    rw [HSA.out] at hsz
    have ep : wr.cell? ⟨w.heap.size, 1, none⟩ = some (.slice (some ⟨b, off, none⟩) n cap) := by
      rw [hbel.cell (p := ⟨w.heap.size, 1, none⟩) (by show w.heap.size < _; omega) (by show w.heap.size ≠ bx; omega)]; exact E1.out
    by_cases hlt2 : k < n
    · have hwr : BelowX w.heap.size bx w wr := HBA.out.trans (hbel.mono (by omega))
      obtain ⟨y, hy⟩ : ∃ y, ss.getD k smp0 = y := ⟨_, rfl⟩
      obtain ⟨t0, ht0⟩ : ∃ t0, (ss.getD 0 smp0).t = t0 := ⟨_, rfl⟩
      obtain ⟨c0, c1, c2, c3, c4⟩ := HC.out k hlt2
      have cz := (HC.out 0 hn0).1
      have ok := HG.out.ok k (by rw [HZ.out]; exact hlt2)
      have ok0 := (HG.out.ok 0 (by rw [HZ.out]; exact hn0)).1
      have htk : tickAt ss k = (ss.getD k smp0).t - (ss.getD 0 smp0).t := rfl
      have hs1 : sizeTo ss (k + 1) = sizeTo ss k + (ss.getD k smp0).z := rfl
      have hs0 := sizeTo_bd5 HG.out k (by rw [HZ.out]; omega)
      rw [hy, ht0] at htk
      rw [hy] at c0 c1 c2 c3 c4 ok hs1
      rw [ht0, show off + 0 * 5 = off by omega] at cz
      rw [ht0] at ok0
      have d0 : wr.cell? ⟨b, off + k * 5, none⟩ = some (.int .i64 y.t) := by rw [hwr.cell (p := ⟨b, off + k * 5, none⟩) hlt hne]; exact c0
      have d1 : wr.cell? ⟨b, off + k * 5 + 1, none⟩ = some (.int .i64 y.s) := by rw [hwr.cell (p := ⟨b, off + k * 5 + 1, none⟩) hlt hne]; exact c1
      have d2 : wr.cell? ⟨b, off + k * 5 + 2, none⟩ = some (.int .i64 y.h) := by rw [hwr.cell (p := ⟨b, off + k * 5 + 2, none⟩) hlt hne]; exact c2
      have d3 : wr.cell? ⟨b, off + k * 5 + 3, none⟩ = some (.int .i64 y.z) := by rw [hwr.cell (p := ⟨b, off + k * 5 + 3, none⟩) hlt hne]; exact c3
      have d4 : wr.cell? ⟨b, off + k * 5 + 4, none⟩ = some (.bool y.k) := by rw [hwr.cell (p := ⟨b, off + k * 5 + 4, none⟩) hlt hne]; exact c4
      have dz : wr.cell? ⟨b, off, none⟩ = some (.int .i64 t0) := by rw [hwr.cell (p := ⟨b, off, none⟩) hlt hne]; exact cz
      clear hy c0 c1 c2 c3 c4 cz ht0
      obtain ⟨t, s, h, z, kk⟩ := y
      simp only at d0 d1 d2 d3 d4 htk hs1
      obtain ⟨o1, -, -, o4⟩ := ok
      simp only at o1 o4
      obtain ⟨sz, hsz0⟩ : ∃ sz, sizeTo ss k = sz := ⟨_, rfl⟩
      rw [hsz0] at hs0 hs1 ⊢
      have hi0 : (0 : Int) < (n : Int) := by omega
      have hblt : b < wr.heap.size := by omega
      have hcc := HF.out k ((wr.alloc (.cells #[.int .i64 t, .int .i64 s, .int .i64 h, .int .i64 z, .bool kk] 34)).drew) hlt2 ((hwr.alloc (by omega) _).drew) (one_alloc hV)
      rw [htk, hs1, hsz0] at hcc
      have HCC := Lib.hid hcc
      have HS1 := Lib.hid hs1
      clear hcc htk hs1 hsz0
      have e0 : (wr.alloc (.cells #[.int .i64 t, .int .i64 s, .int .i64 h, .int .i64 z, .bool kk] 34)).cell? ⟨wr.heap.size, 0, none⟩ = some (.int .i64 t) := by rw [World.cell?_alloc_at _ _ _ _ (by simp)]; rfl
      have e3 : (wr.alloc (.cells #[.int .i64 t, .int .i64 s, .int .i64 h, .int .i64 z, .bool kk] 34)).cell? ⟨wr.heap.size, 3, none⟩ = some (.int .i64 z) := by rw [World.cell?_alloc_at _ _ _ _ (by simp)]; rfl
      have eP : (wr.alloc (.cells #[.int .i64 t, .int .i64 s, .int .i64 h, .int .i64 z, .bool kk] 34)).cell? ⟨w.heap.size, 1, none⟩ = some (.slice (some ⟨b, off, none⟩) n cap) := by rw [World.cell?_alloc_past _ _ _ (by show w.heap.size < _; omega)]; exact ep
      have eZ : (wr.alloc (.cells #[.int .i64 t, .int .i64 s, .int .i64 h, .int .i64 z, .bool kk] 34)).cell? ⟨b, off, none⟩ = some (.int .i64 t0) := by rw [World.cell?_alloc_past _ _ _ hblt]; exact dz
      have hWb : BelowX (w.heap.size + 1) bx wA (wr.alloc (.cells #[.int .i64 t, .int .i64 s, .int .i64 h, .int .i64 z, .bool kk] 34)) := hbel.alloc (by omega) _
      have hWs : wr.heap.size < (wr.alloc (.cells #[.int .i64 t, .int .i64 s, .int .i64 h, .int .i64 z, .bool kk] 34)).heap.size := by simp
      go_upto_region 5 with fail
      generalize wr.alloc (.cells #[.int .i64 t, .int .i64 s, .int .i64 h, .int .i64 z, .bool kk] 34) = W at *
      clear d0 d1 d2 d3 d4 dz ep
      refine region_still_tail 14 (by kernel_rfl) (by kernel_rfl) ?_
      simp only [List.take_succ_cons, List.take_zero, List.drop_succ_cons, List.drop_zero]
      refine St.step (fun K hK => ?_); go_simp; refine hK.out _ ?_; clear hK K
      refine St.step (fun K hK => ?_); go_simp; refine hK.out _ ?_; clear hK K
      refine St.step (fun K hK => ?_); go_simp; refine hK.out _ ?_; clear hK K
      refine St.step (fun K hK => ?_); go_simp; refine hK.out _ ?_; clear hK K
      refine St.step (fun K hK => ?_); go_simp; refine hK.out _ ?_; clear hK K
      refine St.step (fun K hK => ?_); go_simp; refine hK.out _ ?_; clear hK K
      refine St.step (fun K hK => ?_); go_simp; refine hK.out _ ?_; clear hK K
      refine St.step (fun K hK => ?_); go_simp; refine hK.out _ ?_; clear hK K
      refine St.step (fun K hK => ?_); go_simp; refine hK.out _ ?_; clear hK K
      refine St.step (fun K hK => ?_); go_simp; refine hK.out _ ?_; clear hK K
      refine St.step (fun K hK => ?_); go_simp; refine hK.out _ ?_; clear hK K
      refine St.step (fun K hK => ?_); go_simp; refine hK.out _ ?_; clear hK K
      refine St.step (fun K hK => ?_); go_simp; refine hK.out _ ?_; clear hK K
      refine St.step (fun K hK => ?_); go_simp; refine hK.out _ ?_; clear hK K
      refine St.nil ?_
      go_wp2_with fail
      refine HCC.out.mono ?_; rintro e w3 ⟨rfl, b3, hV3⟩
      have hsW : wr.heap.size < w3.heap.size := Nat.lt_of_lt_of_le hWs b3.size
      have f3 : w3.cell? ⟨wr.heap.size, 3, none⟩ = some (.int .i64 z) := (b3.cell (p := ⟨wr.heap.size, 3, none⟩) hWs (by show wr.heap.size ≠ bx; omega)).trans e3
      have hb3 : BelowX (w.heap.size + 1) bx wA w3 := hWb.drew.trans (b3.mono (by show _ ≤ W.heap.size; omega))
      clear e0 e3 eP eZ b3
      go_wp2_with fail
      go_roundw
      case rel => exact ⟨k + 1, by omega, by rw [HS1.out], by go_num, hb3, hV3⟩
      case measure => simp [intOf]; omega
    · have hkn : k = n := by omega
      subst hkn
      go_wp2_with fail
      go_end0
      exact ⟨rfl, HBA.out.trans (hbel.mono (by omega)), hV⟩

theorem each_empty (S : Int) (a : Option Addr) (cap : Nat) (N : Nat) (cb : Array Value) (w : World) :
    Calls Try.prog 98 #[.agg #[.int .i64 S, .slice a 0 cap], .func (.func N) #[] cb] w fun e w' => e = .returned (.tuple #[]) ∧ Below w.heap.size w w' := by
  go_enter Try.func98, Try.ntmps98
  go_wp2_with fail
  refine wp_loop_rounds 1 ?_
  rw [rounds_succ]
  go_wp2_with fail
  go_end0
  exact ⟨rfl, (Below.refl _ _).alloc (Nat.le_refl _) _⟩

set_option maxRecDepth 100000 in
set_option maxHeartbeats 4000000 in
theorem bytesOf_any (v : Value) (ss : List Smp) (w : World) (g : Good ss) (h : Smps w v ss) :
    Calls Try.prog 127 #[v] w fun e w' => e = .returned (.int .i64 (sizeTo ss ss.length)) ∧ Below w.heap.size w w' := by
  have hS := h
  rcases h with ⟨a, cap, rfl, h0⟩ | ⟨b, off, cap, rfl, hne, hlt, hl, hm, hc⟩
  · have hs : ss = [] := List.length_eq_zero_iff.1 h0
    subst hs
    clear hS h0
    go_enter Try.func127, Try.ntmps127
    go_wp2_with fail
    refine wp_loop_rounds 1 ?_
    rw [rounds_succ]
    go_wp2_with fail
    go_ret
    exact ⟨rfl, Below.refl _ _⟩
  · obtain ⟨n, hz⟩ : ∃ n, ss.length = n := ⟨_, rfl⟩
    have hn := g.len
    have HC : Hid (∀ j, j < n → w.cell? ⟨b, off + j * 5, none⟩ = some (.int .i64 (ss.getD j smp0).t) ∧ w.cell? ⟨b, off + j * 5 + 1, none⟩ = some (.int .i64 (ss.getD j smp0).s) ∧ w.cell? ⟨b, off + j * 5 + 2, none⟩ = some (.int .i64 (ss.getD j smp0).h) ∧ w.cell? ⟨b, off + j * 5 + 3, none⟩ = some (.int .i64 (ss.getD j smp0).z) ∧ w.cell? ⟨b, off + j * 5 + 4, none⟩ = some (.bool (ss.getD j smp0).k)) := Lib.hid (fun j hj => hS.cells j (by omega))
    rw [hz] at hn ⊢
    have HZ := Lib.hid hz
    have HG := Lib.hid g
    clear hz g hS hc hne hl hm
    go_enter Try.func127, Try.ntmps127
    go_wp2_with fail
    go_loopw [3, 8] (fun u v wr => ∃ k : Nat, k ≤ n ∧ u = .int .i64 (sizeTo ss k) ∧ v = .int .i64 k ∧ Below w.heap.size w wr) (fun _ v _ => n - (intOf v).toNat)
    case atStart => exact ⟨0, Nat.zero_le _, rfl, rfl, Below.refl _ _⟩
    case round =>
      obtain ⟨k, hk, rfl, rfl, hbel⟩ := hrel
      by_cases hlt2 : k < n
      · obtain ⟨y, hy⟩ : ∃ y, ss.getD k smp0 = y := ⟨_, rfl⟩
        obtain ⟨c0, c1, c2, c3, c4⟩ := HC.out k hlt2
        have ok := (HG.out.ok k (by rw [HZ.out]; exact hlt2)).2.2.2
        have hs1 : sizeTo ss (k + 1) = sizeTo ss k + (ss.getD k smp0).z := rfl
        have hs0 := sizeTo_bd5 HG.out k (by rw [HZ.out]; omega)
        rw [hy] at c0 c1 c2 c3 c4 ok hs1
        have d0 : wr.cell? ⟨b, off + k * 5, none⟩ = some (.int .i64 y.t) := by rw [hbel.cell (p := ⟨b, off + k * 5, none⟩) hlt]; exact c0
        have d1 : wr.cell? ⟨b, off + k * 5 + 1, none⟩ = some (.int .i64 y.s) := by rw [hbel.cell (p := ⟨b, off + k * 5 + 1, none⟩) hlt]; exact c1
        have d2 : wr.cell? ⟨b, off + k * 5 + 2, none⟩ = some (.int .i64 y.h) := by rw [hbel.cell (p := ⟨b, off + k * 5 + 2, none⟩) hlt]; exact c2
        have d3 : wr.cell? ⟨b, off + k * 5 + 3, none⟩ = some (.int .i64 y.z) := by rw [hbel.cell (p := ⟨b, off + k * 5 + 3, none⟩) hlt]; exact c3
        have d4 : wr.cell? ⟨b, off + k * 5 + 4, none⟩ = some (.bool y.k) := by rw [hbel.cell (p := ⟨b, off + k * 5 + 4, none⟩) hlt]; exact c4
        clear hy c0 c1 c2 c3 c4
        obtain ⟨t, s, h, z, kk⟩ := y
        simp only at d0 d1 d2 d3 d4 ok hs1
        obtain ⟨sz, hsz0⟩ : ∃ sz, sizeTo ss k = sz := ⟨_, rfl⟩
        rw [hsz0] at hs0 hs1 ⊢
        have HS1 := Lib.hid hs1
        clear hs1 hsz0
        go_wp2_with fail
        go_roundw
        case rel => exact ⟨k + 1, by omega, by rw [HS1.out], by go_num, hbel.alloc hbel.size _⟩
        case measure => simp [intOf]; omega
      · have hkn : k = n := by omega
        subst hkn
        go_wp2_with fail
        go_ret
        exact ⟨rfl, hbel⟩

end Go.Proofs.Ytgpiagdldcnijaa
