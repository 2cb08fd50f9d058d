/- retimed, setSteps, checked of package sample. -/
import Derived.Test.YtgpiagdldcnijabChk
import Derived.Test.YtgpiagdldcnijabSliceS
import Derived.Test.YtgpiagdldcnijabBelowX
import Derived.BigRegion
namespace Go.Proofs.Ytgpiagdldcnijab
set_option linter.unusedVariables false
set_option linter.unusedSimpArgs false
open Go.RowKit Go.Deep

set_option maxRecDepth 100000 in
set_option maxHeartbeats 4000000 in
theorem retimed_walk (b off n cap : Nat) (ss : List Smp) (N : Nat) (cb : Array Value) (T : Nat → Int) (w : World) (eg : ∀ args w, (callFunc N args).run Try.prog w = .ok (.enter N args) w)
    (hz : ss.length = n) (hn0 : 0 < n) (g : Good ss) (hlt : b < w.heap.size) (hS : Smps w (.slice (some ⟨b, off, none⟩) n cap) ss) (hT : ∀ i, i < n → -2000000000000000 ≤ T i ∧ T i ≤ 2000000000000000)
    (hf : ∀ (k : Nat) (wr : World), k < n → Below w.heap.size w wr → Calls Try.prog N (#[.int .i64 k] ++ cb) wr fun e w' => e = .returned (.int .i64 (T k)) ∧ Below wr.heap.size wr w') :
    Calls Try.prog 86 #[.slice (some ⟨b, off, none⟩) n cap, .func (.func N) #[] cb] w fun e w' => (∃ u, e = .returned u ∧ w'.ownsRow w.heap.size 50 5 u n (scells (retL ss T))) ∧ Below w.heap.size w w' := by
  have hn := g.len
  rw [hz] at hn
  have HC : Hid (∀ j, j < n → w.cell? ⟨b, off + j * 5, none⟩ = some (.int .i64 (ss.getD j smp0).t) ∧ w.cell? ⟨b, off + j * 5 + 1, none⟩ = some (.int .i64 (ss.getD j smp0).s) ∧ w.cell? ⟨b, off + j * 5 + 2, none⟩ = some (.int .i64 (ss.getD j smp0).h) ∧ w.cell? ⟨b, off + j * 5 + 3, none⟩ = some (.int .i64 (ss.getD j smp0).z) ∧ w.cell? ⟨b, off + j * 5 + 4, none⟩ = some (.bool (ss.getD j smp0).k)) := Lib.hid (fun j hj => hS.cells j (by omega))
  have HZ := Lib.hid hz
  have HG := Lib.hid g
  have HF := Lib.hid hf
  have HT := Lib.hid hT
  have HS := Lib.hid hS
  clear hz g hf hT hS
  go_enter Try.func86, Try.ntmps86
  go_wp2_with fail
  refine (clone_any _ ss _ HS.out (by rw [HZ.out]; omega)).mono ?_; rintro e w1 ⟨⟨u, rfl, o1⟩, b1⟩
  rcases o1 with ⟨h0, -⟩ | hown0
  · have := HZ.out; rw [h0] at this; simp at this; omega
  rw [HZ.out] at hown0
  have hu : ∃ gb cp, u = .slice (some ⟨gb, 0, none⟩) n cp := by
    rcases hown0.2 with ⟨_, h0⟩ | ⟨gb, cp, cur, rfl, _⟩
    · omega
    · exact ⟨gb, cp, rfl⟩
  obtain ⟨gb, cp, rfl⟩ := hu
  go_wp2_with fail
  go_loopw [13] (fun v wr => ∃ k : Nat, k ≤ n ∧ v = .int .i64 k ∧ wr.ownsRow w.heap.size 50 5 (.slice (some ⟨gb, 0, none⟩) n cp) n (scells (retTo ss T k)) ∧ Below w.heap.size w wr) (fun v _ => n - (intOf v).toNat)
  case atStart => exact ⟨0, Nat.zero_le _, rfl, by rw [retTo_zero]; exact hown0, b1⟩
  case round =>
    clear hown0 b1
    obtain ⟨k, hk, rfl, hown, hbel⟩ := hrel
    by_cases hlt2 : k < n
    · obtain ⟨y, hy⟩ : ∃ y, ss.getD k smp0 = y := ⟨_, rfl⟩
      obtain ⟨x, hx⟩ : ∃ x, T k = x := ⟨_, rfl⟩
      obtain ⟨c0, c1, c2, c3, c4⟩ := HC.out k hlt2
      have ok := HG.out.ok k (by rw [HZ.out]; exact hlt2)
      have ht := HT.out k hlt2
      have hput := retTo_put ss T k (by rw [HZ.out]; exact hlt2) x ((ss.getD k smp0).t + (ss.getD k smp0).h - x) hx rfl
      rw [hy] at c0 c1 c2 c3 c4 ok hput
      rw [hx] at ht
      have d0 : wr.cell? ⟨b, off + k * 5, none⟩ = some (.int .i64 y.t) := by rw [hbel.cell (p := ⟨b, off + k * 5, none⟩) hlt]; exact c0
      have d1 : wr.cell? ⟨b, off + k * 5 + 1, none⟩ = some (.int .i64 y.s) := by rw [hbel.cell (p := ⟨b, off + k * 5 + 1, none⟩) hlt]; exact c1
      have d2 : wr.cell? ⟨b, off + k * 5 + 2, none⟩ = some (.int .i64 y.h) := by rw [hbel.cell (p := ⟨b, off + k * 5 + 2, none⟩) hlt]; exact c2
      have d3 : wr.cell? ⟨b, off + k * 5 + 3, none⟩ = some (.int .i64 y.z) := by rw [hbel.cell (p := ⟨b, off + k * 5 + 3, none⟩) hlt]; exact c3
      have d4 : wr.cell? ⟨b, off + k * 5 + 4, none⟩ = some (.bool y.k) := by rw [hbel.cell (p := ⟨b, off + k * 5 + 4, none⟩) hlt]; exact c4
      clear hy c0 c1 c2 c3 c4
      obtain ⟨t, s, h, z, kk⟩ := y
      simp only at d0 d1 d2 d3 d4 hput
      obtain ⟨o0, -, o2, -⟩ := ok
      obtain ⟨o3, o4⟩ := o0
      obtain ⟨o5, o6⟩ := o2
      obtain ⟨t0, t1⟩ := ht
      simp only at o3 o4 o5 o6
      have HP := Lib.hid hput
      have hsz := hbel.size
      have hws : gb < wr.heap.size := (hown.lt gb rfl).2
      have hgb : w.heap.size ≤ gb := (hown.lt gb rfl).1
      have hc := HF.out k (wr.alloc (.cells #[.int .i64 t, .int .i64 s, .int .i64 h, .int .i64 z, .bool kk] 50)) hlt2 (hbel.alloc hsz _)
      rw [hx] at hc
      have hgl : (scells (retTo ss T k)).length = n * 5 := by rw [scells_len, retTo_len, HZ.out]
      have HGL := Lib.hid hgl
      clear hput hx hgl
      go_wp2_with (go_at_fn N; refine hc.mono ?_; rintro e w3 ⟨rfl, b3⟩)
      have s3 := b3.size
      simp only [World.size_alloc] at s3
      have hs3 : wr.heap.size < w3.heap.size := by omega
      have hne : ¬ wr.heap.size = gb := by omega
      have hne2 : ¬ gb = wr.heap.size := by omega
      have e0 : w3.cell? ⟨wr.heap.size, 0, none⟩ = some (.int .i64 t) := by
        rw [b3.cell (p := ⟨wr.heap.size, 0, none⟩) (by simp), World.cell?_alloc_at _ _ _ _ (by simp)]; rfl
      have e2 : w3.cell? ⟨wr.heap.size, 2, none⟩ = some (.int .i64 h) := by
        rw [b3.cell (p := ⟨wr.heap.size, 2, none⟩) (by simp), World.cell?_alloc_at _ _ _ _ (by simp)]; rfl
      have hown3 : w3.ownsRow w.heap.size 50 5 (.slice (some ⟨gb, 0, none⟩) n cp) n (scells (retTo ss T k)) := ownsRow_kept (hown.alloc _) b3 (Nat.le_refl _)
      obtain ⟨q0, q1, q2, q3, q4⟩ := scells_at (retTo ss T k) k (by rw [retTo_len, HZ.out]; exact hlt2)
      have r0 : w3.cell? ⟨gb, k * 5, none⟩ = some (.int .i64 ((retTo ss T k).getD k smp0).t) := by rw [World.ownsRow.cellAt hown3 (k * 5) (by omega)]; exact q0
      have r2 : w3.cell? ⟨gb, k * 5 + 2, none⟩ = some (.int .i64 ((retTo ss T k).getD k smp0).h) := by rw [World.ownsRow.cellAt hown3 (k * 5 + 2) (by omega)]; exact q2
      have z0 := World.ownsRow.frozenAt hown3 (k * 5)
      have z2 := World.ownsRow.frozenAt hown3 (k * 5 + 2)
      have hst := (World.ownsRow.stored ((World.ownsRow.stored hown3 (k * 5) (.int .i64 x)).1) (k * 5 + 2) (.int .i64 (t + h - x))).1
      rw [HP.out] at hst
      have HST := Lib.hid hst
      have hb3 : Below w.heap.size w w3 := (hbel.alloc hsz _).trans (b3.mono (by simp; omega))
      generalize ((retTo ss T k).getD k smp0).t = rt at r0
      generalize ((retTo ss T k).getD k smp0).h = rh at r2
      clear hst hown3 hown q0 q1 q2 q3 q4 hc
      go_region
      go_wp2_with fail
      go_roundw
      case rel => exact ⟨k + 1, by omega, by go_num, HST.out, ((hb3.setCell (p := ⟨gb, k * 5, none⟩) hgb _).setCell (p := ⟨gb, k * 5 + 2, none⟩) hgb _).drew⟩
      case measure => simp [intOf]; omega
    · have hkn : k = n := by omega
      subst hkn
      have e : retTo ss T k = retL ss T := by rw [← HZ.out, retTo_all]
      rw [e] at hown
      have HO := Lib.hid hown
      clear e hown
      go_wp2_with fail
      go_ret
      exact ⟨⟨_, rfl, HO.out⟩, hbel⟩

theorem retimed_empty (a : Option Addr) (cap : Nat) (N : Nat) (cb : Array Value) (w : World) :
    Calls Try.prog 86 #[.slice a 0 cap, .func (.func N) #[] cb] w fun e w' => (∃ u, e = .returned u ∧ Smps w' u []) ∧ Below w.heap.size w w' := by
  have HS : Smps w (.slice a 0 cap) [] := .inl ⟨_, _, rfl, rfl⟩
  go_enter Try.func86, Try.ntmps86
  go_wp2_with fail
  refine (clone_any _ [] _ HS (by simp)).mono ?_; rintro e w1 ⟨⟨u, rfl, o1⟩, b1⟩
  have o2 := Lib.hid o1.smps
  clear o1 HS
  go_wp2_with fail
  refine wp_loop_rounds 1 ?_
  rw [rounds_succ]
  go_wp2_with fail
  go_ret
  exact ⟨⟨_, rfl, o2.out⟩, b1⟩

set_option maxRecDepth 100000 in
set_option maxHeartbeats 4000000 in
theorem steps_walk (base gb cp n : Nat) (L : List Smp) (w : World) (hL : L.length = n) (hn0 : 0 < n) (hn : n ≤ 100000) (hB : base ≤ w.heap.size)
    (hown : w.ownsRow base 50 5 (.slice (some ⟨gb, 0, none⟩) n cp) n (scells L)) (hT : ∀ i, i < n → -4000000000000000 ≤ (L.getD i smp0).t ∧ (L.getD i smp0).t ≤ 4000000000000000) :
    Calls Try.prog 88 #[.slice (some ⟨gb, 0, none⟩) n cp] w fun e w' => e = .returned (.tuple #[]) ∧ w'.ownsRow base 50 5 (.slice (some ⟨gb, 0, none⟩) n cp) n (scells (stepL L)) ∧ Below base w w' := by
  have HL := Lib.hid hL; have HT := Lib.hid hT
  have hown0 : w.ownsRow base 50 5 (.slice (some ⟨gb, 0, none⟩) n cp) n (scells (stepTo L 1)) := by rw [stepTo_one]; exact hown
  clear hL hT hown
  go_enter Try.func88, Try.ntmps88
  go_wp2_with fail
  go_loopw [2] (fun v wr => ∃ k : Nat, k ≤ n ∧ 0 < k ∧ v = .int .i64 k ∧ wr.ownsRow base 50 5 (.slice (some ⟨gb, 0, none⟩) n cp) n (scells (stepTo L k)) ∧ Below base w wr) (fun v _ => n - (intOf v).toNat)
  case atStart => exact ⟨1, hn0, by omega, rfl, hown0, Below.refl _ _⟩
  case round =>
    clear hown0
    obtain ⟨k, hk, hk1, rfl, hown, hbel⟩ := hrel
    by_cases hlt2 : k < n
    · obtain ⟨j, rfl⟩ : ∃ j, k = j + 1 := ⟨k - 1, by omega⟩
      obtain ⟨x, hx⟩ : ∃ x, (L.getD (j + 1) smp0).t = x := ⟨_, rfl⟩
      obtain ⟨y, hy⟩ : ∃ y, (L.getD j smp0).t = y := ⟨_, rfl⟩
      obtain ⟨x0, x1⟩ := HT.out (j + 1) hlt2
      obtain ⟨y0, y1⟩ := HT.out j (by omega)
      have hput := stepTo_put L j (by rw [HL.out]; exact hlt2) (x - y) (by rw [hx, hy])
      have hl5 : (scells (stepTo L (j + 1))).length = n * 5 := by rw [scells_len, stepTo_len, HL.out]
      have cx := (scells_at (stepTo L (j + 1)) (j + 1) (by rw [stepTo_len, HL.out]; exact hlt2)).1
      have cy := (scells_at (stepTo L (j + 1)) j (by rw [stepTo_len, HL.out]; omega)).1
      have cs := (scells_at (stepTo L (j + 1)) j (by rw [stepTo_len, HL.out]; omega)).2.1
      rw [stepTo_t _ _ _ (by rw [HL.out]; exact hlt2), hx] at cx
      rw [stepTo_t _ _ _ (by rw [HL.out]; omega), hy] at cy
      rw [hx] at x0 x1; rw [hy] at y0 y1
      obtain ⟨m, hm⟩ : ∃ m, j + 1 = m := ⟨_, rfl⟩
      have rx : wr.cell? ⟨gb, m * 5, none⟩ = some (.int .i64 x) := by rw [← hm, World.ownsRow.cellAt hown ((j + 1) * 5) (by omega)]; exact cx
      have ry : wr.cell? ⟨gb, j * 5, none⟩ = some (.int .i64 y) := by rw [World.ownsRow.cellAt hown (j * 5) (by omega)]; exact cy
      have rs : wr.cell? ⟨gb, j * 5 + 1, none⟩ = some (.int .i64 ((stepTo L (j + 1)).getD j smp0).s) := by rw [World.ownsRow.cellAt hown (j * 5 + 1) (by omega)]; exact cs
      generalize ((stepTo L (j + 1)).getD j smp0).s = rv at rs
      have fz := World.ownsRow.frozenAt hown (j * 5 + 1)
      have hst := (World.ownsRow.stored hown (j * 5 + 1) (.int .i64 (x - y))).1
      rw [hput] at hst
      have HST := Lib.hid hst
      have hgb : base ≤ gb := (hown.lt gb rfl).1
      have hjn : j < n := by omega
      have hwr : IntKind.i64.wrap ((m : Int) - 1) = (j : Int) := by rw [show (m : Int) - 1 = (j : Int) by omega]; exact IntWalk.i64_in _ ⟨by omega, by omega⟩
      have HM := Lib.hid hm
      rw [hm] at hlt2 hk hk1 ⊢
      clear hst hput hl5 cx cy cs hown hx hy hm
      go_wp2_with fail
      go_region
      go_wp2_with fail
      go_roundw
      case rel => exact ⟨m + 1, by omega, by omega, by go_num, by rw [← HM.out]; exact HST.out, (hbel.setCell (p := ⟨gb, j * 5 + 1, none⟩) hgb _).drew⟩
      case measure => simp [intOf]; omega
    · have hkn : k = n := by omega
      subst hkn
      have e : stepTo L k = stepL L := by rw [← HL.out, stepTo_all]
      rw [e] at hown
      have HO := Lib.hid hown
      clear e hown
      go_wp2_with fail
      go_end0
      exact ⟨rfl, HO.out, hbel⟩

theorem steps_empty (a : Option Addr) (cap : Nat) (w : World) :
    Calls Try.prog 88 #[.slice a 0 cap] w fun e w' => e = .returned (.tuple #[]) ∧ w = w' := by
  go_enter Try.func88, Try.ntmps88
  go_wp2_with fail
  refine wp_loop_rounds 1 ?_
  rw [rounds_succ]
  go_wp2_with fail
  go_end0
  exact ⟨rfl, rfl⟩

set_option maxHeartbeats 1000000 in
theorem checked_any (v : Value) (ss : List Smp) (w : World) (h : Smps w v ss) :
    Calls Try.prog 89 #[v] w fun e w' => (∃ u, e = .returned (.tuple #[u, .int .i64 (chkF ss)]) ∧ Smps w' u (if chkF ss = 0 then ss else [])) ∧ Below w.heap.size w w' := by
  obtain ⟨x, hx⟩ : ∃ x, chkF ss = x := ⟨_, rfl⟩
  by_cases h0 : x = 0
  · subst h0
    have HX := Lib.hid hx
    rw [hx, if_pos rfl]
    clear hx
    go_enter Try.func89, Try.ntmps89
    go_wp2_with fail
    refine (chk_any _ ss _ h).mono ?_; rintro e w1 ⟨rfl, b1⟩
    rw [HX.out]
    go_wp2_with fail
    go_ret2
    exact ⟨⟨_, rfl, h.below b1 (Nat.le_refl _)⟩, b1⟩
  · have HX := Lib.hid hx
    rw [hx, if_neg h0]
    have hb : (x == 0) = false := by simp [h0]
    clear hx
    go_enter Try.func89, Try.ntmps89
    go_wp2_with fail
    refine (chk_any _ ss _ h).mono ?_; rintro e w1 ⟨rfl, b1⟩
    rw [HX.out]
    go_wp2_with fail
    go_ret2
    exact ⟨⟨_, rfl, .nil _⟩, b1⟩

end Go.Proofs.Ytgpiagdldcnijab
