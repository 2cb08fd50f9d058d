/- presentsOf of package sample. -/
import Derived.Test.YtgpiagdldcnijabChk
import Derived.Test.YtgpiagdldcnijabTightPlain
import Derived.Test.YtgpiagdldcnijabRegTick
namespace Go.Proofs.Ytgpiagdldcnijab
set_option linter.unusedVariables false
set_option linter.unusedSimpArgs false
open Go.RowKit Go.Deep

theorem take_snoc (zs : List Int) (k : Nat) (h : k < zs.length) : zs.take k ++ [zs.getD k 0] = zs.take (k + 1) := by
  rw [List.take_succ_eq_append_getElem h, getD_eq_get _ _ h]
theorem presL_bd {ss : List Smp} (g : Good ss) (k : Nat) (h : k < ss.length) : -1000001000000000 ≤ (ss.getD k smp0).t + (ss.getD k smp0).h ∧ (ss.getD k smp0).t + (ss.getD k smp0).h ≤ 1000001000000000 := by
  have a := (g.ok k h).1; have b := (g.ok k h).2.2.1
  omega

set_option maxRecDepth 100000 in
set_option maxHeartbeats 4000000 in
theorem pres_walk (b off n cap : Nat) (ss : List Smp) (w : World) (hz : ss.length = n) (hn0 : 0 < n) (g : Good ss) (hlt : b < w.heap.size) (hS : Smps w (.slice (some ⟨b, off, none⟩) n cap) ss) :
    Calls Try.prog 67 #[.slice (some ⟨b, off, none⟩) n cap] w fun e w' => (∃ u, e = .returned u ∧ Nums w' u (presL ss)) ∧ Below w.heap.size w w' := by
  obtain ⟨i0, hi, hi0, hi1, hi2⟩ := info_parts Try.infoInt
  have hn := g.len
  rw [hz] at hn
  have HC : Hid (∀ j, j < n → w.cell? ⟨b, off + j * 5, none⟩ = some (.int .i64 (ss.getD j smp0).t) ∧ w.cell? ⟨b, off + j * 5 + 1, none⟩ = some (.int .i64 (ss.getD j smp0).s) ∧ w.cell? ⟨b, off + j * 5 + 2, none⟩ = some (.int .i64 (ss.getD j smp0).h) ∧ w.cell? ⟨b, off + j * 5 + 3, none⟩ = some (.int .i64 (ss.getD j smp0).z) ∧ w.cell? ⟨b, off + j * 5 + 4, none⟩ = some (.bool (ss.getD j smp0).k)) := Lib.hid (fun j hj => hS.cells j (by omega))
  have HZ := Lib.hid hz
  have HG := Lib.hid g
  clear hz g hS
  go_enter Try.func67, Try.ntmps67
  go_wp2_with (at_make; refine wpList_make_full _ rfl _ _ 34 rfl w.heap.size 3 i0 (.int .i64 0) 1 Try.underlying34 hi hi0 hi1 _ _ _ _ n rfl rfl rfl rfl ?c1 ?c2 ?c3 ?_)
  case c1 => rw [hi2]; omega
  case c2 => unfold maxLen; omega
  case c3 => exact Nat.le_refl _
  intro w1 hown hgrow
  have hbel : Below w.heap.size w w1 := (Below.refl _ _).grown hgrow (Nat.le_refl _) (by simp)
  have hown0 : w1.ownsRow w.heap.size 3 1 (.slice (some ⟨w.heap.size, 0, none⟩) n n) n (filled [] n) := by
    rw [filled_zero]
    have := toList_madeCells_one (.int .i64 0) n
    rw [this] at hown
    exact hown
  clear hown hgrow
  go_wp2_with fail
  go_loopw [11] (fun v wr => ∃ k : Nat, k ≤ n ∧ v = .int .i64 k ∧ wr.ownsRow w.heap.size 3 1 (.slice (some ⟨w.heap.size, 0, none⟩) n n) n (filled ((presL ss).take k) n) ∧ Below w.heap.size w wr) (fun v _ => n - (intOf v).toNat)
  case atStart => exact ⟨0, Nat.zero_le _, rfl, hown0, hbel⟩
  case round =>
    clear hown0 hbel
    obtain ⟨k, hk, rfl, hown, hbel⟩ := hrel
    by_cases hlt2 : k < n
    · obtain ⟨y, hy⟩ : ∃ y, ss.getD k smp0 = y := ⟨_, rfl⟩
      obtain ⟨c0, c1, c2, c3, c4⟩ := HC.out k hlt2
      have hbd := presL_bd HG.out k (by rw [HZ.out]; exact hlt2)
      have hg := presL_get ss k (by rw [HZ.out]; exact hlt2)
      rw [hy] at c0 c1 c2 c3 c4 hbd hg
      have HY := Lib.hid hy
      have d0 : wr.cell? ⟨b, off + k * 5, none⟩ = some (.int .i64 y.t) := by rw [hbel.cell (p := ⟨b, off + k * 5, none⟩) hlt]; exact c0
      have d1 : wr.cell? ⟨b, off + k * 5 + 1, none⟩ = some (.int .i64 y.s) := by rw [hbel.cell (p := ⟨b, off + k * 5 + 1, none⟩) hlt]; exact c1
      have d2 : wr.cell? ⟨b, off + k * 5 + 2, none⟩ = some (.int .i64 y.h) := by rw [hbel.cell (p := ⟨b, off + k * 5 + 2, none⟩) hlt]; exact c2
      have d3 : wr.cell? ⟨b, off + k * 5 + 3, none⟩ = some (.int .i64 y.z) := by rw [hbel.cell (p := ⟨b, off + k * 5 + 3, none⟩) hlt]; exact c3
      have d4 : wr.cell? ⟨b, off + k * 5 + 4, none⟩ = some (.bool y.k) := by rw [hbel.cell (p := ⟨b, off + k * 5 + 4, none⟩) hlt]; exact c4
      clear hy c0 c1 c2 c3 c4
      obtain ⟨t, s, h, z, kk⟩ := y
      simp only at d0 d1 d2 d3 d4 hbd hg
      obtain ⟨q0, q1⟩ := hbd
      have hl : ((presL ss).take k).length = k := by rw [List.length_take, presL_len, HZ.out]; omega
      have hnx : (presL ss).take k ++ [t + h] = (presL ss).take (k + 1) := by rw [← hg]; exact take_snoc _ _ (by rw [presL_len, HZ.out]; exact hlt2)
      have HL := Lib.hid hl; have HNX := Lib.hid hnx
      have hsz := hbel.size
      have hws : w.heap.size < wr.heap.size := by
        have := hown.lt w.heap.size rfl
        omega
      have hrow : wr.cell? ⟨w.heap.size, k, none⟩ = some (.int .i64 0) := by
        rw [World.ownsRow.cellAt hown k (by omega)]
        have := filled_at ((presL ss).take k) n (by omega)
        rw [hl] at this
        exact this
      have hfz := World.ownsRow.frozenAt hown k
      have HST := Lib.hid (fun u => (World.ownsRow.stored hown k u).1)
      have hput : Hid ((wr.setCell ⟨w.heap.size, k, none⟩ (.int .i64 (t + h))).ownsRow w.heap.size 3 1 (.slice (some ⟨w.heap.size, 0, none⟩) n n) n (filled ((presL ss).take (k + 1)) n)) := Lib.hid (by
        rw [← HNX.out, ← filled_set _ _ _ (by omega), hl]; exact HST.out _)
      clear hg hl hnx HST
      go_wp2_with fail
      go_roundw
      case rel => exact ⟨k + 1, by omega, by go_num, hput.out.alloc _, (hbel.setCell (p := ⟨w.heap.size, k, none⟩) (Nat.le_refl _) _).alloc (by simp [World.setCell]; omega) _⟩
      case measure => simp [intOf]; omega
    · have hkn : k = n := by omega
      subst hkn
      have e : (presL ss).take k = presL ss := List.take_of_length_le (by rw [presL_len, HZ.out]; exact Nat.le_refl _)
      rw [e] at hown
      have el : (presL ss).length = k := by rw [presL_len, HZ.out]
      have HO := Lib.hid hown
      have HEL := Lib.hid el
      clear e el hown
      go_wp2
      go_ret
      refine ⟨⟨_, rfl, ?_⟩, hbel⟩
      have ho := HO.out
      have el := HEL.out
      have e3 : filled (presL ss) k = (presL ss).map (Value.int .i64) := by rw [← el, filled_all]
      rw [e3, ← el] at ho
      rw [← el]
      exact Nums.ofOwn ho

set_option maxRecDepth 100000 in
theorem pres_empty (a : Option Addr) (cap : Nat) (w : World) :
    Calls Try.prog 67 #[.slice a 0 cap] w fun e w' => (∃ u, e = .returned u ∧ Nums w' u []) ∧ Below w.heap.size w w' := by
  obtain ⟨i0, hi, hi0, hi1, hi2⟩ := info_parts Try.infoInt
  go_enter Try.func67, Try.ntmps67
  go_wp2_with (at_make; refine wpList_make_full _ rfl _ _ 34 rfl w.heap.size 3 i0 (.int .i64 0) 1 Try.underlying34 hi hi0 hi1 _ _ _ _ 0 rfl rfl rfl rfl ?c1 ?c2 ?c3 ?_)
  case c1 => rw [hi2]; omega
  case c2 => unfold maxLen; omega
  case c3 => exact Nat.le_refl _
  intro w1 hown hgrow
  have hbel : Below w.heap.size w w1 := (Below.refl _ _).grown hgrow (Nat.le_refl _) (by simp)
  clear hown hgrow
  go_wp2_with fail
  refine wp_loop_rounds 1 ?_
  rw [rounds_succ]
  go_wp2_with fail
  go_ret
  exact ⟨⟨_, rfl, .inl ⟨_, _, rfl, rfl⟩⟩, hbel⟩

theorem presOf_any (v : Value) (ss : List Smp) (w : World) (g : Good ss) (h : Smps w v ss) :
    Calls Try.prog 67 #[v] w fun e w' => (∃ u, e = .returned u ∧ Nums w' u (presL ss)) ∧ Below w.heap.size w w' := by
  have h' := h
  rcases h with ⟨a, cap, rfl, h0⟩ | ⟨b, off, cap, rfl, hne, hlt, hl, hm, hc⟩
  · have hs : ss = [] := List.length_eq_zero_iff.1 h0
    subst hs
    exact pres_empty a cap w
  · exact pres_walk b off _ cap ss w rfl hne g hlt h'

/-- What Presents returns. -/
def presR (ss : List Smp) : List Int := if chkF ss = 0 then presL ss else []
set_option maxHeartbeats 1000000 in
theorem presents_any (v : Value) (ss : List Smp) (w : World) (h : Smps w v ss) :
    Calls Try.prog 25 #[v] w fun e w' => (∃ u, e = .returned (.tuple #[u, .int .i64 (chkF ss)]) ∧ Nums w' u (presR ss)) ∧ Below w.heap.size w w' := by
  obtain ⟨x, hx⟩ : ∃ x, chkF ss = x := ⟨_, rfl⟩
  by_cases h0 : x = 0
  · have hr : presR ss = presL ss := by rw [presR, hx, if_pos h0]
    have g := (chkF_zero ss).1 (hx.trans h0)
    subst h0
    have HX := Lib.hid hx; have HR := Lib.hid hr
    rw [hx, hr]
    clear hx hr
    go_enter Try.func25, Try.ntmps25
    go_wp2_with fail
    refine (chk_any _ ss _ h).mono ?_; rintro e w1 ⟨rfl, b1⟩
    rw [HX.out]
    have h1 := h.below b1 (Nat.le_refl _)
    go_wp2_with fail
    refine (presOf_any _ ss _ g h1).mono ?_; rintro e w2 ⟨⟨u, rfl, n2⟩, b2⟩
    go_wp2_with fail
    go_ret2
    exact ⟨⟨_, rfl, n2⟩, b1.trans (b2.mono b1.size)⟩
  · have hr : presR ss = [] := by rw [presR, hx, if_neg h0]
    have HX := Lib.hid hx
    rw [hx, hr]
    have hb : (x == 0) = false := by simp [h0]
    clear hx hr
    go_enter Try.func25, Try.ntmps25
    go_wp2_with fail
    refine (chk_any _ ss _ h).mono ?_; rintro e w1 ⟨rfl, b1⟩
    rw [HX.out]
    go_wp2_with fail
    go_ret2
    exact ⟨⟨_, rfl, .nil _⟩, b1⟩

end Go.Proofs.Ytgpiagdldcnijab
