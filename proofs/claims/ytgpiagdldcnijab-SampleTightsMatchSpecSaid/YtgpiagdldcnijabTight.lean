/- Tight of package sample. -/
import Derived.Test.YtgpiagdldcnijabTimed
namespace Go.Proofs.Ytgpiagdldcnijab
set_option linter.unusedVariables false
set_option linter.unusedSimpArgs false
open Go.RowKit Go.Deep

theorem ret3_vii {u v : Value} {a b c d : Int} (hu : u = v) (h : a = b) (k : c = d) : Ending.returned (.tuple #[u, .int .i64 a, .int .i64 c]) = .returned (.tuple #[v, .int .i64 b, .int .i64 d]) := by rw [hu, h, k]
theorem minTo_step {ss : List Smp} {k : Nat} {m h : Int} (hm : minTo ss k = m) (hh : (ss.getD k smp0).h = h) : minTo ss (k + 1) = min m h := by rw [minTo, hm, hh]

set_option maxHeartbeats 1000000 in
theorem tightc_any (b off n cap k Bl Bb : Nat) (t y : Int) (w : World) (hk : k < n) (h1 : w.cell? ⟨Bl, 0, none⟩ = some (.slice (some ⟨b, off, none⟩) n cap)) (h2 : w.cell? ⟨Bb, 0, none⟩ = some (.int .i64 y)) (hc : w.cell? ⟨b, off + k * 5, none⟩ = some (.int .i64 t))
    (t0 : -2000000000000000 ≤ t) (t1 : t ≤ 2000000000000000) (y0 : -2000000000000000 ≤ y) (y1 : y ≤ 2000000000000000) :
    Calls Try.prog 92 #[.int .i64 k, .pointer (some ⟨Bl, 0, none⟩), .pointer (some ⟨Bb, 0, none⟩)] w fun e w' => e = .returned (.int .i64 (t + y)) ∧ ∃ q, w' = w.drewN q := by
  have i0 : (0 : Int) ≤ (k : Int) := Int.natCast_nonneg _
  have i1 : (k : Int) < (n : Int) := by omega
  go_enter Try.func92, Try.ntmps92
  go_wp2_with fail
  go_quiet (fail)
  go_wp2_with fail
  go_ret
  exact ⟨rfl, _, rfl⟩

set_option maxRecDepth 100000 in
set_option maxHeartbeats 4000000 in
theorem tight_walk (b off n cap : Nat) (ss : List Smp) (w : World) (hz : ss.length = n) (hn0 : 0 < n) (hlt : b < w.heap.size) (g : Good ss) (hS : Smps w (.slice (some ⟨b, off, none⟩) n cap) ss) :
    Calls Try.prog 39 #[.slice (some ⟨b, off, none⟩) n cap] w fun e w' => (∃ u, e = .returned (.tuple #[u, .int .i64 (tightN ss), .int .i64 (tightF ss)]) ∧ Smps w' u (tightR ss)) ∧ Below w.heap.size w w' := by
  have hchk := (chkF_zero ss).2 g
  have HK := Lib.hid hchk
  have hn := g.len
  rw [hz] at hn
  have HC : Hid (∀ j, j < n → w.cell? ⟨b, off + j * 5, none⟩ = some (.int .i64 (ss.getD j smp0).t) ∧ w.cell? ⟨b, off + j * 5 + 1, none⟩ = some (.int .i64 (ss.getD j smp0).s) ∧ w.cell? ⟨b, off + j * 5 + 2, none⟩ = some (.int .i64 (ss.getD j smp0).h) ∧ w.cell? ⟨b, off + j * 5 + 3, none⟩ = some (.int .i64 (ss.getD j smp0).z) ∧ w.cell? ⟨b, off + j * 5 + 4, none⟩ = some (.bool (ss.getD j smp0).k)) := Lib.hid (fun j hj => hS.cells j (by omega))
  have HZ := Lib.hid hz
  have HG := Lib.hid g
  have hb0 : Below w.heap.size w (w.alloc (.cells #[.slice (some ⟨b, off, none⟩) n cap] 33)) := (Below.refl _ _).alloc (Nat.le_refl _) _
  have HS := Lib.hid (hS.below hb0 (Nat.le_refl _))
  have HS0 := Lib.hid hS
  have hnz : ((n : Int) == 0) = false := by simp; omega
  clear hz g hS hchk
  go_enter Try.func39, Try.ntmps39
  go_wp2_with fail
  refine (chk_any _ ss _ HS.out).mono ?_; rintro e w1 ⟨rfl, b1⟩
  rw [HK.out]
  have s1 := b1.size
  simp only [World.size_alloc] at s1
  have e1 : w1.cell? ⟨w.heap.size, 0, none⟩ = some (.slice (some ⟨b, off, none⟩) n cap) := by
    rw [b1.cell (p := ⟨w.heap.size, 0, none⟩) (by simp), World.cell?_alloc_at _ _ _ _ (by simp)]; rfl
  have bel : Below w.heap.size w w1 := hb0.trans (b1.mono hb0.size)
  have HC1 : Hid (∀ j, j < n → w1.cell? ⟨b, off + j * 5, none⟩ = some (.int .i64 (ss.getD j smp0).t) ∧ w1.cell? ⟨b, off + j * 5 + 1, none⟩ = some (.int .i64 (ss.getD j smp0).s) ∧ w1.cell? ⟨b, off + j * 5 + 2, none⟩ = some (.int .i64 (ss.getD j smp0).h) ∧ w1.cell? ⟨b, off + j * 5 + 3, none⟩ = some (.int .i64 (ss.getD j smp0).z) ∧ w1.cell? ⟨b, off + j * 5 + 4, none⟩ = some (.bool (ss.getD j smp0).k)) := Lib.hid (fun j hj => by
    obtain ⟨c0, c1, c2, c3, c4⟩ := HC.out j hj
    rw [bel.cell (p := ⟨b, off + j * 5, none⟩) hlt, bel.cell (p := ⟨b, off + j * 5 + 1, none⟩) hlt, bel.cell (p := ⟨b, off + j * 5 + 2, none⟩) hlt, bel.cell (p := ⟨b, off + j * 5 + 3, none⟩) hlt, bel.cell (p := ⟨b, off + j * 5 + 4, none⟩) hlt]
    exact ⟨c0, c1, c2, c3, c4⟩)
  have hlt1 : b < w1.heap.size := by omega
  have z1 : w.heap.size < w1.heap.size := by omega
  obtain ⟨m0, hm0⟩ : ∃ m, (ss.getD 0 smp0).h = m := ⟨_, rfl⟩
  have c20 := (HC1.out 0 hn0).2.2.1
  rw [hm0, show off + 0 * 5 = off by omega] at c20
  have HM0 := Lib.hid hm0
  clear hm0 b1
  go_wp2_with fail
  go_loopw [25] (fun v wr => ∃ (k : Nat) (m : Int), k ≤ n ∧ v = .int .i64 k ∧ wr.heap[w1.heap.size]? = some (.cells #[.int .i64 m] 3 (0, 0)) ∧ Hid (minTo ss k = m) ∧ Below w1.heap.size w1 wr) (fun v _ => n - (intOf v).toNat)
  case atStart => exact ⟨0, m0, Nat.zero_le _, rfl, one_new _ _, Lib.hid HM0.out, (Below.refl _ _).alloc (Nat.le_refl _) _⟩
  case round =>
    obtain ⟨k, m, hk, rfl, hv, HM, hbel⟩ := hrel
    have hcell := cell_of_one hv
    have hfree := free_of_one hv
    have hsz := hbel.size
    have hvlt := lt_of_block hv
    by_cases hlt2 : k < n
    · obtain ⟨y, hy⟩ : ∃ y, ss.getD k smp0 = y := ⟨_, rfl⟩
      obtain ⟨c0, c1, c2, c3, c4⟩ := HC1.out k hlt2
      have hmn := minTo_step HM.out (congrArg Smp.h hy)
      rw [hy] at c0 c1 c2 c3 c4
      have d0 : wr.cell? ⟨b, off + k * 5, none⟩ = some (.int .i64 y.t) := by rw [hbel.cell (p := ⟨b, off + k * 5, none⟩) hlt1]; exact c0
      have d1 : wr.cell? ⟨b, off + k * 5 + 1, none⟩ = some (.int .i64 y.s) := by rw [hbel.cell (p := ⟨b, off + k * 5 + 1, none⟩) hlt1]; exact c1
      have d2 : wr.cell? ⟨b, off + k * 5 + 2, none⟩ = some (.int .i64 y.h) := by rw [hbel.cell (p := ⟨b, off + k * 5 + 2, none⟩) hlt1]; exact c2
      have d3 : wr.cell? ⟨b, off + k * 5 + 3, none⟩ = some (.int .i64 y.z) := by rw [hbel.cell (p := ⟨b, off + k * 5 + 3, none⟩) hlt1]; exact c3
      have d4 : wr.cell? ⟨b, off + k * 5 + 4, none⟩ = some (.bool y.k) := by rw [hbel.cell (p := ⟨b, off + k * 5 + 4, none⟩) hlt1]; exact c4
      clear hy c0 c1 c2 c3 c4
      obtain ⟨t, s, h, z, kk⟩ := y
      simp only at d0 d1 d2 d3 d4 hmn
      have HMN := Lib.hid hmn
      clear hmn
      go_wp2_with fail
      go_roundw
      case rel => exact ⟨k + 1, min m h, by omega, by go_num, one_alloc (one_setCell hv), Lib.hid HMN.out, (hbel.setCell (p := ⟨w1.heap.size, 0, none⟩) (Nat.le_refl _) _).alloc (by simp [World.setCell]; omega) _⟩
      case measure => simp [intOf]; omega
    · have hkn : k = n := by omega
      subst hkn
      have hm : minH ss = m := by unfold minH; rw [HZ.out]; exact HM.out
      obtain ⟨m1, m2⟩ := minTo_bd HG.out (by rw [HZ.out]; exact hn0) ss.length (Nat.le_refl _)
      change -1000000000 ≤ minH ss at m1
      change minH ss ≤ 1000000000 at m2
      rw [hm] at m1 m2
      have belr : Below w.heap.size w wr := bel.trans (hbel.mono (by omega))
      have hSr := HS0.out.below belr (Nat.le_refl _)
      have hlr : b < wr.heap.size := by omega
      have f1 : wr.cell? ⟨w.heap.size, 0, none⟩ = some (.slice (some ⟨b, off, none⟩) k cap) := by rw [hbel.cell (p := ⟨w.heap.size, 0, none⟩) z1]; exact e1
      have hT : ∀ i, i < k → -2000000000000000 ≤ (ss.getD i smp0).t + m ∧ (ss.getD i smp0).t + m ≤ 2000000000000000 := fun i hi => by
        have := (HG.out.ok i (by rw [HZ.out]; exact hi)).1
        omega
      have HR := Lib.hid (retimed_walk b off k cap ss 92 #[.pointer (some ⟨w.heap.size, 0, none⟩), .pointer (some ⟨w1.heap.size, 0, none⟩)] (fun i => (ss.getD i smp0).t + m) wr (enters_of Try.func92 (by kernel_rfl) rfl) HZ.out hn0 HG.out hlr hSr hT (fun j wj hj hb => by
        have c0 := (HC1.out j hj).1
        have o := (HG.out.ok j (by rw [HZ.out]; exact hj)).1
        refine (tightc_any b off k cap j w.heap.size w1.heap.size (ss.getD j smp0).t m wj hj ?_ ?_ ?_ (by omega) (by omega) (by omega) (by omega)).mono ?_
        · rw [hb.cell (p := ⟨w.heap.size, 0, none⟩) (by show w.heap.size < _; omega)]; exact f1
        · rw [hb.cell (p := ⟨w1.heap.size, 0, none⟩) hvlt]; exact hcell
        · rw [hb.cell (p := ⟨b, off + j * 5, none⟩) hlr, hbel.cell (p := ⟨b, off + j * 5, none⟩) hlt1]; exact c0
        · rintro e w' ⟨rfl, q, rfl⟩
          exact ⟨rfl, below_drewN (Below.refl _ _) _⟩))
      have hTL : retL ss (fun i => (ss.getD i smp0).t + m) = tightL ss := by rw [← hm]; rfl
      rw [hTL] at HR
      have hlen : (tightL ss).length = k := by rw [tightL, retL_len, HZ.out]
      have HLEN := Lib.hid hlen
      obtain ⟨f, hf⟩ : ∃ f, chkF (tightL ss) = f := ⟨_, rfl⟩
      have hF : tightF ss = f := by rw [tightF_good HK.out, hf]
      have HFF := Lib.hid hF
      have HF := Lib.hid hf
      have HMM := Lib.hid hm
      clear hT hTL hlen hf hF hSr hm
      go_wp2_with fail
      refine HR.out.mono ?_; rintro e w4 ⟨⟨u, rfl, o4⟩, b4⟩
      have o4' := Lib.hid o4
      clear o4
      go_wp2_with fail
      refine (checked_any _ (tightL ss) _ (Smps.ofOwn (by rw [HLEN.out]; exact o4'.out))).mono ?_; rintro e w5 ⟨⟨u5, rfl, n5⟩, b5⟩
      rw [HF.out] at n5 ⊢
      have bel5 : Below w.heap.size w w5 := belr.trans ((b4.trans (b5.mono b4.size)).mono (by omega))
      have g5 : w5.cell? ⟨w1.heap.size, 0, none⟩ = some (.int .i64 m) := by
        have := b4.size
        rw [b5.cell (p := ⟨w1.heap.size, 0, none⟩) (by show w1.heap.size < _; omega), b4.cell (p := ⟨w1.heap.size, 0, none⟩) hvlt]; exact hcell
      by_cases h0 : f = 0
      · subst h0
        rw [if_pos rfl] at n5
        have N5 := Lib.hid n5
        clear n5
        go_wp2_with fail
        go_quiet (fail)
        go_wp2_with fail
        go_ret3
        refine ⟨⟨_, ret3_vii rfl (by rw [tightN, if_pos HFF.out, HMM.out]) HFF.out.symm, ?_⟩, below_drewN bel5 _⟩
        rw [tightR, if_pos HFF.out]
        exact N5.out
      · rw [if_neg h0] at n5
        have hb : (f == 0) = false := by simp [h0]
        have HN := Lib.hid (show tightN ss = 0 ∧ tightR ss = [] from ⟨by rw [tightN, HFF.out, if_neg h0], by rw [tightR, HFF.out, if_neg h0]⟩)
        clear n5 h0
        go_wp2_with fail
        go_ret3
        refine ⟨⟨_, ret3_vii rfl HN.out.1.symm HFF.out.symm, ?_⟩, bel5⟩
        rw [HN.out.2]
        exact .nil _

set_option maxHeartbeats 1000000 in
theorem tight_bad (v : Value) (ss : List Smp) (w : World) (h : Smps w v ss) (hf : chkF ss ≠ 0) :
    Calls Try.prog 39 #[v] w fun e w' => (∃ u, e = .returned (.tuple #[u, .int .i64 (tightN ss), .int .i64 (tightF ss)]) ∧ Smps w' u (tightR ss)) ∧ Below w.heap.size w w' := by
  obtain ⟨h1, h2, h3⟩ := tightF_bad hf
  rw [h1, h2, h3]
  obtain ⟨x, hx⟩ : ∃ x, chkF ss = x := ⟨_, rfl⟩
  rw [hx] at hf ⊢
  have HX := Lib.hid hx
  have hb : (x == 0) = false := by simp [hf]
  obtain ⟨a, cap, rfl⟩ := h.parts
  have hb0 : Below w.heap.size w (w.alloc (.cells #[.slice a ss.length cap] 33)) := (Below.refl _ _).alloc (Nat.le_refl _) _
  have HS := Lib.hid (h.below hb0 (Nat.le_refl _))
  obtain ⟨n, hn⟩ : ∃ n, ss.length = n := ⟨_, rfl⟩
  rw [hn] at HS hb0 ⊢
  clear hx h h1 h2 h3 hf hn
  go_enter Try.func39, Try.ntmps39
  go_wp2_with fail
  refine (chk_any _ ss _ HS.out).mono ?_; rintro e w1 ⟨rfl, b1⟩
  rw [HX.out]
  go_wp2_with fail
  go_ret3
  exact ⟨⟨_, rfl, .nil _⟩, hb0.trans (b1.mono hb0.size)⟩

set_option maxHeartbeats 1000000 in
theorem tight_empty (a : Option Addr) (cap : Nat) (w : World) :
    Calls Try.prog 39 #[.slice a 0 cap] w fun e w' => (∃ u, e = .returned (.tuple #[u, .int .i64 0, .int .i64 0]) ∧ Smps w' u []) ∧ Below w.heap.size w w' := by
  have hb0 : Below w.heap.size w (w.alloc (.cells #[.slice a 0 cap] 33)) := (Below.refl _ _).alloc (Nat.le_refl _) _
  have HS : Smps (w.alloc (.cells #[.slice a 0 cap] 33)) (.slice a 0 cap) [] := .inl ⟨_, _, rfl, rfl⟩
  have hc : chkF [] = 0 := (chkF_zero []).2 Good.nil
  go_enter Try.func39, Try.ntmps39
  go_wp2_with fail
  refine (chk_any _ [] _ HS).mono ?_; rintro e w1 ⟨rfl, b1⟩
  rw [hc]
  have e1 : w1.cell? ⟨w.heap.size, 0, none⟩ = some (.slice a 0 cap) := by
    rw [b1.cell (p := ⟨w.heap.size, 0, none⟩) (by simp), World.cell?_alloc_at _ _ _ _ (by simp)]; rfl
  have bel := hb0.trans (b1.mono hb0.size)
  clear b1 HS
  go_wp2_with fail
  go_ret3
  exact ⟨⟨_, rfl, .nil _⟩, bel⟩

/-- Tight, whatever the samples. -/
theorem tight_any (v : Value) (ss : List Smp) (w : World) (h : Smps w v ss) :
    Calls Try.prog 39 #[v] w fun e w' => (∃ u, e = .returned (.tuple #[u, .int .i64 (tightN ss), .int .i64 (tightF ss)]) ∧ Smps w' u (tightR ss)) ∧ Below w.heap.size w w' := by
  by_cases hf : chkF ss = 0
  · have h' := h
    rcases h with ⟨a, cap, rfl, h0⟩ | ⟨b, off, cap, rfl, hne, hlt, hl, hm, hc⟩
    · have hs : ss = [] := List.length_eq_zero_iff.1 h0
      subst hs
      obtain ⟨h1, h2, h3⟩ := tight_nil
      rw [h1, h2, h3]
      exact tight_empty a cap w
    · exact tight_walk b off _ cap ss w rfl hne hlt ((chkF_zero ss).1 hf) h'
  · exact tight_bad v ss w h hf

end Go.Proofs.Ytgpiagdldcnijab
