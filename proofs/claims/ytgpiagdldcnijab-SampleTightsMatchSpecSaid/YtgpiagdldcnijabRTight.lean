/- Tight of the reference of package sample. -/
import Derived.Test.YtgpiagdldcnijabRMoved
import Derived.Test.YtgpiagdldcnijabTight
namespace Go.Proofs.Ytgpiagdldcnijab
set_option linter.unusedVariables false
set_option linter.unusedSimpArgs false
open Go.RowKit Go.Deep

/-- Moved samples of which the first k have their Shifts less too. -/
def shTo (ss : List Smp) (m : Int) (k : Nat) : List Smp := mkS ss.length fun i => if i < k then retS (ss.getD i smp0) ((ss.getD i smp0).t + m) else movS (ss.getD i smp0) m
theorem shTo_len (ss : List Smp) (m : Int) (k : Nat) : (shTo ss m k).length = ss.length := mkS_len _ _
theorem shTo_zero (ss : List Smp) (m : Int) : shTo ss m 0 = movL ss m := smps_ext (by rw [shTo_len, movL_len]) fun i hi => by
  rw [shTo_len] at hi
  rw [shTo, mkS_get _ _ _ hi, movL_get _ _ _ hi]; simp
theorem shTo_all (ss : List Smp) (m : Int) (h : minH ss = m) : shTo ss m ss.length = tightL ss := by
  subst h
  exact mkS_congr fun i hi => by simp [hi]
theorem shTo_at (ss : List Smp) (m : Int) (k : Nat) (h : k < ss.length) : (shTo ss m k).getD k smp0 = movS (ss.getD k smp0) m := by rw [shTo, mkS_get _ _ _ h]; simp
theorem shTo_put (ss : List Smp) (m : Int) (k : Nat) (h : k < ss.length) (x : Int) (hx : (ss.getD k smp0).h - m = x) :
    (scells (shTo ss m k)).set (k * 5 + 2) (.int .i64 x) = scells (shTo ss m (k + 1)) := by
  have hl : k < (shTo ss m k).length := by rw [shTo_len]; exact h
  rw [scells_set_h _ _ _ hl, shTo_at _ _ _ h]
  congr 1
  unfold shTo
  rw [mkS_set]
  refine mkS_congr fun i hi => ?_
  by_cases e : i = k
  · subst e
    rw [if_pos rfl, if_pos (by omega)]
    subst hx
    simp only [retS, movS, Smp.mk.injEq, and_true, true_and]
    omega
  · have : (i < k + 1) = (i < k) := by simp; omega
    simp [e, this]

set_option maxRecDepth 100000 in
set_option maxHeartbeats 4000000 in
theorem rtight_walk (b off n cap : Nat) (ss : List Smp) (w : World) (hz : ss.length = n) (hn0 : 0 < n) (hlt : b < w.heap.size) (g : Good ss) (hS : Smps w (.slice (some ⟨b, off, none⟩) n cap) ss) :
    Calls Try.prog 40 #[.slice (some ⟨b, off, none⟩) n cap] w fun e w' => (∃ u, e = .returned (.tuple #[u, .int .i64 (tightN ss), .int .i64 (tightF ss)]) ∧ Smps w' u (tightR ss)) ∧ Below w.heap.size w w' := by
  have hchk := (chkF_zero ss).2 g
  have HK := Lib.hid hchk
  have hn := g.len
  rw [hz] at hn
  have HZ := Lib.hid hz
  have HG := Lib.hid g
  have HS := Lib.hid hS
  have hnz : ((n : Int) == 0) = false := by simp; omega
  clear hz g hS hchk
  go_enter Try.func40, Try.ntmps40
  go_wp2_with fail
  refine (rchk_any _ ss _ HS.out).mono ?_; rintro e w1 ⟨rfl, b1⟩
  rw [HK.out]
  have hS1 := HS.out.below b1 (Nat.le_refl _)
  have HC1 : Hid (∀ j, j < n → w1.cell? ⟨b, off + j * 5 + 2, none⟩ = some (.int .i64 (ss.getD j smp0).h)) := Lib.hid (fun j hj => (hS1.cells j (by rw [HZ.out]; exact hj)).2.2.1)
  have HS1 := Lib.hid hS1
  have hlt1 : b < w1.heap.size := by have := b1.size; omega
  obtain ⟨m0, hm0⟩ : ∃ m, (ss.getD 0 smp0).h = m := ⟨_, rfl⟩
  have c20 := HC1.out 0 hn0
  rw [hm0, show off + 0 * 5 = off by omega] at c20
  have HM0 := Lib.hid hm0
  have hi0 : (0 : Int) < (n : Int) := by omega
  clear hm0 hS1
  go_wp2_with fail
  go_loopw [6, 7] (fun u v wr => ∃ (k : Nat) (m : Int), k ≤ n ∧ u = .int .i64 m ∧ v = .int .i64 k ∧ w1 = wr ∧ Hid (minTo ss k = m)) (fun _ v _ => n - (intOf v).toNat)
  case atStart => exact ⟨0, m0, Nat.zero_le _, rfl, rfl, rfl, Lib.hid HM0.out⟩
  case round =>
    obtain ⟨k, m, hk, rfl, rfl, rfl, HM⟩ := hrel
    by_cases hlt2 : k < n
    · obtain ⟨h, hh⟩ : ∃ h, (ss.getD k smp0).h = h := ⟨_, rfl⟩
      have c2 := HC1.out k hlt2
      have hmn := minTo_step HM.out hh
      rw [hh] at c2
      have HMN := Lib.hid hmn
      clear hmn hh
      go_wp2_with fail
      go_roundw
      case rel => exact ⟨k + 1, min m h, by omega, rfl, by go_num, trivial, Lib.hid HMN.out⟩
      case measure => simp [intOf]; omega
    · have hkn : k = n := by omega
      subst hkn
      have hm : minH ss = m := by unfold minH; rw [HZ.out]; exact HM.out
      obtain ⟨m1, m2⟩ := minTo_bd HG.out (by rw [HZ.out]; exact hn0) ss.length (Nat.le_refl _)
      change -1000000000 ≤ minH ss at m1
      change minH ss ≤ 1000000000 at m2
      rw [hm] at m1 m2
      have HMM := Lib.hid hm
      clear hm
      go_wp2_with fail
      refine (rmoved_walk b off k cap ss m w1 HZ.out hn0 hlt1 HG.out HS1.out (by omega) (by omega)).mono ?_
      rintro e w2 ⟨⟨u, rfl, o2⟩, b2⟩
      have hu : ∃ gg cp, u = .slice (some ⟨gg, 0, none⟩) k cp := by
        rcases o2.2 with ⟨_, h0⟩ | ⟨gg, cp, cur, rfl, _⟩
        · omega
        · exact ⟨gg, cp, rfl⟩
      obtain ⟨gb, cp, rfl⟩ := hu
      rw [← shTo_zero] at o2
      go_wp2_with fail
      go_loopw [9] (fun v wr => ∃ j : Nat, j ≤ k ∧ v = .int .i64 j ∧ wr.ownsRow w1.heap.size 50 5 (.slice (some ⟨gb, 0, none⟩) k cp) k (scells (shTo ss m j)) ∧ Below w1.heap.size w1 wr) (fun v _ => k - (intOf v).toNat)
      case atStart => exact ⟨0, Nat.zero_le _, rfl, o2, b2⟩
      case round =>
        clear o2 b2
        obtain ⟨j, hj, rfl, hown, hbel⟩ := hrel
        by_cases hlt3 : j < k
        · obtain ⟨h, hh⟩ : ∃ h, (ss.getD j smp0).h = h := ⟨_, rfl⟩
          have ok := (HG.out.ok j (by rw [HZ.out]; exact hlt3)).2.2.1
          have hput := shTo_put ss m j (by rw [HZ.out]; exact hlt3) (h - m) (by rw [hh])
          have q2 := (scells_at (shTo ss m j) j (by rw [shTo_len, HZ.out]; exact hlt3)).2.2.1
          rw [shTo_at _ _ _ (by rw [HZ.out]; exact hlt3)] at q2
          change _ = some (Value.int .i64 (ss.getD j smp0).h) at q2
          rw [hh] at ok q2
          have hl5 : (scells (shTo ss m j)).length = k * 5 := by rw [scells_len, shTo_len, HZ.out]
          have r2 : wr.cell? ⟨gb, j * 5 + 2, none⟩ = some (.int .i64 h) := by rw [World.ownsRow.cellAt hown (j * 5 + 2) (by omega)]; exact q2
          have z2 := World.ownsRow.frozenAt hown (j * 5 + 2)
          have hst := (World.ownsRow.stored hown (j * 5 + 2) (.int .i64 (h - m))).1
          rw [hput] at hst
          have HST := Lib.hid hst
          have hgb : w1.heap.size ≤ gb := (hown.lt gb rfl).1
          clear hst hown q2 hput hl5 hh
          go_wp2_with fail
          go_roundw
          case rel => exact ⟨j + 1, by omega, by go_num, HST.out, hbel.setCell (p := ⟨gb, j * 5 + 2, none⟩) hgb _⟩
          case measure => simp [intOf]; omega
        · have hjk : j = k := by omega
          subst hjk
          have e : shTo ss m j = tightL ss := by rw [← HZ.out]; exact shTo_all ss m HMM.out
          rw [e] at hown
          have hlen : (tightL ss).length = j := by rw [tightL, retL_len, HZ.out]
          have O4 : Hid (Smps wr (.slice (some ⟨gb, 0, none⟩) j cp) (tightL ss)) := Lib.hid (Smps.ofOwn (by rw [hlen]; exact hown))
          obtain ⟨f, hf⟩ : ∃ f, chkF (tightL ss) = f := ⟨_, rfl⟩
          have hF : tightF ss = f := by rw [tightF_good HK.out, hf]
          have HFF := Lib.hid hF
          have HF := Lib.hid hf
          have belr : Below w.heap.size w wr := b1.trans (hbel.mono b1.size)
          clear hown hlen e hf hF
          go_wp2_with fail
          refine (rchk_any _ (tightL ss) _ O4.out).mono ?_; rintro e w5 ⟨rfl, b5⟩
          rw [HF.out]
          have bel5 : Below w.heap.size w w5 := belr.trans (b5.mono belr.size)
          have N5 := Lib.hid (O4.out.below b5 (Nat.le_refl _))
          by_cases h0 : f = 0
          · subst h0
            go_wp2_with fail
            go_ret3
            refine ⟨⟨_, ret3_vii rfl (by rw [tightN, if_pos HFF.out, HMM.out]) HFF.out.symm, ?_⟩, bel5⟩
            rw [tightR, if_pos HFF.out]
            exact N5.out
          · have hb : (f == 0) = false := by simp [h0]
            have HN := Lib.hid (show tightN ss = 0 ∧ tightR ss = [] from ⟨by rw [tightN, HFF.out, if_neg h0], by rw [tightR, HFF.out, if_neg h0]⟩)
            clear h0
            go_wp2_with fail
            go_ret3
            refine ⟨⟨_, ret3_vii rfl HN.out.1.symm HFF.out.symm, ?_⟩, bel5⟩
            rw [HN.out.2]
            exact .nil _

set_option maxHeartbeats 1000000 in
theorem rtight_bad (v : Value) (ss : List Smp) (w : World) (h : Smps w v ss) (hf : chkF ss ≠ 0) :
    Calls Try.prog 40 #[v] w fun e w' => (∃ u, e = .returned (.tuple #[u, .int .i64 (tightN ss), .int .i64 (tightF ss)]) ∧ Smps w' u (tightR ss)) ∧ Below w.heap.size w w' := by
  obtain ⟨h1, h2, h3⟩ := tightF_bad hf
  rw [h1, h2, h3]
  obtain ⟨x, hx⟩ : ∃ x, chkF ss = x := ⟨_, rfl⟩
  rw [hx] at hf ⊢
  have HX := Lib.hid hx
  have hb : (x == 0) = false := by simp [hf]
  have HS := Lib.hid h
  clear hx h h1 h2 h3 hf
  go_enter Try.func40, Try.ntmps40
  go_wp2_with fail
  refine (rchk_any _ ss _ HS.out).mono ?_; rintro e w1 ⟨rfl, b1⟩
  rw [HX.out]
  go_wp2_with fail
  go_ret3
  exact ⟨⟨_, rfl, .nil _⟩, b1⟩

set_option maxHeartbeats 1000000 in
theorem rtight_empty (a : Option Addr) (cap : Nat) (w : World) :
    Calls Try.prog 40 #[.slice a 0 cap] w fun e w' => (∃ u, e = .returned (.tuple #[u, .int .i64 0, .int .i64 0]) ∧ Smps w' u []) ∧ Below w.heap.size w w' := by
  have HS : Smps w (.slice a 0 cap) [] := .inl ⟨_, _, rfl, rfl⟩
  have hc : chkF [] = 0 := (chkF_zero []).2 Good.nil
  go_enter Try.func40, Try.ntmps40
  go_wp2_with fail
  refine (rchk_any _ [] _ HS).mono ?_; rintro e w1 ⟨rfl, b1⟩
  rw [hc]
  clear HS
  go_wp2_with fail
  go_ret3
  exact ⟨⟨_, rfl, .nil _⟩, b1⟩

/-- The reference's Tight, whatever the samples. -/
theorem rtight_any (v : Value) (ss : List Smp) (w : World) (h : Smps w v ss) :
    Calls Try.prog 40 #[v] w fun e w' => (∃ u, e = .returned (.tuple #[u, .int .i64 (tightN ss), .int .i64 (tightF ss)]) ∧ Smps w' u (tightR ss)) ∧ Below w.heap.size w w' := by
  by_cases hf : chkF ss = 0
  · have h' := h
    rcases h with ⟨a, cap, rfl, h0⟩ | ⟨b, off, cap, rfl, hne, hlt, hl, hm, hc⟩
    · have hs : ss = [] := List.length_eq_zero_iff.1 h0
      subst hs
      obtain ⟨h1, h2, h3⟩ := tight_nil
      rw [h1, h2, h3]
      exact rtight_empty a cap w
    · exact rtight_walk b off _ cap ss w rfl hne hlt ((chkF_zero ss).1 hf) h'
  · exact rtight_bad v ss w h hf

end Go.Proofs.Ytgpiagdldcnijab
