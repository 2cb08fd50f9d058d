/- The reference's CheckCrowd. -/
import Derived.Test.YtinckidkophobaaCrowd
import Derived.Test.YtinckidkophobaaChkSeg
namespace Go.Proofs.Ytinckidkophobaa
set_option linter.unusedVariables false
set_option linter.unusedSimpArgs false
open Go.RowKit Go.Shelf Go.Deep

set_option maxRecDepth 100000 in
set_option maxHeartbeats 4000000 in
theorem rcrowd_walk (b off n cap : Nat) (vs : List Vw) (w : World) (hz : vs.length = n) (hn0 : 0 < n) (hn : n ≤ 200) (hlt : b < w.heap.size) (hS : Vws w (.slice (some ⟨b, off, none⟩) n cap) vs) :
    Calls Try.prog 68 #[.slice (some ⟨b, off, none⟩) n cap] w fun e w' => e = .returned (.int .i64 (cwF vs)) ∧ Below w.heap.size w w' := by
  have HC := Lib.hid (fun j (hj : j < n) => hS.cells j (by omega))
  have HB : Hid (∀ j, j < n → ¬ vwOk (vs.getD j vw0) → cwF vs = 1) := Lib.hid (fun j hj h => cwF_bad (by omega) j (by omega) h)
  have HG : Hid ((∀ j, j < n → vwOk (vs.getD j vw0)) → cwF vs = 0) := Lib.hid (fun h => cwF_good (by omega) (by rw [hz]; exact h))
  obtain ⟨R, hR⟩ : ∃ R, cwF vs = R := ⟨_, rfl⟩
  rw [hR] at HB HG ⊢
  clear hz hS hR
  go_enter Try.func68, Try.ntmps68
  go_wp2_with fail
  go_loopw [10] (fun v wr => ∃ k : Nat, k ≤ n ∧ v = .int .i64 k ∧ Hid (∀ j, j < k → vwOk (vs.getD j vw0)) ∧ Below w.heap.size w wr) (fun v _ => n - (intOf v).toNat)
  case atStart => exact ⟨0, by omega, rfl, Lib.hid (fun j hj => by omega), Below.refl _ _⟩
  case round =>
    obtain ⟨k, hk, rfl, HK, hbel⟩ := hrel
    by_cases hlt2 : k < n
    rotate_left
    · have hkn : k = n := by omega
      have e1 : R = 0 := HG.out (fun j hj => HK.out j (by omega))
      subst e1
      have hlt' : decide (k < n) = false := by simp; omega
      clear hlt2 hkn
      go_wp2_with fail
      go_ret
      exact ⟨rfl, hbel⟩
    · obtain ⟨v, hv⟩ : ∃ v, vs.getD k vw0 = v := ⟨_, rfl⟩
      obtain ⟨c0, c1, c2⟩ := HC.out k hlt2
      rw [hv] at c0 c1 c2
      rw [← hbel.cell (p := ⟨b, off + k * 3, none⟩) hlt] at c0
      rw [← hbel.cell (p := ⟨b, off + k * 3 + 1, none⟩) hlt] at c1
      rw [← hbel.cell (p := ⟨b, off + k * 3 + 2, none⟩) hlt] at c2
      have HBK : Hid (¬ vwOk v → R = 1) := Lib.hid (fun h => HB.out k hlt2 (by rw [hv]; exact h))
      have HN : Hid (vwOk v → ∀ j, j < k + 1 → vwOk (vs.getD j vw0)) := Lib.hid (fun h j hj => by
        by_cases e : j = k
        · subst e; rw [hv]; exact h
        · exact HK.out j (by omega))
      have HIN := Lib.hid (vw_in v)
      have TV := Thr.new wr v 61
      have hbel := hbel.alloc (o := .cells #[.int .i64 v.ra, .int .i64 v.he, .int .i64 v.wt] 61) hbel.size
      obtain ⟨p, hp⟩ : ∃ p, inB v.ra 0 1000000000 = p := ⟨_, rfl⟩
      obtain ⟨q, hq⟩ : ∃ q, inB v.he 1 10000 = q := ⟨_, rfl⟩
      obtain ⟨t, ht⟩ : ∃ t, inB v.wt 1 1000000 = t := ⟨_, rfl⟩
      rw [hp, hq, ht] at HIN
      have HP := Lib.hid hp; have HQ := Lib.hid hq; have HT := Lib.hid ht
      clear hv hp hq ht
      go_upto_region 6 with fail
      generalize wr.alloc (.cells #[.int .i64 v.ra, .int .i64 v.he, .int .i64 v.wt] 61) = W at *
      have d0 := TV.c0; have d1 := TV.c1; have d2 := TV.c2
      clear c0 c1 c2
      cases p
      · have e1 : R = 1 := HBK.out (fun h => by have := (HIN.out.1 h).1; cases this)
        subst e1
        go_wp2_with fail
        refine (rwithin5_any _ _ _ _).mono ?_; rintro e w' ⟨rfl, rfl⟩
        rw [HP.out]
        go_wp2_with fail
        go_ret
        exact ⟨rfl, hbel⟩
      · cases q
        · have e1 : R = 1 := HBK.out (fun h => by have := (HIN.out.1 h).2.1; cases this)
          subst e1
          go_wp2_with fail
          refine (rwithin5_any _ _ _ _).mono ?_; rintro e w' ⟨rfl, rfl⟩
          rw [HP.out]
          go_wp2_with fail
          refine (rwithin5_any _ _ _ _).mono ?_; rintro e w' ⟨rfl, rfl⟩
          rw [HQ.out]
          go_wp2_with fail
          go_ret
          exact ⟨rfl, hbel⟩
        · cases t
          · have e1 : R = 1 := HBK.out (fun h => by have := (HIN.out.1 h).2.2; cases this)
            subst e1
            go_wp2_with fail
            refine (rwithin5_any _ _ _ _).mono ?_; rintro e w' ⟨rfl, rfl⟩
            rw [HP.out]
            go_wp2_with fail
            refine (rwithin5_any _ _ _ _).mono ?_; rintro e w' ⟨rfl, rfl⟩
            rw [HQ.out]
            go_wp2_with fail
            refine (rwithin5_any _ _ _ _).mono ?_; rintro e w' ⟨rfl, rfl⟩
            rw [HT.out]
            go_wp2_with fail
            go_ret
            exact ⟨rfl, hbel⟩
          · have HN2 := Lib.hid (HN.out (HIN.out.2 ⟨rfl, rfl, rfl⟩))
            go_wp2_with fail
            refine (rwithin5_any _ _ _ _).mono ?_; rintro e w' ⟨rfl, rfl⟩
            rw [HP.out]
            go_wp2_with fail
            refine (rwithin5_any _ _ _ _).mono ?_; rintro e w' ⟨rfl, rfl⟩
            rw [HQ.out]
            go_wp2_with fail
            refine (rwithin5_any _ _ _ _).mono ?_; rintro e w' ⟨rfl, rfl⟩
            rw [HT.out]
            go_wp2_with fail
            go_roundw
            case rel => exact ⟨k + 1, by omega, by go_num, HN2, hbel⟩
            case measure => simp [intOf]; omega
theorem rcrowd_none (a : Option Addr) (cap : Nat) (w : World) : Calls Try.prog 68 #[.slice a 0 cap] w fun e w' => e = .returned (.int .i64 0) ∧ w = w' := by
  go_enter Try.func68, Try.ntmps68
  go_wp2_with fail
  refine wp_loop_rounds 1 ?_
  rw [rounds_succ]
  go_wp2_with fail
  go_ret
  exact ⟨rfl, rfl⟩
theorem rcrowd_large (a : Option Addr) (n cap : Nat) (w : World) (h : 200 < n) : Calls Try.prog 68 #[.slice a n cap] w fun e w' => e = .returned (.int .i64 2) ∧ w = w' := by
  have z1 : decide ((200 : Int) < (n : Int)) = true := by simp; omega
  go_enter Try.func68, Try.ntmps68
  go_wp2_with fail
  go_ret
  exact ⟨rfl, rfl⟩
theorem rcrowd_any (v : Value) (vs : List Vw) (w : World) (h : Vws w v vs) :
    Calls Try.prog 68 #[v] w fun e w' => e = .returned (.int .i64 (cwF vs)) ∧ Below w.heap.size w w' := by
  by_cases h0 : vs.length = 0
  · have : vs = [] := List.length_eq_zero_iff.1 h0
    subst this
    obtain ⟨a, cap, rfl⟩ := h.parts
    refine (rcrowd_none a cap w).mono ?_
    rintro e w' ⟨rfl, rfl⟩
    exact ⟨rfl, Below.refl _ _⟩
  · by_cases h1 : 200 < vs.length
    · obtain ⟨a, cap, rfl⟩ := h.parts
      refine (rcrowd_large a vs.length cap w h1).mono ?_
      rintro e w' ⟨rfl, rfl⟩
      exact ⟨by rw [cwF_large h1], Below.refl _ _⟩
    · obtain ⟨b, off, cap, rfl, hlt, hl, hm⟩ := h.spot (by omega)
      exact rcrowd_walk b off vs.length cap vs w rfl (by omega) (by omega) hlt h

end Go.Proofs.Ytinckidkophobaa
