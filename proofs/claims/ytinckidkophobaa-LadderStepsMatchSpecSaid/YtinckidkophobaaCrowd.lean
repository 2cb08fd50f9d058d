/- CheckCrowd, canTake, takenBy (program). -/
import Derived.Test.YtinckidkophobaaChkR
import Derived.Test.YtinckidkophobaaViews
namespace Go.Proofs.Ytinckidkophobaa
set_option linter.unusedVariables false
set_option linter.unusedSimpArgs false
open Go.RowKit Go.Shelf Go.Deep

/-- Block X holds a viewer. -/
structure Thr (W : World) (X : Nat) (v : Vw) : Prop where
  lt : X < W.heap.size
  c0 : W.cell? ⟨X, 0, none⟩ = some (.int .i64 v.ra)
  c1 : W.cell? ⟨X, 1, none⟩ = some (.int .i64 v.he)
  c2 : W.cell? ⟨X, 2, none⟩ = some (.int .i64 v.wt)
theorem Thr.below {W W' : World} {X B : Nat} {v : Vw} (h : Thr W X v) (hb : Below B W W') (hX : X < B) : Thr W' X v :=
  ⟨Nat.lt_of_lt_of_le h.lt hb.size, by rw [hb.cell (p := ⟨X, 0, none⟩) hX]; exact h.c0, by rw [hb.cell (p := ⟨X, 1, none⟩) hX]; exact h.c1, by rw [hb.cell (p := ⟨X, 2, none⟩) hX]; exact h.c2⟩
theorem Thr.drew {W : World} {X : Nat} {v : Vw} (h : Thr W X v) : Thr W.drew X v := ⟨h.lt, h.c0, h.c1, h.c2⟩
theorem Thr.drewN {W : World} {X : Nat} {v : Vw} (h : Thr W X v) (q : Nat) : Thr (W.drewN q) X v := ⟨h.lt, h.c0, h.c1, h.c2⟩
theorem Thr.new (W : World) (v : Vw) (T : TypeId) : Thr (W.alloc (.cells #[.int .i64 v.ra, .int .i64 v.he, .int .i64 v.wt] T)) W.heap.size v := by
  refine ⟨by simp, ?_, ?_, ?_⟩
  all_goals (rw [World.cell?_alloc_at _ _ _ _ rfl]; rfl)
theorem Thr.alloc {W : World} {X : Nat} {v : Vw} (h : Thr W X v) (o : Obj) : Thr (W.alloc o) X v :=
  h.below ((Below.refl W.heap.size W).alloc (Nat.le_refl _) o) h.lt
theorem rate0_any (n : Int) (w : World) :
    Calls Try.prog 29 #[.int .i64 n] w fun e w' => e = .returned (.bool (inB n 0 1000000000)) ∧ w = w' := by
  obtain ⟨x, hx⟩ : ∃ x, inB n 0 1000000000 = x := ⟨_, rfl⟩
  have HX := Lib.hid hx
  clear hx
  go_enter Try.func29, Try.ntmps29
  go_wp2_with fail
  refine (bwithin_any _ _ _ _).mono ?_; rintro e w' ⟨rfl, rfl⟩
  rw [HX.out]
  go_wp2_with fail
  go_ret
  exact ⟨bret_bool HX.out.symm, rfl⟩
theorem weight_any (n : Int) (w : World) :
    Calls Try.prog 70 #[.int .i64 n] w fun e w' => e = .returned (.bool (inB n 1 1000000)) ∧ w = w' := by
  obtain ⟨x, hx⟩ : ∃ x, inB n 1 1000000 = x := ⟨_, rfl⟩
  have HX := Lib.hid hx
  clear hx
  go_enter Try.func70, Try.ntmps70
  go_wp2_with fail
  refine (bwithin_any _ _ _ _).mono ?_; rintro e w' ⟨rfl, rfl⟩
  rw [HX.out]
  go_wp2_with fail
  go_ret
  exact ⟨bret_bool HX.out.symm, rfl⟩
theorem vw_in (v : Vw) : vwOk v ↔ inB v.ra 0 1000000000 = true ∧ inB v.he 1 10000 = true ∧ inB v.wt 1 1000000 = true := by
  rw [inB_iff, inB_iff, inB_iff]; exact Iff.rfl
set_option maxRecDepth 100000 in
set_option maxHeartbeats 4000000 in
theorem crowd_walk (b off n cap : Nat) (vs : List Vw) (w : World) (hz : vs.length = n) (hn0 : 0 < n) (hn : n ≤ 200) (hlt : b < w.heap.size) (hS : Vws w (.slice (some ⟨b, off, none⟩) n cap) vs) :
    Calls Try.prog 49 #[.slice (some ⟨b, off, none⟩) n cap] w fun e w' => e = .returned (.int .i64 (cwF vs)) ∧ Below w.heap.size w w' := by
  have HC := Lib.hid (fun j (hj : j < n) => hS.cells j (by omega))
  have HB : Hid (∀ j, j < n → ¬ vwOk (vs.getD j vw0) → cwF vs = 1) := Lib.hid (fun j hj h => cwF_bad (by omega) j (by omega) h)
  have HG : Hid ((∀ j, j < n → vwOk (vs.getD j vw0)) → cwF vs = 0) := Lib.hid (fun h => cwF_good (by omega) (by rw [hz]; exact h))
  obtain ⟨R, hR⟩ : ∃ R, cwF vs = R := ⟨_, rfl⟩
  rw [hR] at HB HG ⊢
  clear hz hS hR
  go_enter Try.func49, Try.ntmps49
  go_wp2_with fail
  go_loopw [10] (fun v wr => ∃ k : Nat, k ≤ n ∧ v = .int .i64 k ∧ Hid (∀ j, j < k → vwOk (vs.getD j vw0)) ∧ Below w.heap.size w wr) (fun v _ => n - (intOf v).toNat)
  case atStart => exact ⟨0, by omega, rfl, Lib.hid (fun j hj => by omega), Below.refl _ _⟩
  case round =>
    obtain ⟨k, hk, rfl, HK, hbel⟩ := hrel
    by_cases hlt2 : k < n
    rotate_left
    · have hkn : k = n := by omega
      have e1 : R = 0 := HG.out (fun j hj => HK.out j (by omega))
      subst e1
      have hlt' : decide (k < n) = false := by simp; omega
      clear hlt2 hkn
      go_wp2_with fail
      go_ret
      exact ⟨rfl, hbel⟩
    · obtain ⟨v, hv⟩ : ∃ v, vs.getD k vw0 = v := ⟨_, rfl⟩
      obtain ⟨c0, c1, c2⟩ := HC.out k hlt2
      rw [hv] at c0 c1 c2
      rw [← hbel.cell (p := ⟨b, off + k * 3, none⟩) hlt] at c0
      rw [← hbel.cell (p := ⟨b, off + k * 3 + 1, none⟩) hlt] at c1
      rw [← hbel.cell (p := ⟨b, off + k * 3 + 2, none⟩) hlt] at c2
      have HBK : Hid (¬ vwOk v → R = 1) := Lib.hid (fun h => HB.out k hlt2 (by rw [hv]; exact h))
      have HN : Hid (vwOk v → ∀ j, j < k + 1 → vwOk (vs.getD j vw0)) := Lib.hid (fun h j hj => by
        by_cases e : j = k
        · subst e; rw [hv]; exact h
        · exact HK.out j (by omega))
      have HIN := Lib.hid (vw_in v)
      have TV := Thr.new wr v 61
      have hbel := hbel.alloc (o := .cells #[.int .i64 v.ra, .int .i64 v.he, .int .i64 v.wt] 61) hbel.size
      obtain ⟨p, hp⟩ : ∃ p, inB v.ra 0 1000000000 = p := ⟨_, rfl⟩
      obtain ⟨q, hq⟩ : ∃ q, inB v.he 1 10000 = q := ⟨_, rfl⟩
      obtain ⟨t, ht⟩ : ∃ t, inB v.wt 1 1000000 = t := ⟨_, rfl⟩
      rw [hp, hq, ht] at HIN
      have HP := Lib.hid hp; have HQ := Lib.hid hq; have HT := Lib.hid ht
      clear hv hp hq ht
      go_upto_region 6 with fail
      generalize wr.alloc (.cells #[.int .i64 v.ra, .int .i64 v.he, .int .i64 v.wt] 61) = W at *
      have d0 := TV.c0; have d1 := TV.c1; have d2 := TV.c2
      clear c0 c1 c2
      cases p
      · have e1 : R = 1 := HBK.out (fun h => by have := (HIN.out.1 h).1; cases this)
        subst e1
        go_wp2_with fail
        refine (rate0_any _ _).mono ?_; rintro e w' ⟨rfl, rfl⟩
        rw [HP.out]
        go_wp2_with fail
        go_ret
        exact ⟨rfl, hbel⟩
      · cases q
        · have e1 : R = 1 := HBK.out (fun h => by have := (HIN.out.1 h).2.1; cases this)
          subst e1
          go_wp2_with fail
          refine (rate0_any _ _).mono ?_; rintro e w' ⟨rfl, rfl⟩
          rw [HP.out]
          go_wp2_with fail
          refine (height_any _ _).mono ?_; rintro e w' ⟨rfl, rfl⟩
          rw [HQ.out]
          go_wp2_with fail
          go_ret
          exact ⟨rfl, hbel⟩
        · cases t
          · have e1 : R = 1 := HBK.out (fun h => by have := (HIN.out.1 h).2.2; cases this)
            subst e1
            go_wp2_with fail
            refine (rate0_any _ _).mono ?_; rintro e w' ⟨rfl, rfl⟩
            rw [HP.out]
            go_wp2_with fail
            refine (height_any _ _).mono ?_; rintro e w' ⟨rfl, rfl⟩
            rw [HQ.out]
            go_wp2_with fail
            refine (weight_any _ _).mono ?_; rintro e w' ⟨rfl, rfl⟩
            rw [HT.out]
            go_wp2_with fail
            go_ret
            exact ⟨rfl, hbel⟩
          · have HN2 := Lib.hid (HN.out (HIN.out.2 ⟨rfl, rfl, rfl⟩))
            go_wp2_with fail
            refine (rate0_any _ _).mono ?_; rintro e w' ⟨rfl, rfl⟩
            rw [HP.out]
            go_wp2_with fail
            refine (height_any _ _).mono ?_; rintro e w' ⟨rfl, rfl⟩
            rw [HQ.out]
            go_wp2_with fail
            refine (weight_any _ _).mono ?_; rintro e w' ⟨rfl, rfl⟩
            rw [HT.out]
            go_wp2_with fail
            go_roundw
            case rel => exact ⟨k + 1, by omega, by go_num, HN2, hbel⟩
            case measure => simp [intOf]; omega
theorem crowd_none (a : Option Addr) (cap : Nat) (w : World) : Calls Try.prog 49 #[.slice a 0 cap] w fun e w' => e = .returned (.int .i64 0) ∧ w = w' := by
  go_enter Try.func49, Try.ntmps49
  go_wp2_with fail
  refine wp_loop_rounds 1 ?_
  rw [rounds_succ]
  go_wp2_with fail
  go_ret
  exact ⟨rfl, rfl⟩
theorem crowd_large (a : Option Addr) (n cap : Nat) (w : World) (h : 200 < n) : Calls Try.prog 49 #[.slice a n cap] w fun e w' => e = .returned (.int .i64 2) ∧ w = w' := by
  have z1 : decide ((200 : Int) < (n : Int)) = true := by simp; omega
  go_enter Try.func49, Try.ntmps49
  go_wp2_with fail
  go_ret
  exact ⟨rfl, rfl⟩
theorem crowd_any (v : Value) (vs : List Vw) (w : World) (h : Vws w v vs) :
    Calls Try.prog 49 #[v] w fun e w' => e = .returned (.int .i64 (cwF vs)) ∧ Below w.heap.size w w' := by
  by_cases h0 : vs.length = 0
  · have : vs = [] := List.length_eq_zero_iff.1 h0
    subst this
    obtain ⟨a, cap, rfl⟩ := h.parts
    refine (crowd_none a cap w).mono ?_
    rintro e w' ⟨rfl, rfl⟩
    exact ⟨rfl, Below.refl _ _⟩
  · by_cases h1 : 200 < vs.length
    · obtain ⟨a, cap, rfl⟩ := h.parts
      refine (crowd_large a vs.length cap w h1).mono ?_
      rintro e w' ⟨rfl, rfl⟩
      exact ⟨by rw [cwF_large h1], Below.refl _ _⟩
    · obtain ⟨b, off, cap, rfl, hlt, hl, hm⟩ := h.spot (by omega)
      exact crowd_walk b off vs.length cap vs w rfl (by omega) (by omega) hlt h
set_option maxHeartbeats 2000000 in
theorem canTake_any (v : Vw) (r : Rung) (w : World) :
    Calls Try.prog 33 #[.agg #[.int .i64 v.ra, .int .i64 v.he, .int .i64 v.wt], .agg #[.string r.nm, .int .i64 r.ra, .int .i64 r.he, .int .i64 r.qu]] w fun e w' => e = .returned (.bool (canT v r)) ∧ Below w.heap.size w w' := by
  have TV := (Thr.new w v 61).alloc (.cells #[.string r.nm, .int .i64 r.ra, .int .i64 r.he, .int .i64 r.qu] 56)
  have FR := Four.new (w.alloc (.cells #[.int .i64 v.ra, .int .i64 v.he, .int .i64 v.wt] 61)) r 56
  have hs : (w.alloc (.cells #[.int .i64 v.ra, .int .i64 v.he, .int .i64 v.wt] 61)).heap.size = w.heap.size + 1 := by simp
  have hb : Below w.heap.size w ((w.alloc (.cells #[.int .i64 v.ra, .int .i64 v.he, .int .i64 v.wt] 61)).alloc (.cells #[.string r.nm, .int .i64 r.ra, .int .i64 r.he, .int .i64 r.qu] 56)) := ((Below.refl _ w).alloc (Nat.le_refl _) _).alloc (by simp) _
  rw [hs] at FR
  obtain ⟨p, hp⟩ : ∃ p, decide (r.ra ≤ v.ra) = p := ⟨_, rfl⟩
  obtain ⟨q, hq⟩ : ∃ q, decide (r.he ≤ v.he) = q := ⟨_, rfl⟩
  have HCT : Hid (canT v r = (p && q)) := Lib.hid (by unfold canT; rw [hp, hq])
  obtain ⟨R, hR⟩ : ∃ R, canT v r = R := ⟨_, rfl⟩
  rw [hR] at HCT ⊢
  clear hR
  go_enter Try.func33, Try.ntmps33
  go_upto_region 1 with fail
  clear hs
  generalize (w.alloc (.cells #[.int .i64 v.ra, .int .i64 v.he, .int .i64 v.wt] 61)).alloc (.cells #[.string r.nm, .int .i64 r.ra, .int .i64 r.he, .int .i64 r.qu] 56) = W at *
  have v0 := TV.c0; have v1 := TV.c1; have r1 := FR.c1; have r2 := FR.c2
  cases p
  · have e : R = false := HCT.out
    subst e
    go_wp2_with fail
    go_ret
    exact ⟨rfl, hb⟩
  · cases q
    · have e : R = false := HCT.out
      subst e
      have hp' : r.ra ≤ v.ra := of_decide_eq_true hp
      clear hp
      go_wp2_with fail
      go_ret
      exact ⟨rfl, hb⟩
    · have e : R = true := HCT.out
      subst e
      have hp' : r.ra ≤ v.ra := of_decide_eq_true hp
      have hq' : r.he ≤ v.he := of_decide_eq_true hq
      clear hp hq
      go_wp2_with fail
      go_ret
      exact ⟨rfl, hb⟩

end Go.Proofs.Ytinckidkophobaa
