/- The reference's CheckSamples. -/
import Derived.Test.YtgpiagdldcnijabChk
import Derived.Test.YtgpiagdldcnijabRRegAny
namespace Go.Proofs.Ytgpiagdldcnijab
set_option linter.unusedVariables false
set_option linter.unusedSimpArgs false
open Go.RowKit Go.Deep

theorem rwithin_any (n a b : Int) (w : World) :
    Calls Try.prog 111 #[.int .i64 n, .int .i64 a, .int .i64 b] w fun e w' => e = .returned (.bool (inB n a b)) ∧ w = w' := by
  by_cases h1 : a ≤ n
  · by_cases h2 : n ≤ b
    · have e : inB n a b = true := by simp [inB, h1, h2]
      have E := Lib.hid e
      clear e
      go_enter Try.func111, Try.ntmps111
      go_wp2
      go_ret
      exact ⟨bret_bool (by rw [E.out]; try simp; try omega), rfl⟩
    · have e : inB n a b = false := by simp [inB, h2]
      have d : decide (n ≤ b) = false := by simp only [decide_eq_false_iff_not]; exact h2
      have E := Lib.hid e
      clear e
      go_enter Try.func111, Try.ntmps111
      go_wp2
      go_ret
      exact ⟨bret_bool (by rw [E.out]; try simp; try omega), rfl⟩
  · have e : inB n a b = false := by simp [inB, h1]
    have d : decide (a ≤ n) = false := by simp only [decide_eq_false_iff_not]; exact h1
    have E := Lib.hid e
    clear e
    go_enter Try.func111, Try.ntmps111
    go_wp2
    go_ret
    exact ⟨bret_bool (by rw [E.out]; try simp; try omega), rfl⟩
theorem rtime_any (n : Int) (w : World) :
    Calls Try.prog 64 #[.int .i64 n] w fun e w' => e = .returned (.bool (inB n (-1000000000000000) 1000000000000000)) ∧ w = w' := by
  by_cases h : isTimeN n
  · rw [inB_yes h.1 h.2]; exact refTime_yes n w h
  · have e : inB n (-1000000000000000) 1000000000000000 = false := by
      rw [Bool.eq_false_iff]; intro hh; exact h (inB_iff.1 hh)
    rw [e]; exact refTime_no n w h

/-- What is wrong with a sample's own numbers. -/
def ownOk (y : Smp) : Bool := inB y.t (-1000000000000000) 1000000000000000 && inB y.s 0 1000000000 && inB y.h (-1000000000) 1000000000 && inB y.z 0 100000
theorem smpF_own {ss : List Smp} {k : Nat} (h : ownOk (ss.getD k smp0) = false) : smpF ss k = 1 := by
  unfold smpF
  unfold ownOk at h
  cases h1 : inB (ss.getD k smp0).t (-1000000000000000) 1000000000000000
  · simp [fstF, fIf]
  · cases h2 : inB (ss.getD k smp0).s 0 1000000000
    · simp [fstF, fIf]
    · cases h3 : inB (ss.getD k smp0).h (-1000000000) 1000000000
      · simp [fstF, fIf]
      · cases h4 : inB (ss.getD k smp0).z 0 100000
        · simp [fstF, fIf]
        · rw [h1, h2, h3, h4] at h; simp at h
theorem smpF_next {ss : List Smp} {k : Nat} (h : ownOk (ss.getD k smp0) = true) : smpF ss k = if 0 < k ∧ (ss.getD k smp0).t ≠ endV (ss.take k) then 8 else 0 := by
  unfold smpF
  unfold ownOk at h
  simp only [Bool.and_eq_true] at h
  obtain ⟨⟨⟨h1, h2⟩, h3⟩, h4⟩ := h
  rw [h1, h2, h3, h4]
  by_cases h5 : 0 < k <;> by_cases h6 : (ss.getD k smp0).t = endV (ss.take k) <;> simp [fstF, fIf, h5, h6]

set_option maxRecDepth 100000 in
set_option maxHeartbeats 4000000 in
theorem rchk_walk (b off n cap : Nat) (ss : List Smp) (w : World) (hz : ss.length = n) (hn0 : 0 < n) (hn : n ≤ 5000) (hlt : b < w.heap.size) (hS : Smps w (.slice (some ⟨b, off, none⟩) n cap) ss) :
    Calls Try.prog 68 #[.slice (some ⟨b, off, none⟩) n cap] w fun e w' => e = .returned (.int .i64 (chkF ss)) ∧ Below w.heap.size w w' := by
  have HC : Hid (∀ j, j < n → w.cell? ⟨b, off + j * 5, none⟩ = some (.int .i64 (ss.getD j smp0).t) ∧ w.cell? ⟨b, off + j * 5 + 1, none⟩ = some (.int .i64 (ss.getD j smp0).s) ∧ w.cell? ⟨b, off + j * 5 + 2, none⟩ = some (.int .i64 (ss.getD j smp0).h) ∧ w.cell? ⟨b, off + j * 5 + 3, none⟩ = some (.int .i64 (ss.getD j smp0).z) ∧ w.cell? ⟨b, off + j * 5 + 4, none⟩ = some (.bool (ss.getD j smp0).k)) := Lib.hid (fun j hj => hS.cells j (by omega))
  have HZ := Lib.hid hz
  clear hz hS
  go_enter Try.func68, Try.ntmps68
  go_wp2_with fail
  go_loopw [3] (fun v wr => ∃ k : Nat, k ≤ n ∧ v = .int .i64 k ∧ Below w.heap.size w wr ∧ Hid (fstF (((List.range ss.length).map (smpF ss)).drop k) = smpsF ss) ∧ Hid (∀ i, i < k → smpF ss i = 0)) (fun v _ => n - (intOf v).toNat)
  case atStart => exact ⟨0, Nat.zero_le _, rfl, Below.refl _ _, Lib.hid rfl, Lib.hid (fun i hi => by omega)⟩
  case round =>
    obtain ⟨k, hk, rfl, hbel, HF, HV⟩ := hrel
    by_cases hlt2 : k < n
    · obtain ⟨y, hy⟩ : ∃ y, ss.getD k smp0 = y := ⟨_, rfl⟩
      obtain ⟨c0, c1, c2, c3, c4⟩ := HC.out k hlt2
      rw [hy] at c0 c1 c2 c3 c4
      have HY := Lib.hid hy
      have d0 : wr.cell? ⟨b, off + k * 5, none⟩ = some (.int .i64 y.t) := by rw [hbel.cell (p := ⟨b, off + k * 5, none⟩) hlt]; exact c0
      have d1 : wr.cell? ⟨b, off + k * 5 + 1, none⟩ = some (.int .i64 y.s) := by rw [hbel.cell (p := ⟨b, off + k * 5 + 1, none⟩) hlt]; exact c1
      have d2 : wr.cell? ⟨b, off + k * 5 + 2, none⟩ = some (.int .i64 y.h) := by rw [hbel.cell (p := ⟨b, off + k * 5 + 2, none⟩) hlt]; exact c2
      have d3 : wr.cell? ⟨b, off + k * 5 + 3, none⟩ = some (.int .i64 y.z) := by rw [hbel.cell (p := ⟨b, off + k * 5 + 3, none⟩) hlt]; exact c3
      have d4 : wr.cell? ⟨b, off + k * 5 + 4, none⟩ = some (.bool y.k) := by rw [hbel.cell (p := ⟨b, off + k * 5 + 4, none⟩) hlt]; exact c4
      have HST : Hid (∀ x, smpF ss k = x → (x ≠ 0 → chkF ss = x) ∧ (x = 0 → fstF (((List.range ss.length).map (smpF ss)).drop (k + 1)) = smpsF ss ∧ ∀ i, i < k + 1 → smpF ss i = 0)) := Lib.hid (fun x hx => by
        have hd := smpsF_drop ss k (by rw [HZ.out]; exact hlt2)
        rw [HF.out, hx] at hd
        refine ⟨fun h0 => ?_, fun h0 => ?_⟩
        · rw [if_neg h0] at hd
          rw [chkF_bad ss (by rw [HZ.out]; exact hn) (by rw [hd]; exact h0), hd]
        · rw [if_pos h0] at hd
          refine ⟨hd.symm, fun i hi => ?_⟩
          by_cases e : i = k
          · subst e; rw [hx]; exact h0
          · exact HV.out i (by omega))
      clear hy c0 c1 c2 c3 c4
      have hsz := hbel.size
      have hblt : b < wr.heap.size := by omega
      obtain ⟨t, s, h, z, kk⟩ := y
      simp only at d0 d1 d2 d3 d4
      obtain ⟨v1, hv1⟩ : ∃ v, inB t (-1000000000000000) 1000000000000000 = v := ⟨_, rfl⟩
      obtain ⟨v2, hv2⟩ : ∃ v, inB s 0 1000000000 = v := ⟨_, rfl⟩
      obtain ⟨v3, hv3⟩ : ∃ v, inB h (-1000000000) 1000000000 = v := ⟨_, rfl⟩
      obtain ⟨v4, hv4⟩ : ∃ v, inB z 0 100000 = v := ⟨_, rfl⟩
      have hown : ownOk (ss.getD k smp0) = (v1 && v2 && v3 && v4) := by rw [HY.out]; unfold ownOk; rw [hv1, hv2, hv3, hv4]
      have HOWN := Lib.hid hown
      have HV1 := Lib.hid hv1; have HV2 := Lib.hid hv2; have HV3 := Lib.hid hv3; have HV4 := Lib.hid hv4
      clear hown hv1 hv2 hv3 hv4
      by_cases hgood : (v1 && v2 && v3 && v4) = true
      · simp only [Bool.and_eq_true] at hgood
        obtain ⟨⟨⟨rfl, rfl⟩, rfl⟩, rfl⟩ := hgood
        go_wp2_with fail
        refine (rtime_any _ _).mono ?_; rintro e w' ⟨rfl, rfl⟩
        rw [HV1.out]
        go_wp2_with fail
        refine (rwithin_any _ _ _ _).mono ?_; rintro e w' ⟨rfl, rfl⟩
        rw [HV2.out]
        go_wp2_with fail
        refine (rwithin_any _ _ _ _).mono ?_; rintro e w' ⟨rfl, rfl⟩
        rw [HV3.out]
        go_wp2_with fail
        refine (rwithin_any _ _ _ _).mono ?_; rintro e w' ⟨rfl, rfl⟩
        rw [HV4.out]
        by_cases hk0 : k < 1
        · have hgd : decide (0 < k) = false := by simp; omega
          have hx := smpF_next (ss := ss) (k := k) (by rw [HOWN.out]; rfl)
          rw [if_neg (by omega)] at hx
          have HN := Lib.hid ((HST.out 0 hx).2 rfl)
          clear hx HST HOWN
          go_wp2_with fail
          go_quiet (fail)
          go_wp2_with fail
          go_roundw
          case rel => exact ⟨k + 1, by omega, by go_num, below_drewN (hbel.alloc hsz _) _, Lib.hid HN.out.1, Lib.hid HN.out.2⟩
          case measure => simp [intOf]; omega
        · have hgd : decide (0 < k) = true := by simp; omega
          have hgd2 : (0 : Int) < (k : Int) := by omega
          have hx := smpF_next (ss := ss) (k := k) (by rw [HOWN.out]; rfl)
          rw [endV_take ss k (by omega) (by rw [HZ.out]; omega), HY.out] at hx
          obtain ⟨j, hj⟩ : ∃ j, k - 1 = j := ⟨_, rfl⟩
          rw [hj] at hx
          obtain ⟨t', ht'⟩ : ∃ x, (ss.getD j smp0).t = x := ⟨_, rfl⟩
          obtain ⟨s', hs'⟩ : ∃ x, (ss.getD j smp0).s = x := ⟨_, rfl⟩
          have ok := ((smpF_zero ss j).1 (HV.out j (by omega))).1
          have o1 := ok.1; have o2 := ok.2.1
          obtain ⟨p0, p1, -⟩ := HC.out j (by omega)
          rw [ht'] at o1 p0 hx; rw [hs'] at o2 p1 hx
          have q0 : wr.cell? ⟨b, off + j * 5, none⟩ = some (.int .i64 t') := by rw [hbel.cell (p := ⟨b, off + j * 5, none⟩) hlt]; exact p0
          have q1 : wr.cell? ⟨b, off + j * 5 + 1, none⟩ = some (.int .i64 s') := by rw [hbel.cell (p := ⟨b, off + j * 5 + 1, none⟩) hlt]; exact p1
          have i0 : (0 : Int) ≤ (j : Int) := by omega
          have i1 : (j : Int) < (n : Int) := by omega
          have hwr : IntKind.i64.wrap ((k : Int) - 1) = (j : Int) := by rw [show (k : Int) - 1 = (j : Int) by omega]; exact IntWalk.i64_in _ ⟨by omega, by omega⟩
          have hws : IntKind.i64.wrap (t' + s') = t' + s' := IntWalk.i64_in _ ⟨by omega, by omega⟩
          by_cases he : t = t' + s'
          · rw [if_neg (fun h => h.2 he)] at hx
            have HN := Lib.hid ((HST.out 0 hx).2 rfl)
            have hb : (t == t' + s') = true := by simp [he]
            have hb2 : (t != t' + s') = false := by simp [he]
            clear hx HST HOWN hj ht' hs' ok p0 p1 he
            go_wp2_with fail
            go_quiet (fail)
            go_wp2_with fail
            go_roundw
            case rel => exact ⟨k + 1, by omega, by go_num, below_drewN (hbel.alloc hsz _) _, Lib.hid HN.out.1, Lib.hid HN.out.2⟩
            case measure => simp [intOf]; omega
          · rw [if_pos ⟨by omega, he⟩] at hx
            have HX := Lib.hid ((HST.out 8 hx).1 (by decide))
            have hb : (t == t' + s') = false := by simp [he]
            have hb2 : (t != t' + s') = true := by simp [he]
            clear hx HST HOWN hj ht' hs' ok p0 p1 he
            go_wp2_with fail
            go_quiet (fail)
            go_wp2_with fail
            go_ret
            exact ⟨bret_int HX.out.symm, below_drewN (hbel.alloc hsz _) _⟩
      · have HX := Lib.hid ((HST.out 1 (smpF_own (by rw [HOWN.out]; exact Bool.eq_false_iff.2 hgood))).1 (by decide))
        clear HST HOWN
        cases v1 with
        | false =>
          go_wp2_with fail
          refine (rtime_any _ _).mono ?_; rintro e w' ⟨rfl, rfl⟩
          rw [HV1.out]
          go_wp2_with fail
          go_ret
          exact ⟨bret_int HX.out.symm, hbel.alloc hsz _⟩
        | true =>
          cases v2 with
          | false =>
            go_wp2_with fail
            refine (rtime_any _ _).mono ?_; rintro e w' ⟨rfl, rfl⟩
            rw [HV1.out]
            go_wp2_with fail
            refine (rwithin_any _ _ _ _).mono ?_; rintro e w' ⟨rfl, rfl⟩
            rw [HV2.out]
            go_wp2_with fail
            go_ret
            exact ⟨bret_int HX.out.symm, hbel.alloc hsz _⟩
          | true =>
            cases v3 with
            | false =>
              go_wp2_with fail
              refine (rtime_any _ _).mono ?_; rintro e w' ⟨rfl, rfl⟩
              rw [HV1.out]
              go_wp2_with fail
              refine (rwithin_any _ _ _ _).mono ?_; rintro e w' ⟨rfl, rfl⟩
              rw [HV2.out]
              go_wp2_with fail
              refine (rwithin_any _ _ _ _).mono ?_; rintro e w' ⟨rfl, rfl⟩
              rw [HV3.out]
              go_wp2_with fail
              go_ret
              exact ⟨bret_int HX.out.symm, hbel.alloc hsz _⟩
            | true =>
              cases v4 with
              | false =>
                go_wp2_with fail
                refine (rtime_any _ _).mono ?_; rintro e w' ⟨rfl, rfl⟩
                rw [HV1.out]
                go_wp2_with fail
                refine (rwithin_any _ _ _ _).mono ?_; rintro e w' ⟨rfl, rfl⟩
                rw [HV2.out]
                go_wp2_with fail
                refine (rwithin_any _ _ _ _).mono ?_; rintro e w' ⟨rfl, rfl⟩
                rw [HV3.out]
                go_wp2_with fail
                refine (rwithin_any _ _ _ _).mono ?_; rintro e w' ⟨rfl, rfl⟩
                rw [HV4.out]
                go_wp2_with fail
                go_ret
                exact ⟨bret_int HX.out.symm, hbel.alloc hsz _⟩
              | true => exact absurd rfl hgood
    · have hkn : k = n := by omega
      subst hkn
      have hs0 : smpsF ss = 0 := by
        have := HF.out
        rw [List.drop_of_length_le (by simp; have := HZ.out; omega)] at this
        exact this.symm
      have hfin := chkF_end ss (by rw [HZ.out]; exact hn) hs0
      have hev : endV ss = (ss.getD (k - 1) smp0).t + (ss.getD (k - 1) smp0).s := by unfold endV; rw [HZ.out, if_neg (by omega)]
      obtain ⟨j, hj⟩ : ∃ j, k - 1 = j := ⟨_, rfl⟩
      rw [hj] at hev
      obtain ⟨t', ht'⟩ : ∃ x, (ss.getD j smp0).t = x := ⟨_, rfl⟩
      obtain ⟨s', hs'⟩ : ∃ x, (ss.getD j smp0).s = x := ⟨_, rfl⟩
      have ok := ((smpF_zero ss j).1 (HV.out j (by omega))).1
      have o1 := ok.1; have o2 := ok.2.1
      obtain ⟨p0, p1, -⟩ := HC.out j (by omega)
      rw [ht'] at o1 p0 hev; rw [hs'] at o2 p1 hev
      rw [hev] at hfin
      have q0 : wr.cell? ⟨b, off + j * 5, none⟩ = some (.int .i64 t') := by rw [hbel.cell (p := ⟨b, off + j * 5, none⟩) hlt]; exact p0
      have q1 : wr.cell? ⟨b, off + j * 5 + 1, none⟩ = some (.int .i64 s') := by rw [hbel.cell (p := ⟨b, off + j * 5 + 1, none⟩) hlt]; exact p1
      have i0 : (0 : Int) ≤ (j : Int) := by omega
      have i1 : (j : Int) < (k : Int) := by omega
      have hgd2 : (0 : Int) < (k : Int) := by omega
      have hgd : decide (0 < k) = true := by simp; omega
      have hwr : IntKind.i64.wrap ((k : Int) - 1) = (j : Int) := by rw [show (k : Int) - 1 = (j : Int) by omega]; exact IntWalk.i64_in _ ⟨by omega, by omega⟩
      have hws : IntKind.i64.wrap (t' + s') = t' + s' := IntWalk.i64_in _ ⟨by omega, by omega⟩
      have hlt' : decide (k < k) = false := by simp
      obtain ⟨vv, hvv⟩ : ∃ v, inB (t' + s') (-1000000000000000) 1000000000000000 = v := ⟨_, rfl⟩
      rw [hvv] at hfin
      have HFIN := Lib.hid hfin
      have HVV := Lib.hid hvv
      clear hfin hev hs0 hlt2 hj ht' hs' ok p0 p1 hvv
      go_wp2_with fail
      go_quiet ((go_at_call 64; refine Calls.quiet_of_same (st_of (rtime_any _ _))))
      rw [HVV.out]
      cases vv with
      | true =>
        go_wp2_with fail
        go_ret
        exact ⟨bret_int HFIN.out.symm, below_drewN hbel _⟩
      | false =>
        go_wp2_with fail
        go_ret
        exact ⟨bret_int HFIN.out.symm, below_drewN hbel _⟩

theorem rchk_large (a : Option Addr) (n cap : Nat) (ss : List Smp) (w : World) (hz : ss.length = n) (hn : 5000 < n) (hm : n ≤ maxLen) :
    Calls Try.prog 68 #[.slice a n cap] w fun e w' => e = .returned (.int .i64 (chkF ss)) ∧ Below w.heap.size w w' := by
  have hc := Lib.hid (chkF_large ss (by omega))
  unfold maxLen at hm
  clear hz
  go_enter Try.func68, Try.ntmps68
  go_wp2_with fail
  go_ret
  exact ⟨bret_int hc.out.symm, Below.refl _ _⟩

set_option maxRecDepth 100000 in
theorem rchk_empty (a : Option Addr) (cap : Nat) (w : World) :
    Calls Try.prog 68 #[.slice a 0 cap] w fun e w' => e = .returned (.int .i64 0) ∧ Below w.heap.size w w' := by
  go_enter Try.func68, Try.ntmps68
  go_wp2_with fail
  refine wp_loop_rounds 1 ?_
  rw [rounds_succ]
  go_wp2_with fail
  go_quiet (fail)
  go_wp2_with fail
  go_ret
  exact ⟨rfl, below_drewN (Below.refl _ _) _⟩

/-- The reference's CheckSamples, whatever the samples. -/
theorem rchk_any (v : Value) (ss : List Smp) (w : World) (h : Smps w v ss) :
    Calls Try.prog 68 #[v] w fun e w' => e = .returned (.int .i64 (chkF ss)) ∧ Below w.heap.size w w' := by
  obtain ⟨a, cap, rfl⟩ := h.parts
  by_cases h5 : 5000 < ss.length
  · exact rchk_large a _ cap ss w rfl h5 h.max.2
  · have h' := h
    rcases h with ⟨a', c', hv, h0⟩ | ⟨b', off', cap', hv, hne, hlt, hl, hm, hc⟩
    · have hs : ss = [] := List.length_eq_zero_iff.1 h0
      subst hs
      rw [(chkF_zero []).2 Good.nil]
      exact rchk_empty a cap w
    · simp only [Value.slice.injEq] at hv
      obtain ⟨rfl, -, rfl⟩ := hv
      exact rchk_walk b' off' _ cap ss w rfl hne (by omega) hlt h'

end Go.Proofs.Ytgpiagdldcnijab
