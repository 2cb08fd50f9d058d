/- The reference's takes, worth, both, Takes, Worth. -/
import Derived.Test.YtfjgpafcdkodmaaRChkR
import Derived.Test.YtfjgpafcdkodmaaWorth
namespace Go.Proofs.Ytfjgpafcdkodmaa
set_option linter.unusedVariables false
set_option linter.unusedSimpArgs false
open Go.RowKit Go.Shelf Go.Deep

/-- What is taken so far, as the reference keeps it. -/
def tkZ (fnd : Bool) (t : Nat) : Int := if fnd = true then (t : Int) else -1
def rtkZ (v : Vw) (rs : List Rung) : Int := tkZ (tkB v rs) (tkN v rs)
set_option maxRecDepth 100000 in
set_option maxHeartbeats 8000000 in
theorem rtakes_walk (v : Vw) (b off n cap : Nat) (rs : List Rung) (w : World) (hz : rs.length = n) (hn0 : 0 < n) (hn : n ≤ 100) (hlt : b < w.heap.size) (hS : Rungs w (.slice (some ⟨b, off, none⟩) n cap) rs) :
    Calls Try.prog 49 #[.slice (some ⟨b, off, none⟩) n cap, .agg #[.int .i64 v.ra, .int .i64 v.he, .int .i64 v.wt]] w fun e w' => e = .returned (.int .i64 (rtkZ v rs)) ∧ Below w.heap.size w w' := by
  have HC := Lib.hid (fun j (hj : j < n) => hS.cells j (by omega))
  have HE : Hid (∀ fnd t, tkI v rs n = tkO fnd t → rtkZ v rs = tkZ fnd t) := Lib.hid (fun fnd t h => by
    rw [rtkZ, tkN, tkB, hz, h]
    cases fnd <;> rfl)
  obtain ⟨R, hR⟩ : ∃ R, rtkZ v rs = R := ⟨_, rfl⟩
  rw [hR] at HE ⊢
  have TV0 := Thr.new w v 25
  have hbv : Below w.heap.size w (w.alloc (.cells #[.int .i64 v.ra, .int .i64 v.he, .int .i64 v.wt] 25)) := (Below.refl _ w).alloc (Nat.le_refl _) _
  clear hz hS hR
  go_enter Try.func49, Try.ntmps49
  go_wp2_with fail
  have hVl := TV0.lt
  generalize w.alloc (.cells #[.int .i64 v.ra, .int .i64 v.he, .int .i64 v.wt] 25) = A at *
  go_loopw [5, 10] (fun v5 vv wr => ∃ (k t : Nat) (fnd : Bool), k ≤ n ∧ vv = .int .i64 k ∧ v5 = .int .i64 (tkZ fnd t) ∧ (fnd = true → t < k) ∧ Hid (tkI v rs k = tkO fnd t) ∧ Below w.heap.size w wr ∧ Thr wr w.heap.size v) (fun _ vv _ => n - (intOf vv).toNat)
  case atStart => exact ⟨0, 0, false, by omega, rfl, rfl, (fun h => by cases h), Lib.hid rfl, hbv, TV0⟩
  case round =>
    clear TV0 hbv
    obtain ⟨k, t, fnd, hk, rfl, rfl, hf1, HK, hbel, TV⟩ := hrel
    by_cases hlt2 : k < n
    rotate_left
    · have hkn : k = n := by omega
      subst hkn
      have e1 := HE.out fnd t HK.out
      subst e1
      have hlt' : decide (k < k) = false := by simp
      clear hlt2 hf1
      go_wp2_with fail
      go_ret
      exact ⟨rfl, hbel⟩
    · obtain ⟨r, hr⟩ : ∃ r, rs.getD k rung0 = r := ⟨_, rfl⟩
      obtain ⟨c0, c1, c2, c3⟩ := HC.out k hlt2
      rw [hr] at c0 c1 c2 c3
      rw [← hbel.cell (p := ⟨b, off + k * 4, none⟩) hlt] at c0
      rw [← hbel.cell (p := ⟨b, off + k * 4 + 1, none⟩) hlt] at c1
      rw [← hbel.cell (p := ⟨b, off + k * 4 + 2, none⟩) hlt] at c2
      rw [← hbel.cell (p := ⟨b, off + k * 4 + 3, none⟩) hlt] at c3
      have HST := Lib.hid (tkI_step v rs k fnd t HK.out)
      rw [hr] at HST
      have FR := Four.new wr r 37
      have TV := TV.alloc (.cells #[.string r.nm, .int .i64 r.ra, .int .i64 r.he, .int .i64 r.qu] 37)
      have hbel := hbel.alloc (o := .cells #[.string r.nm, .int .i64 r.ra, .int .i64 r.he, .int .i64 r.qu] 37) hbel.size
      clear hr
      go_upto_region 5 with fail
      generalize wr.alloc (.cells #[.string r.nm, .int .i64 r.ra, .int .i64 r.he, .int .i64 r.qu] 37) = W at *
      have hkI : IntKind.i64.wrap ((k : Int) + 1) = (k : Int) + 1 := IntWalk.i64_in _ ⟨by omega, by omega⟩
      generalize wr.heap.size = RX at *
      clear c0 c1 c2 c3
      obtain ⟨X, hX⟩ : ∃ X, (canT v r && (!fnd || decide ((rs.getD t rung0).qu < r.qu))) = X := ⟨_, rfl⟩
      have HX := Lib.hid hX
      clear hX
      have r1 := FR.c1; have r2 := FR.c2; have r3 := FR.c3; have rl := FR.lt
      have v0 := TV.c0; have v1 := TV.c1; have vl := TV.lt
      go_cut [40] (fun s40 wx => s40 = .bool X ∧ Below w.heap.size w wx ∧ Thr wx w.heap.size v)
      case first =>
        by_cases hp : r.ra ≤ v.ra
        rotate_left
        · have hpd : decide (r.ra ≤ v.ra) = false := decide_eq_false hp
          have e : X = false := by rw [← HX.out, canT, hpd]; rfl
          subst e
          clear hp
          go_quiet (fail)
          go_wp2_with fail
          go_meet
          exact ⟨rfl, below_drewN hbel nq, TV.drewN nq⟩
        · by_cases hq : r.he ≤ v.he
          rotate_left
          · have hqd : decide (r.he ≤ v.he) = false := decide_eq_false hq
            have e : X = false := by rw [← HX.out, canT, hqd, Bool.and_false]; rfl
            subst e
            clear hq
            go_quiet (fail)
            go_wp2_with fail
            go_meet
            exact ⟨rfl, below_drewN hbel nq, TV.drewN nq⟩
          · have HCT : Hid (canT v r = true) := Lib.hid (by rw [canT, decide_eq_true hp, decide_eq_true hq]; rfl)
            cases fnd
            · have e : X = true := by rw [← HX.out, HCT.out]; rfl
              subst e
              have hneg : tkZ false t = -1 := rfl
              rw [hneg]
              go_quiet (fail)
              go_wp2_with fail
              go_meet
              exact ⟨rfl, below_drewN hbel nq, TV.drewN nq⟩
            · have htk := hf1 rfl
              have hpos : tkZ true t = (t : Int) := rfl
              obtain ⟨-, -, -, y3⟩ := HC.out t (by omega)
              rw [← hbel.cell (p := ⟨b, off + t * 4 + 3, none⟩) hlt] at y3
              obtain ⟨y, hy⟩ : ∃ y, (rs.getD t rung0).qu = y := ⟨_, rfl⟩
              rw [hy] at y3
              have e : X = decide (y < r.qu) := by rw [← HX.out, HCT.out, hy]; rfl
              rw [hpos]
              have i0 : (0 : Int) ≤ (t : Int) := by omega
              have i1 : (t : Int) < (n : Int) := by omega
              have tn : decide ((t : Int) < 0) = false := by simp
              clear hy hpos hf1
              by_cases hyq : y < r.qu
              · rw [decide_eq_true hyq] at e
                subst e
                go_quiet (fail)
                go_wp2_with fail
                go_meet
                exact ⟨rfl, below_drewN hbel nq, TV.drewN nq⟩
              · have hyd := decide_eq_false hyq
                rw [hyd] at e
                subst e
                clear hyq
                go_quiet (fail)
                go_wp2_with fail
                go_meet
                exact ⟨rfl, below_drewN hbel nq, TV.drewN nq⟩
      case rest =>
        obtain ⟨rfl, hbel, TV⟩ := hcut
        clear v0 v1 r1 r2 r3 rl vl
        cases X
        · have HN : Hid (tkI v rs (k + 1) = tkO fnd t) := Lib.hid (by
            rw [HST.out, if_neg]
            rintro ⟨h1, h2⟩
            have h3 := HX.out
            rw [h1] at h3
            rcases h2 with h2 | h2
            · rw [h2] at h3; cases h3
            · rw [decide_eq_true h2] at h3; cases fnd <;> cases h3)
          go_wp2_with fail
          go_roundw
          case rel => exact ⟨k + 1, t, fnd, by omega, by go_num, rfl, (fun h => by have := hf1 h; omega), HN, hbel, TV⟩
          case measure => simp [intOf]; omega
        · have HN : Hid (tkI v rs (k + 1) = tkO true k) := Lib.hid (by
            rw [HST.out, if_pos]
            · rfl
            · have h3 := HX.out
              rw [Bool.and_eq_true] at h3
              refine ⟨h3.1, ?_⟩
              have h4 := h3.2
              cases fnd
              · exact .inl rfl
              · exact .inr (of_decide_eq_true h4))
          go_wp2_with fail
          go_roundw
          case rel => exact ⟨k + 1, k, true, by omega, by go_num, rfl, (fun _ => by omega), HN, hbel, TV⟩
          case measure => simp [intOf]; omega
theorem rtakes_none (v : Vw) (a : Option Addr) (cap : Nat) (w : World) : Calls Try.prog 49 #[.slice a 0 cap, .agg #[.int .i64 v.ra, .int .i64 v.he, .int .i64 v.wt]] w fun e w' => e = .returned (.int .i64 (-1)) ∧ Below w.heap.size w w' := by
  go_enter Try.func49, Try.ntmps49
  go_wp2_with fail
  refine wp_loop_rounds 1 ?_
  rw [rounds_succ]
  go_wp2_with fail
  go_ret
  exact ⟨rfl, (Below.refl _ w).alloc (Nat.le_refl _) _⟩
theorem rtakes_any (v : Vw) (u : Value) (rs : List Rung) (w : World) (h : Rungs w u rs) (hn : rs.length ≤ 100) :
    Calls Try.prog 49 #[u, .agg #[.int .i64 v.ra, .int .i64 v.he, .int .i64 v.wt]] w fun e w' => e = .returned (.int .i64 (rtkZ v rs)) ∧ Below w.heap.size w w' := by
  by_cases h0 : rs.length = 0
  · have : rs = [] := List.length_eq_zero_iff.1 h0
    subst this
    obtain ⟨a, cap, rfl⟩ := h.parts
    exact rtakes_none v a cap w
  · obtain ⟨b, off, cap, rfl, hlt, hl, hm⟩ := h.spot (by omega)
    exact rtakes_walk v b off rs.length cap rs w rfl (by omega) hn hlt h
theorem both_any (u v : Value) (rs : List Rung) (vs : List Vw) (w : World) (hu : Rungs w u rs) (hv : Vws w v vs) (hwf : ∀ y ∈ rs, y.nm.size ≤ maxLen) :
    Calls Try.prog 48 #[u, v] w fun e w' => e = .returned (.int .i64 (woF rs vs)) ∧ Below w.heap.size w w' := by
  have HCH := Lib.hid (rchkr_any u rs w hu hwf)
  have HCW : Hid (∀ W, Below w.heap.size w W → Calls Try.prog 16 #[v] W fun e w' => e = .returned (.int .i64 (cwF vs)) ∧ Below W.heap.size W w') := Lib.hid (fun W hb => rcrowd_any _ vs W (hv.below hb (Nat.le_refl _)))
  have HZ : Hid ((rgF rs = 0 → woF rs vs = cwF vs) ∧ (rgF rs ≠ 0 → woF rs vs = rgF rs)) := Lib.hid (by
    unfold woF
    constructor
    · intro h; rw [h]; by_cases h2 : cwF vs = 0 <;> simp [fstF, h2]
    · intro h; simp [fstF, h])
  obtain ⟨R, hR⟩ : ∃ R, woF rs vs = R := ⟨_, rfl⟩
  obtain ⟨G, hG⟩ : ∃ G, rgF rs = G := ⟨_, rfl⟩
  obtain ⟨C, hC⟩ : ∃ C, cwF vs = C := ⟨_, rfl⟩
  rw [hR, hG, hC] at HZ
  rw [hG] at HCH
  rw [hC] at HCW
  rw [hR]
  clear hR hG hC hu hv hwf
  by_cases h0 : G = 0
  · subst h0
    have e := HZ.out.1 rfl
    subst e
    go_enter Try.func48, Try.ntmps48
    go_wp2_with fail
    refine HCH.out.mono ?_; rintro e w1 ⟨rfl, b1⟩
    go_wp2_with fail
    refine (HCW.out _ b1).mono ?_; rintro e w2 ⟨rfl, b2⟩
    go_wp2_with fail
    go_ret
    exact ⟨rfl, b1.trans (b2.mono b1.size)⟩
  · have e := HZ.out.2 h0
    subst e
    have hne : (R == 0) = false := by simp; exact h0
    have hne2 : (R != 0) = true := by simp; exact h0
    clear h0
    go_enter Try.func48, Try.ntmps48
    go_wp2_with fail
    refine HCH.out.mono ?_; rintro e w1 ⟨rfl, b1⟩
    go_wp2_with fail
    go_ret
    exact ⟨rfl, b1⟩
theorem rtk_cases (v : Vw) (rs : List Rung) : (tkB v rs = true → rtkZ v rs = (tkN v rs : Int)) ∧ (tkB v rs = false → rtkZ v rs = -1) :=
  ⟨fun h => by rw [rtkZ, h]; rfl, fun h => by rw [rtkZ, h]; rfl⟩
theorem tk_none_zero {v : Vw} {rs : List Rung} (h : tkB v rs = false) : tkN v rs = 0 := by
  unfold tkB at h
  rw [Option.isSome_eq_false_iff, Option.isNone_iff_eq_none] at h
  rw [tkN, h]; rfl
set_option maxRecDepth 100000 in
set_option maxHeartbeats 4000000 in
theorem rTakes_any (u : Value) (rs : List Rung) (v : Vw) (w : World) (h : Rungs w u rs) (hwf : ∀ y ∈ rs, y.nm.size ≤ maxLen) :
    Calls Try.prog 14 #[u, .agg #[.int .i64 v.ra, .int .i64 v.he, .int .i64 v.wt]] w fun e w' => e = .returned (.tuple #[.int .i64 (taX rs v), .bool (taB rs v), .int .i64 (woF rs [v])]) ∧ Below w.heap.size w w' := by
  have HB : Hid (∀ W u', Below w.heap.size w W → Vws W u' [v] → Calls Try.prog 48 #[u, u'] W fun e w' => e = .returned (.int .i64 (woF rs [v])) ∧ Below W.heap.size W w') := Lib.hid (fun W u' hb hv => both_any u u' rs [v] W (h.below hb (Nat.le_refl _)) hv hwf)
  have HT : Hid (woF rs [v] = 0 → ∀ W, Below w.heap.size w W → Calls Try.prog 49 #[u, .agg #[.int .i64 v.ra, .int .i64 v.he, .int .i64 v.wt]] W fun e w' => e = .returned (.int .i64 (rtkZ v rs)) ∧ Below W.heap.size W w') := Lib.hid (fun e W hb => rtakes_any v u rs W (h.below hb (Nat.le_refl _)) ((rgF_zero rs).1 (fst2_zero e).1).len)
  have HZ : Hid ((woF rs [v] = 0 → tkB v rs = true → taX rs v = (tkN v rs : Int) ∧ taB rs v = true ∧ rtkZ v rs = (tkN v rs : Int)) ∧ (woF rs [v] = 0 → tkB v rs = false → taX rs v = 0 ∧ taB rs v = false ∧ rtkZ v rs = -1) ∧ (woF rs [v] ≠ 0 → taX rs v = 0 ∧ taB rs v = false)) := Lib.hid (by
    refine ⟨fun h g => ?_, fun h g => ?_, fun h => ?_⟩
    · rw [taX, taB, if_pos h, if_pos h]; exact ⟨rfl, g, (rtk_cases v rs).1 g⟩
    · rw [taX, taB, if_pos h, if_pos h, tk_none_zero g]; exact ⟨rfl, g, (rtk_cases v rs).2 g⟩
    · rw [taX, taB, if_neg h, if_neg h]; exact ⟨rfl, rfl⟩)
  obtain ⟨X, hX⟩ : ∃ X, taX rs v = X := ⟨_, rfl⟩
  obtain ⟨B, hB⟩ : ∃ B, taB rs v = B := ⟨_, rfl⟩
  obtain ⟨F, hF⟩ : ∃ F, woF rs [v] = F := ⟨_, rfl⟩
  obtain ⟨N, hN⟩ : ∃ N, tkN v rs = N := ⟨_, rfl⟩
  obtain ⟨D, hD⟩ : ∃ D, tkB v rs = D := ⟨_, rfl⟩
  obtain ⟨Z, hZ⟩ : ∃ Z, rtkZ v rs = Z := ⟨_, rfl⟩
  rw [hX, hB, hF, hN, hD, hZ] at HZ
  rw [hF, hZ] at HT
  rw [hF] at HB
  rw [hX, hB, hF]
  have TV := Thr.new w v 25
  have hbv : Below w.heap.size w (w.alloc (.cells #[.int .i64 v.ra, .int .i64 v.he, .int .i64 v.wt] 25)) := (Below.refl _ w).alloc (Nat.le_refl _) _
  have hV1 := vws_one (w.alloc (.cells #[.int .i64 v.ra, .int .i64 v.he, .int .i64 v.wt] 25)) v
  have hbv2 := hbv.alloc (o := .cells #[.int .i64 v.ra, .int .i64 v.he, .int .i64 v.wt] 25) hbv.size
  have HV1 := Lib.hid hV1
  clear hX hB hF hN hD hZ h hV1
  go_enter Try.func14, Try.ntmps14
  go_wp2_with fail
  have hs1 : (w.alloc (.cells #[.int .i64 v.ra, .int .i64 v.he, .int .i64 v.wt] 25)).heap.size = w.heap.size + 1 := by simp
  rw [hs1] at HV1
  refine (HB.out _ _ hbv2 HV1.out).mono ?_; rintro e w3 ⟨rfl, b3⟩
  have TV := (TV.alloc (.cells #[.int .i64 v.ra, .int .i64 v.he, .int .i64 v.wt] 25)).below b3 (by simp; omega)
  have hbel := hbv2.trans (b3.mono hbv2.size)
  have v0 := TV.c0; have v1 := TV.c1; have v2 := TV.c2; have vl := TV.lt
  clear hs1 b3 hbv hbv2
  by_cases h0 : F = 0
  · subst h0
    have HTT := Lib.hid (HT.out rfl)
    cases D
    · obtain ⟨rfl, rfl, rfl⟩ := HZ.out.2.1 rfl rfl
      go_wp2_with fail
      refine (HTT.out _ hbel).mono ?_; rintro e w4 ⟨rfl, b4⟩
      go_wp2_with fail
      go_ret3
      exact ⟨rfl, hbel.trans (b4.mono hbel.size)⟩
    · obtain ⟨rfl, rfl, rfl⟩ := HZ.out.1 rfl rfl
      have m1 : max (N : Int) 0 = (N : Int) := by omega
      go_wp2_with fail
      refine (HTT.out _ hbel).mono ?_; rintro e w4 ⟨rfl, b4⟩
      go_wp2_with fail
      go_ret3
      exact ⟨by first | rfl | simp, hbel.trans (b4.mono hbel.size)⟩
  · obtain ⟨rfl, rfl⟩ := HZ.out.2.2 h0
    have hne : (F == 0) = false := by simp; exact h0
    have hne2 : (F != 0) = true := by simp; exact h0
    clear h0
    go_wp2_with fail
    go_ret3
    exact ⟨rfl, hbel⟩
set_option maxRecDepth 100000 in
set_option maxHeartbeats 8000000 in
theorem rworth_walk (u : Value) (b off n cap : Nat) (rs : List Rung) (vs : List Vw) (w : World) (hz : vs.length = n) (hn0 : 0 < n) (hlt : b < w.heap.size) (hcap : n ≤ cap) (hcm : cap ≤ maxLen) (hu : Rungs w u rs) (hv : Vws w (.slice (some ⟨b, off, none⟩) n cap) vs) (hok : OkRs rs) (hn2 : n ≤ 200) (hvo : ∀ j, j < n → vwOk (vs.getD j vw0)) :
    Calls Try.prog 54 #[u, .slice (some ⟨b, off, none⟩) n cap] w fun e w' => e = .returned (.int .i64 (worthTo rs vs n)) ∧ Below w.heap.size w w' := by
  have HC := Lib.hid (fun j (hj : j < n) => hv.cells j (by omega))
  have HVO := Lib.hid hvo
  have HU := Lib.hid hu
  have HOK := Lib.hid hok
  have HTK : Hid (∀ (v : Vw) W, Below w.heap.size w W → Calls Try.prog 49 #[u, .agg #[.int .i64 v.ra, .int .i64 v.he, .int .i64 v.wt]] W fun e w' => e = .returned (.int .i64 (rtkZ v rs)) ∧ Below W.heap.size W w') := Lib.hid (fun v W hb => rtakes_any v u rs W (hu.below hb (Nat.le_refl _)) hok.len)
  have HWB : Hid (∀ k, k ≤ n → 0 ≤ worthTo rs vs k ∧ worthTo rs vs k ≤ 1000000000000 * k) := Lib.hid (fun k hk => worthTo_bd hok k (by omega) (by rw [hz]; exact hvo))
  have HSP := Lib.hid hu.spot
  unfold maxLen at hcm
  clear hu hv hok hvo hz
  go_enter Try.func54, Try.ntmps54
  go_wp2_with fail
  go_loopw [5, 11] (fun v7 vv wr => ∃ (k : Nat) (S : Int), k ≤ n ∧ vv = .int .i64 k ∧ v7 = .int .i64 S ∧ Hid (worthTo rs vs k = S) ∧ Below w.heap.size w wr) (fun _ vv _ => n - (intOf vv).toNat)
  case atStart => exact ⟨0, 0, by omega, rfl, rfl, Lib.hid rfl, Below.refl _ _⟩
  case round =>
    obtain ⟨k, S, hk, rfl, rfl, HS, hbel⟩ := hrel
    by_cases hlt2 : k < n
    rotate_left
    · have hkn : k = n := by omega
      have HFIN : Hid (S = worthTo rs vs n) := Lib.hid (by rw [← HS.out, hkn])
      have hlt' : decide (k < n) = false := by simp; omega
      clear hlt2 hkn
      go_wp2_with fail
      go_ret
      exact ⟨bret_int HFIN.out, hbel⟩
    · obtain ⟨v, hv⟩ : ∃ v, vs.getD k vw0 = v := ⟨_, rfl⟩
      obtain ⟨c0, c1, c2⟩ := HC.out k hlt2
      have hvo := HVO.out k hlt2
      rw [hv] at c0 c1 c2 hvo
      rw [← hbel.cell (p := ⟨b, off + k * 3, none⟩) hlt] at c0
      rw [← hbel.cell (p := ⟨b, off + k * 3 + 1, none⟩) hlt] at c1
      rw [← hbel.cell (p := ⟨b, off + k * 3 + 2, none⟩) hlt] at c2
      have hb1 := HWB.out k (by omega)
      rw [HS.out] at hb1
      obtain ⟨s0, s1⟩ := hb1
      have hq := tkQ_bd hvo HOK.out
      have HST : Hid (worthTo rs vs (k + 1) = S + tkQ v rs) := Lib.hid (by rw [worthTo, HS.out, hv])
      obtain ⟨Q, hQ⟩ : ∃ Q, tkQ v rs = Q := ⟨_, rfl⟩
      rw [hQ] at hq HST
      obtain ⟨q0, q1⟩ := hq
      have HTKV := Lib.hid (HTK.out v)
      have TV := Thr.new wr v 25
      have hbel := hbel.alloc (o := .cells #[.int .i64 v.ra, .int .i64 v.he, .int .i64 v.wt] 25) hbel.size
      have HQ := Lib.hid hQ
      clear hv hQ hvo
      go_upto_region 5 with fail
      generalize wr.alloc (.cells #[.int .i64 v.ra, .int .i64 v.he, .int .i64 v.wt] 25) = W at *
      generalize wr.heap.size = VX at *
      have d0 := TV.c0; have d1 := TV.c1; have d2 := TV.c2; have dl := TV.lt
      clear c0 c1 c2
      go_wp2_with fail
      refine (HTKV.out _ hbel).mono ?_; rintro e w3 ⟨rfl, b3⟩
      have TV := TV.below b3 TV.lt
      have hbel := hbel.trans (b3.mono hbel.size)
      have d2 := TV.c2
      have hkI : IntKind.i64.wrap ((k : Int) + 1) = (k : Int) + 1 := IntWalk.i64_in _ ⟨by omega, by omega⟩
      obtain ⟨D, hD⟩ : ∃ D, tkB v rs = D := ⟨_, rfl⟩
      have HD := Lib.hid hD
      clear hD b3 d0 d1
      cases D
      · have HN : Hid (worthTo rs vs (k + 1) = S) := Lib.hid (by rw [HST.out, ← HQ.out, tk_none HD.out]; omega)
        rw [(rtk_cases v rs).2 HD.out]
        go_wp2_with fail
        go_roundw
        case rel => exact ⟨k + 1, S, by omega, by go_num, rfl, HN, hbel⟩
        case measure => simp [intOf]; omega
      · obtain ⟨hN1, hN2⟩ := tk_some HD.out
        rw [(rtk_cases v rs).1 HD.out]
        obtain ⟨N, hN⟩ : ∃ N, tkN v rs = N := ⟨_, rfl⟩
        rw [hN] at hN1 hN2
        obtain ⟨b', off', cap', rfl, hlt', hl', hm'⟩ := HSP.out (by omega)
        obtain ⟨-, -, -, c3⟩ := HU.out.cells N hN1
        rw [← hbel.cell (p := ⟨b', off' + N * 4 + 3, none⟩) hlt'] at c3
        obtain ⟨y, hy⟩ : ∃ y, (rs.getD N rung0).qu = y := ⟨_, rfl⟩
        rw [hy] at hN2 c3
        have eQ : v.wt * y = Q := by rw [← hN2, HQ.out]
        have hwM : IntKind.i64.wrap (v.wt * y) = Q := by rw [eQ]; exact IntWalk.i64_in _ ⟨by omega, by omega⟩
        have hwS : IntKind.i64.wrap (S + Q) = S + Q := IntWalk.i64_in _ ⟨by omega, by omega⟩
        have i0 : (0 : Int) ≤ (N : Int) := by omega
        have i1 : (N : Int) < (rs.length : Int) := by omega
        have HEQ := Lib.hid eQ
        rw [hN]
        clear eQ hN2 hN hy
        go_upto_region 7 with fail
        go_quiet (fail)
        go_wp2_with fail
        go_roundw
        case rel => exact ⟨k + 1, S + Q, by omega, by go_num, rfl, HST, below_drewN hbel nq⟩
        case measure => simp [intOf]; omega
theorem rworth_nobody (u : Value) (a : Option Addr) (cap : Nat) (w : World) :
    Calls Try.prog 54 #[u, .slice a 0 cap] w fun e w' => e = .returned (.int .i64 0) ∧ w = w' := by
  go_enter Try.func54, Try.ntmps54
  go_wp2_with fail
  refine wp_loop_rounds 1 ?_
  rw [rounds_succ]
  go_wp2_with fail
  go_ret
  exact ⟨rfl, rfl⟩
theorem rworth_ok (u v : Value) (rs : List Rung) (vs : List Vw) (w : World) (hu : Rungs w u rs) (hv : Vws w v vs) (h0 : woF rs vs = 0) :
    Calls Try.prog 54 #[u, v] w fun e w' => e = .returned (.int .i64 (worthTo rs vs vs.length)) ∧ Below w.heap.size w w' := by
  obtain ⟨hr0, hc0⟩ := fst2_zero h0
  have hok := (rgF_zero rs).1 hr0
  obtain ⟨hn2, hvo⟩ := cwF_zero hc0
  by_cases h1 : vs.length = 0
  · have : vs = [] := List.length_eq_zero_iff.1 h1
    subst this
    obtain ⟨a, cap, rfl⟩ := hv.parts
    refine (rworth_nobody u a cap w).mono ?_
    rintro e w' ⟨rfl, rfl⟩
    exact ⟨rfl, Below.refl _ _⟩
  · obtain ⟨b, off, cap, rfl, hlt, hl, hm⟩ := hv.spot (by omega)
    exact rworth_walk u b off vs.length cap rs vs w rfl (by omega) hlt hl hm hu hv hok hn2 hvo
theorem rWorth_any (u v : Value) (rs : List Rung) (vs : List Vw) (w : World) (hu : Rungs w u rs) (hv : Vws w v vs) (hwf : ∀ y ∈ rs, y.nm.size ≤ maxLen) :
    Calls Try.prog 18 #[u, v] w fun e w' => e = .returned (.tuple #[.int .i64 (woX rs vs), .int .i64 (woF rs vs)]) ∧ Below w.heap.size w w' := by
  have HB := Lib.hid (both_any u v rs vs w hu hv hwf)
  have HW : Hid (woF rs vs = 0 → ∀ W, Below w.heap.size w W → Calls Try.prog 54 #[u, v] W fun e w' => e = .returned (.int .i64 (woX rs vs)) ∧ Below W.heap.size W w') := Lib.hid (fun h W hb => by
    rw [woX, if_pos h]
    exact rworth_ok u v rs vs W (hu.below hb (Nat.le_refl _)) (hv.below hb (Nat.le_refl _)) h)
  have HX : Hid (woF rs vs ≠ 0 → woX rs vs = 0) := Lib.hid (fun h => by rw [woX, if_neg h])
  obtain ⟨X, hX⟩ : ∃ X, woX rs vs = X := ⟨_, rfl⟩
  obtain ⟨F, hF⟩ : ∃ F, woF rs vs = F := ⟨_, rfl⟩
  rw [hX, hF] at HW HX ⊢
  rw [hF] at HB
  clear hX hF hu hv hwf
  by_cases h0 : F = 0
  · subst h0
    have HWW := Lib.hid (HW.out rfl)
    go_enter Try.func18, Try.ntmps18
    go_wp2_with fail
    refine HB.out.mono ?_; rintro e w1 ⟨rfl, b1⟩
    go_wp2_with fail
    refine (HWW.out _ b1).mono ?_; rintro e w2 ⟨rfl, b2⟩
    go_wp2_with fail
    go_ret2
    exact ⟨rfl, b1.trans (b2.mono b1.size)⟩
  · have e := HX.out h0
    subst e
    have hne : (F == 0) = false := by simp; exact h0
    have hne2 : (F != 0) = true := by simp; exact h0
    clear h0
    go_enter Try.func18, Try.ntmps18
    go_wp2_with fail
    refine HB.out.mono ?_; rintro e w1 ⟨rfl, b1⟩
    go_wp2_with fail
    go_ret2
    exact ⟨rfl, b1⟩

end Go.Proofs.Ytfjgpafcdkodmaa
