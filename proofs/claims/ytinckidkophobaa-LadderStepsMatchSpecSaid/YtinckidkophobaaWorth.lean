/- Takes, Worth (program). -/
import Derived.Test.YtinckidkophobaaTakenBy
namespace Go.Proofs.Ytinckidkophobaa
set_option linter.unusedVariables false
set_option linter.unusedSimpArgs false
open Go.RowKit Go.Shelf Go.Deep

theorem bfirst2 (f0 f1 : Int) (w : World) :
    Calls Try.prog 26 #[.slice (some ⟨w.heap.size, 0, none⟩) 2 2] (w.alloc (.cells #[.int .i64 f0, .int .i64 f1] 26)) fun e w' => e = .returned (.int .i64 (fstF [f0, f1])) ∧ w.alloc (.cells #[.int .i64 f0, .int .i64 f1] 26) = w' := by
  refine bfirst_any w.heap.size 0 2 2 [f0, f1] _ rfl (by omega) fun j hj => ?_
  rw [World.cell?_alloc_at _ _ _ _ (by simp)]
  match j, hj with
  | 0, _ => rfl
  | 1, _ => rfl
/-- One viewer in a slice of its own. -/
theorem vws_one (w : World) (v : Vw) : Vws (w.alloc (.cells #[.int .i64 v.ra, .int .i64 v.he, .int .i64 v.wt] 61)) (.slice (some ⟨w.heap.size, 0, none⟩) 1 1) [v] := by
  refine .inr ⟨w.heap.size, 0, 1, rfl, by simp, by simp, by simp, by unfold maxLen; omega, fun j hj c hc => ?_⟩
  have e : j = 0 := by simpa using hj
  subst e
  rw [World.cell?_alloc_at _ _ _ _ (by simp)]
  have : c = 0 ∨ c = 1 ∨ c = 2 := by omega
  rcases this with rfl | rfl | rfl <;> rfl
def woF (rs : List Rung) (vs : List Vw) : Int := fstF [rgF rs, cwF vs]
def woX (rs : List Rung) (vs : List Vw) : Int := if woF rs vs = 0 then worthTo rs vs vs.length else 0
def taX (rs : List Rung) (v : Vw) : Int := if woF rs [v] = 0 then (tkN v rs : Int) else 0
def taB (rs : List Rung) (v : Vw) : Bool := if woF rs [v] = 0 then tkB v rs else false
theorem fst2_zero {a b : Int} (h : fstF [a, b] = 0) : a = 0 ∧ b = 0 := by
  rw [fstF_zero] at h
  exact ⟨h a (by simp), h b (by simp)⟩
theorem tk_some {v : Vw} {rs : List Rung} (h : tkB v rs = true) : tkN v rs < rs.length ∧ tkQ v rs = v.wt * (rs.getD (tkN v rs) rung0).qu := by
  unfold tkB at h
  obtain ⟨i, hi⟩ := Option.isSome_iff_exists.1 h
  have := tkI_lt v rs _ _ hi
  rw [tkN, tkQ, hi]
  exact ⟨this, rfl⟩
theorem tk_none {v : Vw} {rs : List Rung} (h : tkB v rs = false) : tkQ v rs = 0 := by
  unfold tkB at h
  rw [Option.isSome_eq_false_iff, Option.isNone_iff_eq_none] at h
  rw [tkQ, h]
theorem ret3_nbn {a b c d : Int} {p q : Bool} (h : a = b) (h2 : p = q) (h3 : c = d) : Ending.returned (.tuple #[.int .i64 a, .bool p, .int .i64 c]) = .returned (.tuple #[.int .i64 b, .bool q, .int .i64 d]) := by rw [h, h2, h3]
theorem ret2_nn {a b c d : Int} (h : a = b) (h3 : c = d) : Ending.returned (.tuple #[.int .i64 a, .int .i64 c]) = .returned (.tuple #[.int .i64 b, .int .i64 d]) := by rw [h, h3]
set_option maxRecDepth 100000 in
set_option maxHeartbeats 8000000 in
theorem worth_walk (u : Value) (b off n cap : Nat) (rs : List Rung) (vs : List Vw) (w : World) (hz : vs.length = n) (hn0 : 0 < n) (hlt : b < w.heap.size) (hcap : n ≤ cap) (hcm : cap ≤ maxLen) (hu : Rungs w u rs) (hv : Vws w (.slice (some ⟨b, off, none⟩) n cap) vs) (hwf : ∀ y ∈ rs, y.nm.size ≤ maxLen) (h0 : woF rs vs = 0) :
    Calls Try.prog 17 #[u, .slice (some ⟨b, off, none⟩) n cap] w fun e w' => e = .returned (.tuple #[.int .i64 (worthTo rs vs n), .int .i64 0]) ∧ Below w.heap.size w w' := by
  obtain ⟨hr0, hc0⟩ := fst2_zero h0
  have hok := (rgF_zero rs).1 hr0
  obtain ⟨hn2, hvo⟩ := cwF_zero hc0
  rw [hz] at hn2
  have HC := Lib.hid (fun j (hj : j < n) => hv.cells j (by omega))
  have HVO : Hid (∀ j, j < n → vwOk (vs.getD j vw0)) := Lib.hid (fun j hj => hvo j (by omega))
  have HU := Lib.hid hu
  have HVV := Lib.hid hv
  have HOK := Lib.hid hok
  have HCH := Lib.hid (chkr_any u rs w hu hwf)
  rw [hr0] at HCH
  have HCW : Hid (∀ W, Below w.heap.size w W → Calls Try.prog 49 #[.slice (some ⟨b, off, none⟩) n cap] W fun e w' => e = .returned (.int .i64 0) ∧ Below W.heap.size W w') := Lib.hid (fun W hb => by rw [← hc0]; exact crowd_any _ vs W (hv.below hb (Nat.le_refl _)))
  have HTK : Hid (∀ (v : Vw) W, Below w.heap.size w W → Calls Try.prog 50 #[.agg #[.int .i64 v.ra, .int .i64 v.he, .int .i64 v.wt], u] W fun e w' => e = .returned (.tuple #[.int .i64 (tkN v rs : Nat), .bool (tkB v rs)]) ∧ Below W.heap.size W w') := Lib.hid (fun v W hb => taken_any v u rs W (hu.below hb (Nat.le_refl _)) hok.len)
  have HWB : Hid (∀ k, k ≤ n → 0 ≤ worthTo rs vs k ∧ worthTo rs vs k ≤ 1000000000000 * k) := Lib.hid (fun k hk => worthTo_bd hok k (by omega) hvo)
  have HSP := Lib.hid hu.spot
  have HPA := Lib.hid hu.parts
  unfold maxLen at hcm
  clear hu hv hok hvo hr0 hc0 h0 hwf hz
  go_enter Try.func17, Try.ntmps17
  go_wp2_with fail
  refine HCH.out.mono ?_; rintro e w1 ⟨rfl, b1⟩
  go_wp2_with fail
  refine (HCW.out _ b1).mono ?_; rintro e w2 ⟨rfl, b2⟩
  have bb := b1.trans (b2.mono b1.size)
  go_wp2_with fail
  refine (bfirst2 _ _ _).mono ?_; rintro e w' ⟨rfl, rfl⟩
  have e0 : fstF [0, 0] = 0 := rfl
  rw [e0]
  have bb := bb.alloc (o := .cells #[.int .i64 0, .int .i64 0] 26) bb.size
  go_wp2_with fail
  generalize w2.alloc (.cells #[.int .i64 0, .int .i64 0] 26) = W2 at *
  clear b1 b2 HCH HCW e0
  go_loopw [7, 23] (fun v7 vv wr => ∃ (k : Nat) (S : Int), k ≤ n ∧ vv = .int .i64 k ∧ v7 = .int .i64 S ∧ Hid (worthTo rs vs k = S) ∧ Below w.heap.size w wr) (fun _ vv _ => n - (intOf vv).toNat)
  case atStart => exact ⟨0, 0, by omega, rfl, rfl, Lib.hid rfl, bb⟩
  case round =>
    obtain ⟨k, S, hk, rfl, rfl, HS, hbel⟩ := hrel
    by_cases hlt2 : k < n
    rotate_left
    · have hkn : k = n := by omega
      have HFIN : Hid (S = worthTo rs vs n) := Lib.hid (by rw [← HS.out, hkn])
      have hlt' : decide (k < n) = false := by simp; omega
      clear hlt2 hkn
      go_wp2_with fail
      go_ret2
      exact ⟨ret2_nn HFIN.out rfl, hbel⟩
    · obtain ⟨v, hv⟩ : ∃ v, vs.getD k vw0 = v := ⟨_, rfl⟩
      obtain ⟨c0, c1, c2⟩ := HC.out k hlt2
      have hvo := HVO.out k hlt2
      rw [hv] at c0 c1 c2 hvo
      rw [← hbel.cell (p := ⟨b, off + k * 3, none⟩) hlt] at c0
      rw [← hbel.cell (p := ⟨b, off + k * 3 + 1, none⟩) hlt] at c1
      rw [← hbel.cell (p := ⟨b, off + k * 3 + 2, none⟩) hlt] at c2
      have hb1 := HWB.out k (by omega)
      rw [HS.out] at hb1
      obtain ⟨s0, s1⟩ := hb1
      have hq := tkQ_bd hvo HOK.out
      have HST : Hid (worthTo rs vs (k + 1) = S + tkQ v rs) := Lib.hid (by rw [worthTo, HS.out, hv])
      obtain ⟨Q, hQ⟩ : ∃ Q, tkQ v rs = Q := ⟨_, rfl⟩
      rw [hQ] at hq HST
      obtain ⟨q0, q1⟩ := hq
      have HTKV := Lib.hid (HTK.out v)
      have TV := Thr.new wr v 61
      have hbel := hbel.alloc (o := .cells #[.int .i64 v.ra, .int .i64 v.he, .int .i64 v.wt] 61) hbel.size
      have HQ := Lib.hid hQ
      clear hv hQ hvo
      go_upto_region 8 with fail
      generalize wr.alloc (.cells #[.int .i64 v.ra, .int .i64 v.he, .int .i64 v.wt] 61) = W at *
      generalize wr.heap.size = VX at *
      have d0 := TV.c0; have d1 := TV.c1; have d2 := TV.c2; have dl := TV.lt
      clear c0 c1 c2
      go_wp2_with fail
      refine (HTKV.out _ hbel).mono ?_; rintro e w3 ⟨rfl, b3⟩
      have TV := TV.below b3 TV.lt
      have hbel := hbel.trans (b3.mono hbel.size)
      have d2 := TV.c2
      have hkI : IntKind.i64.wrap ((k : Int) + 1) = (k : Int) + 1 := IntWalk.i64_in _ ⟨by omega, by omega⟩
      obtain ⟨D, hD⟩ : ∃ D, tkB v rs = D := ⟨_, rfl⟩
      have HD := Lib.hid hD
      rw [hD]
      clear hD b3 d0 d1
      cases D
      · have HN : Hid (worthTo rs vs (k + 1) = S) := Lib.hid (by rw [HST.out, ← HQ.out, tk_none HD.out]; omega)
        go_wp2_with fail
        go_roundw
        case rel => exact ⟨k + 1, S, by omega, by go_num, rfl, HN, hbel⟩
        case measure => simp [intOf]; omega
      · obtain ⟨hN1, hN2⟩ := tk_some HD.out
        obtain ⟨N, hN⟩ : ∃ N, tkN v rs = N := ⟨_, rfl⟩
        rw [hN] at hN1 hN2
        obtain ⟨b', off', cap', rfl, hlt', hl', hm'⟩ := HSP.out (by omega)
        obtain ⟨-, -, -, c3⟩ := HU.out.cells N hN1
        rw [← hbel.cell (p := ⟨b', off' + N * 4 + 3, none⟩) hlt'] at c3
        obtain ⟨y, hy⟩ : ∃ y, (rs.getD N rung0).qu = y := ⟨_, rfl⟩
        rw [hy] at hN2 c3
        have eQ : v.wt * y = Q := by rw [← hN2, HQ.out]
        have hwM : IntKind.i64.wrap (v.wt * y) = Q := by rw [eQ]; exact IntWalk.i64_in _ ⟨by omega, by omega⟩
        have hwS : IntKind.i64.wrap (S + Q) = S + Q := IntWalk.i64_in _ ⟨by omega, by omega⟩
        have i0 : (0 : Int) ≤ (N : Int) := by omega
        have i1 : (N : Int) < (rs.length : Int) := by omega
        have HEQ := Lib.hid eQ
        rw [hN]
        clear eQ hN2 hN hy
        go_upto_region 10 with fail
        go_quiet (fail)
        go_wp2_with fail
        go_roundw
        case rel => exact ⟨k + 1, S + Q, by omega, by go_num, rfl, HST, below_drewN hbel nq⟩
        case measure => simp [intOf]; omega
theorem worth_nobody (u : Value) (rs : List Rung) (a : Option Addr) (cap : Nat) (w : World) (hu : Rungs w u rs) (hwf : ∀ y ∈ rs, y.nm.size ≤ maxLen) (h0 : woF rs [] = 0) :
    Calls Try.prog 17 #[u, .slice a 0 cap] w fun e w' => e = .returned (.tuple #[.int .i64 0, .int .i64 0]) ∧ Below w.heap.size w w' := by
  obtain ⟨hr0, hc0⟩ := fst2_zero h0
  have HCH := Lib.hid (chkr_any u rs w hu hwf)
  rw [hr0] at HCH
  have HCW : Hid (∀ W, Calls Try.prog 49 #[.slice a 0 cap] W fun e w' => e = .returned (.int .i64 0) ∧ W = w') := Lib.hid (fun W => crowd_none a cap W)
  clear hu hr0 hc0 h0 hwf
  go_enter Try.func17, Try.ntmps17
  go_wp2_with fail
  refine HCH.out.mono ?_; rintro e w1 ⟨rfl, b1⟩
  go_wp2_with fail
  refine (HCW.out _).mono ?_; rintro e w2 ⟨rfl, rfl⟩
  go_wp2_with fail
  refine (bfirst2 _ _ _).mono ?_; rintro e w' ⟨rfl, rfl⟩
  have e0 : fstF [0, 0] = 0 := rfl
  rw [e0]
  go_wp2_with fail
  refine wp_loop_rounds 1 ?_
  rw [rounds_succ]
  go_wp2_with fail
  go_ret2
  exact ⟨rfl, b1.alloc b1.size _⟩
theorem worth_fault (u v : Value) (rs : List Rung) (vs : List Vw) (w : World) (hu : Rungs w u rs) (hv : Vws w v vs) (hwf : ∀ y ∈ rs, y.nm.size ≤ maxLen) (h0 : woF rs vs ≠ 0) :
    Calls Try.prog 17 #[u, v] w fun e w' => e = .returned (.tuple #[.int .i64 0, .int .i64 (woF rs vs)]) ∧ Below w.heap.size w w' := by
  have HCH := Lib.hid (chkr_any u rs w hu hwf)
  have HCW : Hid (∀ W, Below w.heap.size w W → Calls Try.prog 49 #[v] W fun e w' => e = .returned (.int .i64 (cwF vs)) ∧ Below W.heap.size W w') := Lib.hid (fun W hb => crowd_any _ vs W (hv.below hb (Nat.le_refl _)))
  have HF : Hid (fstF [rgF rs, cwF vs] = woF rs vs) := Lib.hid rfl
  obtain ⟨F, hF⟩ : ∃ F, woF rs vs = F := ⟨_, rfl⟩
  rw [hF] at HF h0 ⊢
  have hne : (F == 0) = false := by simp; exact h0
  have hne2 : (F != 0) = true := by simp; exact h0
  clear hu hv hwf h0 hF
  go_enter Try.func17, Try.ntmps17
  go_wp2_with fail
  refine HCH.out.mono ?_; rintro e w1 ⟨rfl, b1⟩
  go_wp2_with fail
  refine (HCW.out _ b1).mono ?_; rintro e w2 ⟨rfl, b2⟩
  have bb := b1.trans (b2.mono b1.size)
  go_wp2_with fail
  refine (bfirst2 _ _ _).mono ?_; rintro e w' ⟨rfl, rfl⟩
  rw [HF.out]
  go_wp2_with fail
  go_ret2
  exact ⟨rfl, bb.alloc bb.size _⟩
theorem worth_any (u v : Value) (rs : List Rung) (vs : List Vw) (w : World) (hu : Rungs w u rs) (hv : Vws w v vs) (hwf : ∀ y ∈ rs, y.nm.size ≤ maxLen) :
    Calls Try.prog 17 #[u, v] w fun e w' => e = .returned (.tuple #[.int .i64 (woX rs vs), .int .i64 (woF rs vs)]) ∧ Below w.heap.size w w' := by
  by_cases h0 : woF rs vs = 0
  · rw [woX, if_pos h0, h0]
    by_cases h1 : vs.length = 0
    · have : vs = [] := List.length_eq_zero_iff.1 h1
      subst this
      obtain ⟨a, cap, rfl⟩ := hv.parts
      exact worth_nobody u rs a cap w hu hwf h0
    · obtain ⟨b, off, cap, rfl, hlt, hl, hm⟩ := hv.spot (by omega)
      exact worth_walk u b off vs.length cap rs vs w rfl (by omega) hlt hl hm hu hv hwf h0
  · rw [woX, if_neg h0]
    exact worth_fault u v rs vs w hu hv hwf h0

end Go.Proofs.Ytinckidkophobaa
