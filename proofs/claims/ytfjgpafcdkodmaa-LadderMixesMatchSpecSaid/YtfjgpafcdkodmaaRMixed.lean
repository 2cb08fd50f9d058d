/- The reference's less, Mixed; LadderMixesMatchSpec. -/
import Derived.Test.YtfjgpafcdkodmaaMixPlain2
import Derived.Test.YtfjgpafcdkodmaaOnHull
import Derived.Test.YtfjgpafcdkodmaaMixed
import Derived.Test.YtfjgpafcdkodmaaRChkR
namespace Go.Proofs.Ytfjgpafcdkodmaa
set_option linter.unusedVariables false
set_option linter.unusedSimpArgs false
open Go.RowKit Go.Shelf Go.Deep

theorem quo_all {a b : Int} (h0 : 0 ≤ a) (h1 : a ≤ 9223372036854775807) (hb : 0 < b) : 0 ≤ a / b ∧ a / b ≤ a ∧ IntKind.i64.wrap (a / b) = a / b ∧ IntKind.i64.wrap (a.tdiv b) = a / b := by
  have q := div_nn hb h0
  rw [tdiv_pos _ _ h0]
  exact ⟨q.1, q.2, IntWalk.i64_in _ ⟨by omega, by omega⟩, IntWalk.i64_in _ ⟨by omega, by omega⟩⟩
set_option maxRecDepth 100000 in
set_option maxHeartbeats 4000000 in
theorem rless_any (a b c d : Int) (w : World) (a0 : 0 ≤ a) (a1 : a ≤ 2000000000000000) (b0 : 0 < b) (b1 : b ≤ 1000000000) (c0 : 0 ≤ c) (c1 : c ≤ 2000000000000000) (d0 : 0 < d) (d1 : d ≤ 1000000000) :
    Calls Try.prog 75 #[.agg #[.int .i64 a, .int .i64 b], .agg #[.int .i64 c, .int .i64 d]] w fun e w' => e = .returned (.bool (decide (a * d < c * b))) ∧ Below w.heap.size w w' := by
  have hw := less_whole (a := a) (b := b) (c := c) (d := d) b0 d0
  have hr := less_rest (a := a) (b := b) (c := c) (d := d)
  obtain ⟨p0, p1, wp, wp'⟩ := quo_all a0 (by omega) b0
  obtain ⟨q0, q1, wq, wq'⟩ := quo_all c0 (by omega) d0
  obtain ⟨p, hp⟩ : ∃ p, a / b = p := ⟨_, rfl⟩
  obtain ⟨q, hq⟩ : ∃ q, c / d = q := ⟨_, rfl⟩
  rw [hp] at p0 p1 wp wp' hw hr
  rw [hq] at q0 q1 wq wq' hw hr
  obtain ⟨m0, m1, m2⟩ := gcd_rest b0 a0
  obtain ⟨n0, n1, n2⟩ := gcd_rest d0 c0
  obtain ⟨M1, hM1⟩ : ∃ M1, a % b * d = M1 := ⟨_, rfl⟩
  obtain ⟨M2, hM2⟩ : ∃ M2, c % d * b = M2 := ⟨_, rfl⟩
  have bm1 := mul_range (x := a % b) (y := d) (a := 1000000000) (b := 1000000000) m0 (by omega) (by omega) d1
  have bm2 := mul_range (x := c % d) (y := b) (a := 1000000000) (b := 1000000000) n0 (by omega) (by omega) b1
  rw [hM1] at bm1 hr
  rw [hM2] at bm2 hr
  obtain ⟨x0, x1⟩ := bm1
  obtain ⟨y0, y1⟩ := bm2
  have w1 : IntKind.i64.wrap (a % b * d) = M1 := by rw [hM1]; exact IntWalk.i64_in _ ⟨by omega, by omega⟩
  have w2 : IntKind.i64.wrap (c % d * b) = M2 := by rw [hM2]; exact IntWalk.i64_in _ ⟨by omega, by omega⟩
  obtain ⟨D, hD⟩ : ∃ D, decide (a * d < c * b) = D := ⟨_, rfl⟩
  have HW : Hid (p ≠ q → D = decide (p < q)) := Lib.hid (fun h => by rw [← hD]; exact hw h)
  have HR : Hid (p = q → D = decide (M1 < M2)) := Lib.hid (fun h => by rw [← hD]; exact decide_eq_decide.2 (hr h))
  rw [hD]
  have T2 := (Two.new w a b 49).alloc (.cells #[.int .i64 c, .int .i64 d] 49)
  have T3 := Two.new (w.alloc (.cells #[.int .i64 a, .int .i64 b] 49)) c d 49
  have hs1 : (w.alloc (.cells #[.int .i64 a, .int .i64 b] 49)).heap.size = w.heap.size + 1 := by simp
  rw [hs1] at T3
  have hbel : Below w.heap.size w ((w.alloc (.cells #[.int .i64 a, .int .i64 b] 49)).alloc (.cells #[.int .i64 c, .int .i64 d] 49)) := ((Below.refl _ w).alloc (Nat.le_refl _) _).alloc (by simp) _
  have bz : (b == 0) = false := by simp; omega
  have dz : (d == 0) = false := by simp; omega
  clear hw hr hp hq hM1 hM2 hD hs1
  go_enter Try.func75, Try.ntmps75
  go_upto_region 1 with fail
  generalize (w.alloc (.cells #[.int .i64 a, .int .i64 b] 49)).alloc (.cells #[.int .i64 c, .int .i64 d] 49) = W at *
  have k0 := T2.c0; have k1 := T2.c1; have l0 := T3.c0; have l1 := T3.c1
  go_quiet (fail)
  have hbel := below_drewN hbel nq
  have T2 := T2.drewN nq
  have T3 := T3.drewN nq
  clear k0 k1 l0 l1
  generalize W.drewN nq = W1 at *
  clear nq
  have k0 := T2.c0; have k1 := T2.c1; have l0 := T3.c0; have l1 := T3.c1
  by_cases he : p = q
  · have e := HR.out he
    subst he
    have pz : (p == p) = true := by simp
    have pz2 : (p != p) = false := by simp
    have E := Lib.hid e
    clear wp wp' wq wq' e
    go_upto_region 4 with fail
    go_quiet (fail)
    go_wp2_with fail
    go_ret
    exact ⟨bret_bool E.out.symm, below_drewN hbel nq⟩
  · have e := HW.out he
    have pz : (p == q) = false := by simp; omega
    have pz2 : (p != q) = true := by simp; omega
    have E := Lib.hid e
    clear he e
    go_wp2_with fail
    go_ret
    exact ⟨bret_bool E.out.symm, hbel⟩
set_option maxRecDepth 100000 in
set_option maxHeartbeats 4000000 in
theorem rless_first (c d : Int) (w : World) (c0 : 0 ≤ c) (c1 : c ≤ 2000000000000000) (d0 : 0 < d) (d1 : d ≤ 1000000000) :
    Calls Try.prog 75 #[.agg #[.int .i64 (-1), .int .i64 1], .agg #[.int .i64 c, .int .i64 d]] w fun e w' => e = .returned (.bool true) ∧ Below w.heap.size w w' := by
  obtain ⟨q0, q1, wq, wq'⟩ := quo_all c0 (by omega) d0
  obtain ⟨q, hq⟩ : ∃ q, c / d = q := ⟨_, rfl⟩
  rw [hq] at q0 q1 wq wq'
  have T2 := (Two.new w (-1) 1 49).alloc (.cells #[.int .i64 c, .int .i64 d] 49)
  have T3 := Two.new (w.alloc (.cells #[.int .i64 (-1), .int .i64 1] 49)) c d 49
  have hs1 : (w.alloc (.cells #[.int .i64 (-1), .int .i64 1] 49)).heap.size = w.heap.size + 1 := by simp
  rw [hs1] at T3
  have hbel : Below w.heap.size w ((w.alloc (.cells #[.int .i64 (-1), .int .i64 1] 49)).alloc (.cells #[.int .i64 c, .int .i64 d] 49)) := ((Below.refl _ w).alloc (Nat.le_refl _) _).alloc (by simp) _
  have dz : (d == 0) = false := by simp; omega
  clear hq hs1
  go_enter Try.func75, Try.ntmps75
  go_upto_region 1 with fail
  generalize (w.alloc (.cells #[.int .i64 (-1), .int .i64 1] 49)).alloc (.cells #[.int .i64 c, .int .i64 d] 49) = W at *
  have k0 := T2.c0; have k1 := T2.c1; have l0 := T3.c0; have l1 := T3.c1
  go_quiet (fail)
  have hbel := below_drewN hbel nq
  clear k0 k1 l0 l1
  generalize W.drewN nq = W1 at *
  have pz : ((-1 : Int) == q) = false := by simp; omega
  have pz2 : ((-1 : Int) != q) = true := by simp; omega
  have pl : (-1 : Int) < q := by omega
  go_wp2_with fail
  go_ret
  exact ⟨rfl, hbel⟩
/-- The best one so far: none, or one in lowest terms. -/
def BestOk (rs : List Rung) (q p d : Int) : Prop := (p = -1 ∧ d = 1) ∨ Cand rs q p d
theorem rless_best {rs : List Rung} {q p d x y : Int} (hok : ∀ i, i < rs.length → OkR (rs.getD i rung0)) (hp : BestOk rs q p d) (hx : CandOk x y) (w : World) :
    Calls Try.prog 75 #[.agg #[.int .i64 p, .int .i64 d], .agg #[.int .i64 x, .int .i64 y]] w fun e w' => e = .returned (.bool (decide (p * y < x * d))) ∧ Below w.heap.size w w' := by
  rcases hp with ⟨rfl, rfl⟩ | h
  · have e : decide (-1 * y < x * 1) = true := by have := hx.x0; have := hx.y0; exact decide_eq_true (by omega)
    rw [e]
    exact rless_first x y w hx.x0 hx.x1 hx.y0 hx.y1
  · have g := cand_ok hok h
    exact rless_any p d x y w g.x0 g.x1 g.y0 g.y1 hx.x0 hx.x1 hx.y0 hx.y1
def DomT (p d p' d' : Int) : Prop := ∀ x y : Int, 0 < y → x * d ≤ p * y → x * d' ≤ p' * y
theorem domT_refl (p d : Int) : DomT p d p d := fun _ _ _ h => h
theorem domT_up {p d x y : Int} (d0 : 0 < d) (y0 : 0 < y) (h : p * y ≤ x * d) : DomT p d x y := fun u v hv h2 => dom_trans hv d0 y0 h2 h
theorem seen_up {rs : List Rung} {q p d p' d' : Int} {a b : Nat} (hok : ∀ i, i < rs.length → OkR (rs.getD i rung0)) (ha : a < rs.length) (hb : b ≤ rs.length) (h : Seen rs q p d a b) (hd : DomT p d p' d') : Seen rs q p' d' a b := fun h1 => by
  obtain ⟨h2, h3⟩ := h h1
  refine ⟨?_, fun b' hb' h4 => ?_⟩
  · have := hd (rs.getD a rung0).qu 1 (by decide) (by omega); omega
  · exact hd _ _ (mix_ok (hok a ha) (hok b' (by omega)) h1 h4).y0 (h3 b' hb' h4)
theorem best_d {rs : List Rung} {q p d : Int} (hok : ∀ i, i < rs.length → OkR (rs.getD i rung0)) (hp : BestOk rs q p d) : 0 < d := by
  rcases hp with ⟨-, rfl⟩ | h
  · decide
  · exact (cand_ok hok h).y0
set_option maxRecDepth 100000 in
set_option maxHeartbeats 8000000 in
theorem rmixed_fault (u : Value) (rs : List Rung) (q : Int) (w : World) (hS : Rungs w u rs) (hwf : ∀ y ∈ rs, y.nm.size ≤ maxLen) (h0 : mxF rs q ≠ 0) :
    Calls Try.prog 34 #[u, .int .i64 q] w fun e w' => e = .returned (.tuple #[.agg #[.int .i64 0, .int .i64 0], .bool false, .int .i64 (mxF rs q)]) ∧ Below w.heap.size w w' := by
  have T4 := Two.new w 0 0 49
  have hb : Below w.heap.size w (w.alloc (.cells #[.int .i64 0, .int .i64 0] 49)) := (Below.refl _ w).alloc (Nat.le_refl _) _
  have HC : Hid (∀ W, Below w.heap.size w W → Calls Try.prog 26 #[u] W fun e w' => e = .returned (.int .i64 (rgF rs)) ∧ Below W.heap.size W w') := Lib.hid (fun W hb => rchkr_any _ rs W (hS.below hb (Nat.le_refl _)) hwf)
  obtain ⟨F, hF⟩ : ∃ F, mxF rs q = F := ⟨_, rfl⟩
  obtain ⟨G, hG⟩ : ∃ G, rgF rs = G := ⟨_, rfl⟩
  obtain ⟨R, hR⟩ : ∃ R, inB q 0 1000000000 = R := ⟨_, rfl⟩
  have HF : Hid ((G ≠ 0 → F = G) ∧ (G = 0 → R = false ∧ F = 1)) := Lib.hid (by
    rw [← hF, mxF, hG, hR]
    refine ⟨fun h => by simp [fstF, h], fun h => ?_⟩
    rw [mxF, hG, hR, h] at h0
    cases R
    · exact ⟨rfl, by rw [h]; rfl⟩
    · exact absurd rfl h0)
  have HR := Lib.hid hR
  rw [hF]
  rw [hG] at HC
  clear hF hG hR hS hwf h0
  go_enter Try.func34, Try.ntmps34
  go_upto_region 1 with fail
  generalize w.alloc (.cells #[.int .i64 0, .int .i64 0] 49) = W at *
  go_wp2_with fail
  refine (HC.out _ hb).mono ?_; rintro e w3 ⟨rfl, b3⟩
  have T4 := T4.below b3 T4.lt
  have hb := hb.trans (b3.mono hb.size)
  have c0 := T4.c0; have c1 := T4.c1; have f0 := T4.f0; have f1 := T4.f1; have cl := T4.lt
  by_cases hg : G = 0
  · obtain ⟨rfl, rfl⟩ := HF.out.2 hg
    subst hg
    go_wp2_with fail
    refine (rwithin5_any _ _ _ _).mono ?_; rintro e w' ⟨rfl, rfl⟩
    rw [HR.out]
    go_wp2_with fail
    refine bodyPost_ret (by simp [results, Try.results34, go_sem, c0, c1]; try rfl) rfl ?_
    exact ⟨rfl, (hb.setCell (p := ⟨w.heap.size, 0, none⟩) (Nat.le_refl _) _).setCell (p := ⟨w.heap.size, 1, none⟩) (Nat.le_refl _) _⟩
  · have e := HF.out.1 hg
    subst e
    have hne : (F == 0) = false := by simp; exact hg
    have hne2 : (F != 0) = true := by simp; exact hg
    clear hg
    go_wp2_with fail
    refine bodyPost_ret (by simp [results, Try.results34, go_sem, c0, c1]; try rfl) rfl ?_
    exact ⟨rfl, (hb.setCell (p := ⟨w.heap.size, 0, none⟩) (Nat.le_refl _) _).setCell (p := ⟨w.heap.size, 1, none⟩) (Nat.le_refl _) _⟩
set_option maxRecDepth 100000 in
set_option maxHeartbeats 16000000 in
theorem rmixed_walk (b off n cap : Nat) (rs : List Rung) (q X Y : Int) (B : Bool) (w : World) (hz : rs.length = n) (hn0 : 0 < n) (hlt : b < w.heap.size) (hS : Rungs w (.slice (some ⟨b, off, none⟩) n cap) rs) (hwf : ∀ y ∈ rs, y.nm.size ≤ maxLen) (h0 : mxF rs q = 0)
    (hon : OnOk rs (hullTo rs rs.length).length q (ntH rs (hullTo rs rs.length).length q) X Y B) :
    Calls Try.prog 34 #[.slice (some ⟨b, off, none⟩) n cap, .int .i64 q] w fun e w' => e = .returned (.tuple #[.agg #[.int .i64 X, .int .i64 Y], .bool B, .int .i64 0]) ∧ Below w.heap.size w w' := by
  obtain ⟨hr0, hq0⟩ := fst2_zero h0
  rw [fIf_zero (by decide), Bool.not_eq_false'] at hq0
  obtain ⟨q0, q1⟩ := inB_iff.1 hq0
  have hok := (rgF_zero rs).1 hr0
  have hn : n ≤ 100 := by rw [← hz]; exact hok.len
  have HFIN : Hid (∀ p d, BestOk rs q p d → (∀ a, a < n → Seen rs q p d a n) → (p < 0 → X = 0 ∧ Y = 0 ∧ B = false) ∧ (0 ≤ p → p = X ∧ d = Y ∧ B = true)) := Lib.hid (fun p d hp hs => mix_final hok hon hp (by rw [hz]; exact hs))
  have HOK : Hid (∀ i, i < rs.length → OkR (rs.getD i rung0)) := Lib.hid hok.ok
  have HZ := Lib.hid hz
  have HCE := Lib.hid (fun j (hj : j < n) => hS.cells j (by omega))
  have HC := Lib.hid (fun W (hb : Below w.heap.size w W) => rchkr_any _ rs W (hS.below hb (Nat.le_refl _)) hwf)
  rw [hr0] at HC
  have HQ := Lib.hid hq0
  have T4 := Two.new w 0 0 49
  have hb : Below w.heap.size w (w.alloc (.cells #[.int .i64 0, .int .i64 0] 49)) := (Below.refl _ w).alloc (Nat.le_refl _) _
  clear hz hS hwf h0 hon hok hr0 hq0
  go_enter Try.func34, Try.ntmps34
  go_upto_region 1 with fail
  generalize w.alloc (.cells #[.int .i64 0, .int .i64 0] 49) = W at *
  go_wp2_with fail
  refine (HC.out _ hb).mono ?_; rintro e w3 ⟨rfl, b3⟩
  have T4 := T4.below b3 T4.lt
  have hb := hb.trans (b3.mono hb.size)
  go_wp2_with fail
  refine (rwithin5_any _ _ _ _).mono ?_; rintro e w' ⟨rfl, rfl⟩
  rw [HQ.out]
  have T8 := Two.new w3 (-1) 1 49
  have hB8 : w.heap.size < w3.heap.size := T4.lt
  have T4 := T4.alloc (.cells #[.int .i64 (-1), .int .i64 1] 49)
  have hb := hb.alloc (o := .cells #[.int .i64 (-1), .int .i64 1] 49) hb.size
  go_upto_region 7 with fail
  generalize w3.alloc (.cells #[.int .i64 (-1), .int .i64 1] 49) = W7 at *
  generalize w3.heap.size = B8 at *
  clear b3 HC HQ
  go_wp2_with fail
  go_loopw [28] (fun v wr => ∃ (k : Nat) (p d : Int), k ≤ n ∧ v = .int .i64 k ∧ Two wr B8 p d ∧ Two wr w.heap.size 0 0 ∧ Below w.heap.size w wr ∧ Hid (BestOk rs q p d) ∧ Hid (∀ a, a < k → Seen rs q p d a n)) (fun v _ => n - (intOf v).toNat)
  case atStart => exact ⟨0, -1, 1, by omega, rfl, T8, T4, hb, Lib.hid (.inl ⟨rfl, rfl⟩), Lib.hid (fun a ha => by omega)⟩
  case round =>
    clear T8 T4 hb
    obtain ⟨k, p, d, hk, rfl, T8, T4, hbel, HP, HS⟩ := hrel
    by_cases hlt2 : k < n
    rotate_left
    · have hkn : k = n := by omega
      obtain ⟨f1, f2⟩ := HFIN.out p d HP.out (fun a ha => HS.out a (by omega))
      have hlt' : decide (k < n) = false := by simp; omega
      have a0 := T8.c0; have a1 := T8.c1; have al := T8.lt
      have c0 := T4.c0; have c1 := T4.c1; have g0 := T4.f0; have g1 := T4.f1; have cl := T4.lt
      clear hlt2 hkn
      by_cases hp : p < 0
      · obtain ⟨rfl, rfl, rfl⟩ := f1 hp
        clear f1 f2
        go_wp2_with fail
        refine bodyPost_ret (by simp [results, Try.results34, go_sem, c0, c1]; try rfl) rfl ?_
        exact ⟨rfl, (hbel.setCell (p := ⟨w.heap.size, 0, none⟩) (Nat.le_refl _) _).setCell (p := ⟨w.heap.size, 1, none⟩) (Nat.le_refl _) _⟩
      · obtain ⟨rfl, rfl, rfl⟩ := f2 (by omega)
        have hpd := decide_eq_false hp
        clear f1 f2 hp
        go_wp2_with fail
        refine bodyPost_ret (by simp [results, Try.results34, go_sem, c0, c1]; try rfl) rfl ?_
        exact ⟨rfl, (hbel.setCell (p := ⟨w.heap.size, 0, none⟩) (Nat.le_refl _) _).setCell (p := ⟨w.heap.size, 1, none⟩) (Nat.le_refl _) _⟩
    · obtain ⟨x, hx⟩ : ∃ x, rs.getD k rung0 = x := ⟨_, rfl⟩
      obtain ⟨c0, c1, c2, c3⟩ := HCE.out k hlt2
      have okx := HOK.out k (by rw [HZ.out]; exact hlt2)
      rw [hx] at c0 c1 c2 c3 okx
      rw [← hbel.cell (p := ⟨b, off + k * 4, none⟩) hlt] at c0
      rw [← hbel.cell (p := ⟨b, off + k * 4 + 1, none⟩) hlt] at c1
      rw [← hbel.cell (p := ⟨b, off + k * 4 + 2, none⟩) hlt] at c2
      rw [← hbel.cell (p := ⟨b, off + k * 4 + 3, none⟩) hlt] at c3
      have OKX := Lib.hid okx
      obtain ⟨-, ⟨xa0, xa1⟩, -, ⟨xq0, xq1⟩⟩ := okx
      have hkI : IntKind.i64.wrap ((k : Int) + 1) = (k : Int) + 1 := IntWalk.i64_in _ ⟨by omega, by omega⟩
      have hXs := T8.lt
      have FX := Four.new wr x 37
      have T8 := T8.alloc (.cells #[.string x.nm, .int .i64 x.ra, .int .i64 x.he, .int .i64 x.qu] 37)
      have T4 := T4.alloc (.cells #[.string x.nm, .int .i64 x.ra, .int .i64 x.he, .int .i64 x.qu] 37)
      have hbel := hbel.alloc (o := .cells #[.string x.nm, .int .i64 x.ra, .int .i64 x.he, .int .i64 x.qu] 37) hbel.size
      have HX := Lib.hid hx
      clear hx
      go_upto_region 10 with fail
      generalize wr.alloc (.cells #[.string x.nm, .int .i64 x.ra, .int .i64 x.he, .int .i64 x.qu] 37) = W at *
      generalize wr.heap.size = AX at *
      clear c0 c1 c2 c3
      have d1 := FX.c1; have d3 := FX.c3; have dl := FX.lt
      by_cases hra : x.ra ≤ q
      rotate_left
      · have hra2 : q < x.ra := by omega
        have HS2 : Hid (∀ a, a < k + 1 → Seen rs q p d a n) := Lib.hid (fun a ha => by
          by_cases e : a = k
          · subst e; intro h1; rw [HX.out] at h1; omega
          · exact HS.out a (by omega))
        clear hra
        go_wp2_with fail
        go_roundw
        case rel => exact ⟨k + 1, p, d, by omega, by go_num, T8, T4, hbel, HP, HS2⟩
        case measure => simp [intOf]; omega
      · have hrad : decide (q < x.ra) = false := by simp; omega
        have hc1 : CandOk x.qu 1 := ⟨xq0, by omega, by decide, by decide, by simp⟩
        have HCD : Hid (Cand rs q x.qu 1) := Lib.hid (.inl ⟨k, by rw [HZ.out]; exact hlt2, by rw [HX.out]; exact hra, by rw [HX.out], rfl⟩)
        have HL := Lib.hid (fun W => rless_best HOK.out HP.out hc1 W)
        have hd0 := best_d HOK.out HP.out
        clear hc1
        have TX := Two.new W x.qu 1 49
        have FX2 := FX.alloc (.cells #[.int .i64 x.qu, .int .i64 1] 49)
        have T82 := T8.alloc (.cells #[.int .i64 x.qu, .int .i64 1] 49)
        have T42 := T4.alloc (.cells #[.int .i64 x.qu, .int .i64 1] 49)
        have hbel2 := hbel.alloc (o := .cells #[.int .i64 x.qu, .int .i64 1] 49) hbel.size
        have hWX := T8.lt
        have hAX := FX.lt
        go_upto_region 12 with fail
        clear d1 d3 dl FX T8 T4 hbel
        generalize W.alloc (.cells #[.int .i64 x.qu, .int .i64 1] 49) = W2 at *
        generalize W.heap.size = XB at *
        have e0 := T82.c0; have e1 := T82.c1; have e2 := T82.lt
        have g0 := TX.c0; have g1 := TX.c1; have g2 := TX.lt
        go_wp2_with fail
        refine (HL.out _).mono ?_; rintro e w4 ⟨rfl, b4⟩
        have T83 := T82.below b4 T82.lt
        have T43 := T42.below b4 T42.lt
        have TX3 := TX.below b4 TX.lt
        have FX3 := FX2.below b4 FX2.lt
        have hbel3 := hbel2.trans (b4.mono hbel2.size)
        clear e0 e1 e2 g0 g1 g2 b4
        obtain ⟨L1, hL1⟩ : ∃ L1, decide (p * 1 < x.qu * d) = L1 := ⟨_, rfl⟩
        rw [hL1]
        have HL1 := Lib.hid hL1
        clear hL1
        go_upto_if 41 with fail
        go_cut [42] from 42 to 42 (fun _ wx => ∃ p' d', Two wx B8 p' d' ∧ Two wx w.heap.size 0 0 ∧ Four wx AX x ∧ Below w.heap.size w wx ∧ Hid (BestOk rs q p' d') ∧ Hid (x.qu * d' ≤ p') ∧ Hid (DomT p d p' d'))
        case first =>
          have e0 := T83.c0; have e1 := T83.c1; have e2 := T83.lt; have e3 := T83.f0; have e4 := T83.f1
          have g0 := TX3.c0; have g1 := TX3.c1; have g2 := TX3.lt
          cases L1
          rotate_left
          · have hlt4 := of_decide_eq_true HL1.out
            have HB2 : Hid (BestOk rs q x.qu 1) := Lib.hid (.inr HCD.out)
            have HD2 : Hid (DomT p d x.qu 1) := Lib.hid (domT_up hd0 (by decide) (Int.le_of_lt hlt4))
            clear hlt4
            go_wp2_with fail
            go_meet
            exact ⟨x.qu, 1, T83.set, (T43.other (Y := B8) (i := 0) (v := .int .i64 x.qu) (by omega)).other (Y := B8) (i := 1) (v := .int .i64 1) (by omega), (FX3.other (Y := B8) (i := 0) (v := .int .i64 x.qu) (by omega)).other (Y := B8) (i := 1) (v := .int .i64 1) (by omega), (hbel3.setCell (p := ⟨B8, 0, none⟩) (by show w.heap.size ≤ B8; omega) _).setCell (p := ⟨B8, 1, none⟩) (by show w.heap.size ≤ B8; omega) _, HB2, Lib.hid (by omega), HD2⟩
          · have hlt4 := of_decide_eq_false HL1.out
            have HD3 : Hid (x.qu * d ≤ p) := Lib.hid (by omega)
            clear hlt4
            go_wp2_with fail
            go_meet
            exact ⟨p, d, T83, T43, FX3, hbel3, HP, HD3, Lib.hid (domT_refl p d)⟩
        case rest =>
          obtain ⟨p', d', T8, T4, FX, hbel, HP, HD, HT⟩ := hcut
          have HS2 : Hid (∀ a, a < k → Seen rs q p' d' a n) := Lib.hid (fun a ha => seen_up HOK.out (by rw [HZ.out]; omega) (by rw [HZ.out]; exact Nat.le_refl _) (HS.out a ha) HT.out)
          have HK : Hid (Seen rs q p' d' k 0) := Lib.hid (fun _ => by rw [HX.out]; exact ⟨HD.out, fun b' hb' => by omega⟩)
          clear HS HT HD TX FX2 T82 T42 hbel2 HL HCD hd0 T83 T43 TX3 FX3 hbel3
          go_wp2_with fail
          go_loopw [45] (fun v wr => ∃ (m : Nat) (p d : Int), m ≤ n ∧ v = .int .i64 m ∧ Two wr B8 p d ∧ Two wr w.heap.size 0 0 ∧ Four wr AX x ∧ Below w.heap.size w wr ∧ Hid (BestOk rs q p d) ∧ Hid (Seen rs q p d k m) ∧ Hid (∀ a, a < k → Seen rs q p d a n)) (fun v _ => n - (intOf v).toNat)
          case atStart => exact ⟨0, p', d', by omega, rfl, T8, T4, FX, hbel, HP, HK, HS2⟩
          case round =>
            clear T8 T4 FX hbel HP HK HS2
            obtain ⟨m, p, d, hm, rfl, T8, T4, FX, hbel, HP, HK, HS⟩ := hrel
            by_cases hlt3 : m < n
            rotate_left
            · have hmn : m = n := by omega
              have HS2 : Hid (∀ a, a < k + 1 → Seen rs q p d a n) := Lib.hid (fun a ha => by
                by_cases e : a = k
                · subst e; rw [← hmn]; exact HK.out
                · exact HS.out a (by omega))
              have hlt' : decide (m < n) = false := by simp; omega
              clear hlt3 hmn
              go_wp2_with fail
              go_roundw
              case rel => exact ⟨k + 1, p, d, by omega, by go_num, T8, T4, hbel, HP, HS2⟩
              case measure => simp [intOf]; omega
            · obtain ⟨y, hy⟩ : ∃ y, rs.getD m rung0 = y := ⟨_, rfl⟩
              obtain ⟨c0, c1, c2, c3⟩ := HCE.out m hlt3
              have oky := HOK.out m (by rw [HZ.out]; exact hlt3)
              rw [hy] at c0 c1 c2 c3 oky
              rw [← hbel.cell (p := ⟨b, off + m * 4, none⟩) hlt] at c0
              rw [← hbel.cell (p := ⟨b, off + m * 4 + 1, none⟩) hlt] at c1
              rw [← hbel.cell (p := ⟨b, off + m * 4 + 2, none⟩) hlt] at c2
              rw [← hbel.cell (p := ⟨b, off + m * 4 + 3, none⟩) hlt] at c3
              have OKY := Lib.hid oky
              obtain ⟨-, ⟨ya0, ya1⟩, -, ⟨yq0, yq1⟩⟩ := oky
              have hmI : IntKind.i64.wrap ((m : Int) + 1) = (m : Int) + 1 := IntWalk.i64_in _ ⟨by omega, by omega⟩
              have hl8 := T8.lt
              have hlA := FX.lt
              have FY := Four.new wr y 37
              have FX := FX.alloc (.cells #[.string y.nm, .int .i64 y.ra, .int .i64 y.he, .int .i64 y.qu] 37)
              have T8 := T8.alloc (.cells #[.string y.nm, .int .i64 y.ra, .int .i64 y.he, .int .i64 y.qu] 37)
              have T4 := T4.alloc (.cells #[.string y.nm, .int .i64 y.ra, .int .i64 y.he, .int .i64 y.qu] 37)
              have hbel := hbel.alloc (o := .cells #[.string y.nm, .int .i64 y.ra, .int .i64 y.he, .int .i64 y.qu] 37) hbel.size
              have HY := Lib.hid hy
              clear hy
              go_upto_region 17 with fail
              generalize wr.alloc (.cells #[.string y.nm, .int .i64 y.ra, .int .i64 y.he, .int .i64 y.qu] 37) = W3 at *
              generalize wr.heap.size = BX at *
              clear c0 c1 c2 c3
              have d1 := FX.c1; have d3 := FX.c3; have dl := FX.lt
              have y1 := FY.c1; have y3 := FY.c3; have yl := FY.lt
              by_cases hrb : y.ra ≤ q
              · have HK2 : Hid (Seen rs q p d k (m + 1)) := Lib.hid (fun h1 => by
                  obtain ⟨h2, h3⟩ := HK.out h1
                  refine ⟨h2, fun b' hb' h4 => ?_⟩
                  by_cases e : b' = m
                  · subst e; rw [HY.out] at h4; omega
                  · exact h3 b' (by omega) h4)
                go_wp2_with fail
                go_roundw
                case rel => exact ⟨m + 1, p, d, by omega, by go_num, T8, T4, FX, hbel, HP, HK2, HS⟩
                case measure => simp [intOf]; omega
              · have hrbd := decide_eq_false hrb
                have gm := mix_ok OKX.out OKY.out hra (show q < y.ra by omega)
                have hcx : CandOk (mxX x y q) (mxY x y q) := ⟨gm.x0, gm.x1, gm.y0, gm.y1, gm.one⟩
                have HCD : Hid (Cand rs q (mxX x y q) (mxY x y q)) := Lib.hid (.inr ⟨k, m, by rw [HZ.out]; exact hlt2, by rw [HZ.out]; exact hlt3, by rw [HX.out]; exact hra, by rw [HY.out]; omega, by rw [HX.out, HY.out], by rw [HX.out, HY.out]⟩)
                have HL := Lib.hid (fun W => rless_best HOK.out HP.out hcx W)
                have hd0 := best_d HOK.out HP.out
                have my0 := gm.y0
                have hqy : q < y.ra := by omega
                have HK2 : Hid (∀ p2 d2, DomT p d p2 d2 → mxX x y q * d2 ≤ p2 * mxY x y q → Seen rs q p2 d2 k (m + 1)) := Lib.hid (fun p2 d2 hd hm2 h1 => by
                  obtain ⟨h2, h3⟩ := seen_up HOK.out (by rw [HZ.out]; exact hlt2) (by rw [HZ.out]; omega) HK.out hd h1
                  refine ⟨h2, fun b' hb' h4 => ?_⟩
                  by_cases e : b' = m
                  · subst e; rw [HX.out, HY.out]; exact hm2
                  · exact h3 b' (by omega) h4)
                have HS2 : Hid (∀ p2 d2, DomT p d p2 d2 → ∀ a, a < k → Seen rs q p2 d2 a n) := Lib.hid (fun p2 d2 hd a ha => seen_up HOK.out (by rw [HZ.out]; omega) (by rw [HZ.out]; exact Nat.le_refl _) (HS.out a ha) hd)
                have hN : x.qu * (y.ra - q) + y.qu * (q - x.ra) = mixN x y q := rfl
                have bp1 := mul_range (x := x.qu) (y := y.ra - q) (a := 1000000) (b := 1000000000) xq0 xq1 (by omega) (by omega)
                have bp2 := mul_range (x := y.qu) (y := q - x.ra) (a := 1000000) (b := 1000000000) yq0 yq1 (by omega) (by omega)
                have hXX : mixN x y q / gcdI (mixN x y q) (y.ra - x.ra) = mxX x y q := rfl
                have hYY : (y.ra - x.ra) / gcdI (mixN x y q) (y.ra - x.ra) = mxY x y q := rfl
                obtain ⟨P1, hP1⟩ : ∃ P1, x.qu * (y.ra - q) = P1 := ⟨_, rfl⟩
                obtain ⟨P2, hP2⟩ : ∃ P2, y.qu * (q - x.ra) = P2 := ⟨_, rfl⟩
                have w1 : IntKind.i64.wrap (x.qu * (y.ra - q)) = P1 := by rw [hP1]; exact IntWalk.i64_in _ ⟨by omega, by omega⟩
                have w2 : IntKind.i64.wrap (y.qu * (q - x.ra)) = P2 := by rw [hP2]; exact IntWalk.i64_in _ ⟨by omega, by omega⟩
                rw [hP1, hP2] at hN
                rw [hP1] at bp1
                rw [hP2] at bp2
                rw [← hN] at hXX hYY
                obtain ⟨p0, p1⟩ := bp1
                obtain ⟨p2, p3⟩ := bp2
                obtain ⟨MX, hMX⟩ : ∃ MX, mxX x y q = MX := ⟨_, rfl⟩
                obtain ⟨MY, hMY⟩ : ∃ MY, mxY x y q = MY := ⟨_, rfl⟩
                rw [hMX] at hXX HCD HL HK2
                rw [hMY] at hYY HCD HL HK2 my0
                have HXX := Lib.hid hXX; have HYY := Lib.hid hYY
                clear gm hcx hN hXX hYY hP1 hP2 hMX hMY hrb HK HS
                go_wp2_with fail
                refine (rlow_any (P1 + P2) (y.ra - x.ra) _ (by omega) (by omega) (by omega) (by omega)).mono ?_; rintro e w4 ⟨rfl, b4⟩
                rw [HXX.out, HYY.out]
                have T8 := T8.below b4 T8.lt
                have T4 := T4.below b4 T4.lt
                have FX := FX.below b4 FX.lt
                have hbel := hbel.trans (b4.mono hbel.size)
                have hl9 := T8.lt
                have hlB := FX.lt
                clear b4 d1 d3 dl y1 y3 yl FY
                have TX := Two.new w4 MX MY 49
                have FX := FX.alloc (.cells #[.int .i64 MX, .int .i64 MY] 49)
                have T8 := T8.alloc (.cells #[.int .i64 MX, .int .i64 MY] 49)
                have T4 := T4.alloc (.cells #[.int .i64 MX, .int .i64 MY] 49)
                have hbel := hbel.alloc (o := .cells #[.int .i64 MX, .int .i64 MY] 49) hbel.size
                go_upto_region 19 with fail
                generalize w4.alloc (.cells #[.int .i64 MX, .int .i64 MY] 49) = W5 at *
                generalize w4.heap.size = XC at *
                have e0 := T8.c0; have e1 := T8.c1; have e2 := T8.lt
                have g0 := TX.c0; have g1 := TX.c1; have g2 := TX.lt
                go_wp2_with fail
                refine (HL.out _).mono ?_; rintro e w6 ⟨rfl, b6⟩
                have T8 := T8.below b6 T8.lt
                have T4 := T4.below b6 T4.lt
                have TX := TX.below b6 TX.lt
                have FX := FX.below b6 FX.lt
                have hbel := hbel.trans (b6.mono hbel.size)
                clear e0 e1 e2 g0 g1 g2 b6
                have e0 := T8.c0; have e1 := T8.c1; have e2 := T8.lt; have e3 := T8.f0; have e4 := T8.f1
                have g0 := TX.c0; have g1 := TX.c1; have g2 := TX.lt
                by_cases hlt4 : p * MY < MX * d
                · rw [decide_eq_true hlt4]
                  have hdt : DomT p d MX MY := domT_up hd0 my0 (Int.le_of_lt hlt4)
                  have HB2 : Hid (BestOk rs q MX MY) := Lib.hid (.inr HCD.out)
                  have HK3 := Lib.hid (HK2.out MX MY hdt (Int.le_refl _))
                  have HS3 := Lib.hid (HS2.out MX MY hdt)
                  clear hlt4 hdt
                  go_wp2_with fail
                  go_roundw
                  case rel => exact ⟨m + 1, MX, MY, by omega, by go_num, T8.set, (T4.other (Y := B8) (i := 0) (v := .int .i64 MX) (by omega)).other (Y := B8) (i := 1) (v := .int .i64 MY) (by omega), (FX.other (Y := B8) (i := 0) (v := .int .i64 MX) (by omega)).other (Y := B8) (i := 1) (v := .int .i64 MY) (by omega), (hbel.setCell (p := ⟨B8, 0, none⟩) (by show w.heap.size ≤ B8; omega) _).setCell (p := ⟨B8, 1, none⟩) (by show w.heap.size ≤ B8; omega) _, HB2, HK3, HS3⟩
                  case measure => simp [intOf]; omega
                · rw [decide_eq_false hlt4]
                  have HK3 := Lib.hid (HK2.out p d (domT_refl p d) (Int.not_lt.1 hlt4))
                  have HS3 := Lib.hid (HS2.out p d (domT_refl p d))
                  clear hlt4
                  go_wp2_with fail
                  go_roundw
                  case rel => exact ⟨m + 1, p, d, by omega, by go_num, T8, T4, FX, hbel, HP, HK3, HS3⟩
                  case measure => simp [intOf]; omega
set_option maxRecDepth 100000 in
set_option maxHeartbeats 8000000 in
theorem rmixed_none (a : Option Addr) (cap : Nat) (q : Int) (w : World) (h0 : mxF [] q = 0) :
    Calls Try.prog 34 #[.slice a 0 cap, .int .i64 q] w fun e w' => e = .returned (.tuple #[.agg #[.int .i64 0, .int .i64 0], .bool false, .int .i64 0]) ∧ Below w.heap.size w w' := by
  obtain ⟨hr0, hq0⟩ := fst2_zero h0
  rw [fIf_zero (by decide), Bool.not_eq_false'] at hq0
  have HQ := Lib.hid hq0
  have T4 := Two.new w 0 0 49
  have hb : Below w.heap.size w (w.alloc (.cells #[.int .i64 0, .int .i64 0] 49)) := (Below.refl _ w).alloc (Nat.le_refl _) _
  clear h0 hr0 hq0
  go_enter Try.func34, Try.ntmps34
  go_upto_region 1 with fail
  generalize w.alloc (.cells #[.int .i64 0, .int .i64 0] 49) = w3 at *
  go_wp2_with fail
  refine (rchkr_none _ _ _).mono ?_; rintro e w' ⟨rfl, rfl⟩
  go_wp2_with fail
  refine (rwithin5_any _ _ _ _).mono ?_; rintro e w' ⟨rfl, rfl⟩
  rw [HQ.out]
  have T8 := Two.new w3 (-1) 1 49
  have T4 := T4.alloc (.cells #[.int .i64 (-1), .int .i64 1] 49)
  have hb := hb.alloc (o := .cells #[.int .i64 (-1), .int .i64 1] 49) hb.size
  go_upto_region 7 with fail
  generalize w3.alloc (.cells #[.int .i64 (-1), .int .i64 1] 49) = W7 at *
  have a0 := T8.c0; have a1 := T8.c1; have al := T8.lt
  have c0 := T4.c0; have c1 := T4.c1; have g0 := T4.f0; have g1 := T4.f1; have cl := T4.lt
  go_wp2_with fail
  refine wp_loop_rounds 1 ?_
  rw [rounds_succ]
  go_wp2_with fail
  refine bodyPost_ret (by simp [results, Try.results34, go_sem, c0, c1]; try rfl) rfl ?_
  exact ⟨rfl, (hb.setCell (p := ⟨w.heap.size, 0, none⟩) (Nat.le_refl _) _).setCell (p := ⟨w.heap.size, 1, none⟩) (Nat.le_refl _) _⟩
set_option maxRecDepth 100000 in
set_option maxHeartbeats 8000000 in
theorem mixes_match (u : Value) (q X Y F : Int) (B : Bool) (w : World)
    (HM : Hid (Calls Try.prog 32 #[u, .int .i64 q] w fun e w' => e = .returned (.tuple #[.agg #[.int .i64 X, .int .i64 Y], .bool B, .int .i64 F]) ∧ Below w.heap.size w w'))
    (HO : Hid (∀ W, Below w.heap.size w W → Calls Try.prog 34 #[u, .int .i64 q] W fun e w' => e = .returned (.tuple #[.agg #[.int .i64 X, .int .i64 Y], .bool B, .int .i64 F]) ∧ Below W.heap.size W w')) :
    Calls Try.prog 8 #[u, .int .i64 q] w fun e w' => e = .returned (.bool true) ∧ Below w.heap.size w w' := by
  have bz : (B == B) = true := by simp
  have fz : (F == F) = true := by simp
  have xz : (X == X) = true := by simp
  have yz : (Y == Y) = true := by simp
  go_enter Try.func8, Try.ntmps8
  go_wp2_with fail
  refine HM.out.mono ?_; rintro e w1 ⟨rfl, b1⟩
  have b2 := b1.alloc (o := .cells #[.int .i64 X, .int .i64 Y] 49) b1.size
  have TX := Two.new w1 X Y 49
  go_upto_region 2 with fail
  generalize w1.alloc (.cells #[.int .i64 X, .int .i64 Y] 49) = W at *
  generalize w1.heap.size = XB at *
  go_wp2_with fail
  refine (HO.out _ b2).mono ?_; rintro e w5 ⟨rfl, b5⟩
  have b6 := b2.trans (b5.mono b2.size)
  have TX := (TX.below b5 TX.lt).alloc (.cells #[.int .i64 X, .int .i64 Y] 49)
  have TY := Two.new w5 X Y 49
  have b7 := b6.alloc (o := .cells #[.int .i64 X, .int .i64 Y] 49) b6.size
  go_upto_region 3 with fail
  generalize w5.alloc (.cells #[.int .i64 X, .int .i64 Y] 49) = W7 at *
  generalize w5.heap.size = YB at *
  have x0 := TX.c0; have x1 := TX.c1; have xl := TX.lt
  have y0 := TY.c0; have y1 := TY.c1; have yl := TY.lt
  go_wp2_with fail
  refine (awake5_any _).mono ?_; rintro e w8 ⟨rfl, b8⟩
  go_wp2_with fail
  go_ret
  exact ⟨rfl, b7.trans (b8.mono b7.size)⟩
theorem mixesmatch (u : Value) (rs : List Rung) (q : Int) (w : World) (hS : Rungs w u rs) (hwf : ∀ y ∈ rs, y.nm.size ≤ maxLen) :
    Calls Try.prog 8 #[u, .int .i64 q] w fun e w' => e = .returned (.bool true) ∧ Below w.heap.size w w' := by
  by_cases h0 : mxF rs q = 0
  · obtain ⟨hr0, hq0⟩ := fst2_zero h0
    have hok := (rgF_zero rs).1 hr0
    by_cases h1 : rs.length = 0
    · have : rs = [] := List.length_eq_zero_iff.1 h1
      subst this
      obtain ⟨a, cap, rfl⟩ := hS.parts
      exact mixes_match _ q 0 0 0 false w (Lib.hid (mixed_none a cap q w h0)) (Lib.hid (fun W hb => rmixed_none a cap q W h0))
    · obtain ⟨b, off, cap, rfl, hlt, hl, hm⟩ := hS.spot (by omega)
      have hct := hull_cut (hull_at hok) q
      obtain ⟨X, Y, B, hon⟩ := on_ex rs (hullTo rs rs.length).length q _ hct.le
      exact mixes_match _ q X Y 0 B w (Lib.hid (mixed_ok b off rs.length cap rs q X Y B w rfl (by omega) hlt hS hwf h0 hon)) (Lib.hid (fun W hb => rmixed_walk b off rs.length cap rs q X Y B W rfl (by omega) (Nat.lt_of_lt_of_le hlt hb.size) (hS.below hb (Nat.le_refl _)) hwf h0 hon))
  · obtain ⟨a, cap, rfl⟩ := hS.parts
    exact mixes_match _ q 0 0 _ false w (Lib.hid (mixed_fault a _ cap rs q w hS hwf h0)) (Lib.hid (fun W hb => rmixed_fault _ rs q W (hS.below hb (Nat.le_refl _)) hwf h0))

end Go.Proofs.Ytfjgpafcdkodmaa
