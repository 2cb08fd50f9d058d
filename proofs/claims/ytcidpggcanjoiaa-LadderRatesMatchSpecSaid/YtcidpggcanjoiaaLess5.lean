/- The reference's Less, Below, SumOf. -/
import Derived.Test.YtcidpggcanjoiaaLow
import Derived.Test.YtcidpggcanjoiaaLessPlain
namespace Go.Proofs.Ytcidpggcanjoiaa
set_option linter.unusedVariables false
set_option linter.unusedSimpArgs false
open Go.RowKit Go.Deep

theorem quo_in {a b : Int} (h0 : 0 ≤ a) (h1 : a ≤ 9223372036854775807) (hb : 0 < b) : 0 ≤ a / b ∧ a / b ≤ 9223372036854775807 ∧ IntKind.i64.wrap (a / b) = a / b ∧ IntKind.i64.wrap (a.tdiv b) = a / b := by
  have q := div_nn hb h0
  refine ⟨q.1, by omega, IntWalk.i64_in _ ⟨by omega, by omega⟩, ?_⟩
  rw [tdiv_pos _ _ h0]
  exact IntWalk.i64_in _ ⟨by omega, by omega⟩
set_option maxRecDepth 100000 in
set_option maxHeartbeats 4000000 in
theorem less_any (a b c d : Int) (w : World) (a0 : 0 ≤ a) (a1 : a ≤ 9223372036854775807) (b0 : 0 < b) (b1 : b ≤ 9223372036854775807) (c0 : 0 ≤ c) (c1 : c ≤ 9223372036854775807) (d0 : 0 < d) (d1 : d ≤ 9223372036854775807) :
    Calls Try.prog 20 #[.int .i64 a, .int .i64 b, .int .i64 c, .int .i64 d] w fun e w' => e = .returned (.bool (decide (a * d < c * b))) ∧ Below w.heap.size w w' := by
  obtain ⟨D, hD⟩ : ∃ D, decide (a * d < c * b) = D := ⟨_, rfl⟩
  rw [hD]
  have HD := Lib.hid hD
  clear hD
  go_enter Try.func20, Try.ntmps20
  go_wp2_with fail
  go_loopw [0, 1, 2, 3] (fun va vb vc vd wr => ∃ a b c d : Int, 0 ≤ a ∧ a ≤ 9223372036854775807 ∧ 0 < b ∧ b ≤ 9223372036854775807 ∧ 0 ≤ c ∧ c ≤ 9223372036854775807 ∧ 0 < d ∧ d ≤ 9223372036854775807 ∧ va = .int .i64 a ∧ vb = .int .i64 b ∧ vc = .int .i64 c ∧ vd = .int .i64 d ∧ Hid (decide (a * d < c * b) = D) ∧ Below w.heap.size w wr) (fun _ vb _ vd _ => (intOf vb).toNat + (intOf vd).toNat)
  case atStart => exact ⟨a, b, c, d, a0, a1, b0, b1, c0, c1, d0, d1, rfl, rfl, rfl, rfl, HD, Below.refl _ _⟩
  case round =>
    clear a0 a1 b0 b1 c0 c1 d0 d1 HD a b c d
    obtain ⟨a, b, c, d, a0, a1, b0, b1, c0, c1, d0, d1, rfl, rfl, rfl, rfl, HD, hbel⟩ := hrel
    obtain ⟨p0, p1, wp, wp'⟩ := quo_in a0 a1 b0
    obtain ⟨q0, q1, wq, wq'⟩ := quo_in c0 c1 d0
    obtain ⟨p, hp⟩ : ∃ p, a / b = p := ⟨_, rfl⟩
    obtain ⟨q, hq⟩ : ∃ q, c / d = q := ⟨_, rfl⟩
    rw [hp] at p0 p1 wp wp'
    rw [hq] at q0 q1 wq wq'
    have HP := Lib.hid hp
    have HQ := Lib.hid hq
    have bz : (b == 0) = false := by simp; omega
    have dz : (d == 0) = false := by simp; omega
    clear hp hq
    go_upto_region 1 with fail
    go_quiet (fail)
    have hbel := below_drewN hbel nq
    generalize wr.drewN nq = W at *
    by_cases he : p = q
    · subst he
      obtain ⟨m0, m1, m2⟩ := gcd_rest b0 a0
      obtain ⟨n0, n1, n2⟩ := gcd_rest d0 c0
      have hrest := less_zero (a := a) (b := b) (c := c) (d := d) b0 d0 (by rw [HP.out, HQ.out])
      have hturn := less_turn (a := a) (b := b) (c := c) (d := d) b0 d0 (by rw [HP.out, HQ.out])
      rw [HD.out] at hrest hturn
      have HR := Lib.hid hrest
      have HT := Lib.hid hturn
      have pz : (p == p) = true := by simp
      clear hrest hturn wp wp' wq wq'
      go_upto_region 4 with fail
      go_quiet (fail)
      clear m2 n2
      have hbel := below_drewN hbel nq
      generalize W.drewN nq = W2 at *
      obtain ⟨X, hX⟩ : ∃ X, a % b = X := ⟨_, rfl⟩
      obtain ⟨Y, hY⟩ : ∃ Y, c % d = Y := ⟨_, rfl⟩
      rw [hX, hY] at HR HT
      rw [hX] at m0 m1 ⊢
      rw [hY] at n0 n1 ⊢
      clear hX hY
      by_cases x0 : X = 0
      · subst x0
        have e := HR.out (.inl rfl)
        by_cases y0 : Y = 0
        · subst y0
          have e2 : D = false := by rw [e]; rfl
          subst e2
          clear e
          go_wp2_with fail
          go_ret
          exact ⟨rfl, hbel⟩
        · have yz : (Y == 0) = false := by simp [y0]
          have yz2 : (Y != 0) = true := by simp [y0]
          have e2 : D = true := by rw [e]; simp [y0]
          subst e2
          clear y0 e
          go_wp2_with fail
          go_ret
          exact ⟨rfl, hbel⟩
      · have xz : (X == 0) = false := by simp [x0]
        by_cases y0 : Y = 0
        · subst y0
          have e := HR.out (.inr rfl)
          have e2 : D = false := by rw [e]; simp [x0]
          subst e2
          clear x0 e
          go_wp2_with fail
          go_ret
          exact ⟨rfl, hbel⟩
        · have yz : (Y == 0) = false := by simp [y0]
          have hXp : 0 < X := by omega
          have hYp : 0 < Y := by omega
          clear x0 y0
          go_wp2_with fail
          go_roundw
          case rel => exact ⟨d, Y, b, X, by omega, d1, hYp, by omega, by omega, b1, hXp, by omega, rfl, rfl, rfl, rfl, HT, hbel⟩
          case measure => simp [intOf]; omega
    · have hne : (p == q) = false := by simp [he]
      have hne2 : (p != q) = true := by simp [he]
      have HE : Hid (decide (p < q) = D) := Lib.hid (by rw [← HD.out, ← HP.out, ← HQ.out]; exact (less_whole b0 d0 (by rw [HP.out, HQ.out]; exact he)).symm)
      clear wp wp' wq wq'
      go_wp2_with fail
      go_ret
      exact ⟨bret_bool HE.out, hbel⟩
set_option maxHeartbeats 1000000 in
theorem below5_any (x n : Int) (w : World) (x0 : -9223372036854775808 ≤ x) (x1 : x ≤ 9223372036854775807) (n0 : 0 < n) (n1 : n ≤ 4611686018427387904) :
    Calls Try.prog 19 #[.int .i64 x, .int .i64 n] w fun e w' => (∃ r, e = .returned (.int .i64 r) ∧ 0 ≤ r ∧ r < n) ∧ w = w' := by
  have hlt := Int.tmod_lt_of_pos x n0
  have hgt : -n < x.tmod n := by
    by_cases h : 0 ≤ x
    · have := Int.tmod_nonneg n h; omega
    · have e : (-x).tmod n = -(x.tmod n) := Int.neg_tmod x n
      have := Int.tmod_lt_of_pos (-x) n0
      omega
  have nz : (n == 0) = false := by simp; omega
  by_cases h0 : x.tmod n < 0
  · go_enter Try.func19, Try.ntmps19
    go_wp2_with fail
    go_ret
    exact ⟨⟨_, rfl, by omega, by omega⟩, rfl⟩
  · have hd : decide (x.tmod n < 0) = false := by simp; omega
    go_enter Try.func19, Try.ntmps19
    go_wp2_with fail
    go_ret
    exact ⟨⟨_, rfl, by omega, by omega⟩, rfl⟩
theorem sumof_any (v : Value) (zs : List Int) (w : World) (h : Nums w v zs) (hn : zs.length ≤ 500) (hf : ∀ j, j < zs.length → 0 ≤ zs.getD j 0 ∧ zs.getD j 0 ≤ 1000000000) :
    Calls Try.prog 17 #[v] w fun e w' => e = .returned (.int .i64 (psum (fun j => zs.getD j 0) zs.length)) ∧ w = w' := by
  have HS := Lib.hid (rsum_any v zs w h hn hf)
  obtain ⟨R, hR⟩ : ∃ R, psum (fun j => zs.getD j 0) zs.length = R := ⟨_, rfl⟩
  rw [hR] at HS ⊢
  clear hR hf
  go_enter Try.func17, Try.ntmps17
  go_wp2_with fail
  refine HS.out.mono ?_; rintro e w' ⟨rfl, rfl⟩
  go_wp2_with fail
  go_ret
  exact ⟨rfl, rfl⟩

end Go.Proofs.Ytcidpggcanjoiaa
