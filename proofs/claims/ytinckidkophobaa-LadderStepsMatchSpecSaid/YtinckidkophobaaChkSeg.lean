/- The faults of segments (program and reference). -/
import Derived.Test.YtinckidkophobaaLow
namespace Go.Proofs.Ytinckidkophobaa
set_option linter.unusedVariables false
set_option linter.unusedSimpArgs false
open Go.RowKit Go.Deep

theorem cscale_any (n : Int) (w : World) :
    Calls Try.prog 78 #[.int .i64 n] w fun e w' => e = .returned (.bool (inB n 1 1000000000)) ∧ w = w' := by
  obtain ⟨x, hx⟩ : ∃ x, inB n 1 1000000000 = x := ⟨_, rfl⟩
  have HX := Lib.hid hx
  clear hx
  go_enter Try.func78, Try.ntmps78
  go_wp2_with fail
  refine (bwithin_any _ _ _ _).mono ?_; rintro e w' ⟨rfl, rfl⟩
  rw [HX.out]
  go_wp2_with fail
  go_ret
  exact ⟨bret_bool HX.out.symm, rfl⟩
theorem rwithin5_any (n a b : Int) (w : World) :
    Calls Try.prog 34 #[.int .i64 n, .int .i64 a, .int .i64 b] w fun e w' => e = .returned (.bool (inB n a b)) ∧ w = w' := by
  by_cases h1 : a ≤ n
  · by_cases h2 : n ≤ b
    · have e : inB n a b = true := by simp [inB, h1, h2]
      have E := Lib.hid e
      clear e
      go_enter Try.func34, Try.ntmps34
      go_wp2
      go_ret
      exact ⟨bret_bool (by rw [E.out]; try simp; try omega), rfl⟩
    · have e : inB n a b = false := by simp [inB, h2]
      have d : decide (n ≤ b) = false := by simp only [decide_eq_false_iff_not]; exact h2
      have E := Lib.hid e
      clear e
      go_enter Try.func34, Try.ntmps34
      go_wp2
      go_ret
      exact ⟨bret_bool (by rw [E.out]; try simp; try omega), rfl⟩
  · have e : inB n a b = false := by simp [inB, h1]
    have d : decide (a ≤ n) = false := by simp only [decide_eq_false_iff_not]; exact h1
    have E := Lib.hid e
    clear e
    go_enter Try.func34, Try.ntmps34
    go_wp2
    go_ret
    exact ⟨bret_bool (by rw [E.out]; try simp; try omega), rfl⟩
def okJ (F G : List Int) (j : Nat) : Prop := (0 ≤ F.getD j 0 ∧ F.getD j 0 ≤ 1000000000) ∧ (1 ≤ G.getD j 0 ∧ G.getD j 0 ≤ 1000000000)
theorem segF_none {F G : List Int} {s : Int} (h : F.length = 0) : segF F G s = 9 := by rw [segF, if_pos h]
theorem segF_large {F G : List Int} {s : Int} (h : 500 < F.length) : segF F G s = 2 := by rw [segF, if_neg (by omega), if_pos h]
theorem segF_form {F G : List Int} {s : Int} (h0 : F.length ≠ 0) (h1 : F.length ≤ 500) (h2 : G.length ≠ F.length) : segF F G s = 3 := by rw [segF, if_neg h0, if_neg (by omega), if_pos h2]
theorem segF_bad {F G : List Int} {s : Int} (h0 : F.length ≠ 0) (h1 : F.length ≤ 500) (h2 : G.length = F.length) (j : Nat) (hj : j < F.length) (h : ¬ okJ F G j) : segF F G s = 1 := by
  rw [segF, if_neg h0, if_neg (by omega), if_neg (by omega), if_pos ⟨j, hj, h⟩]
theorem segF_good {F G : List Int} {s : Int} (h0 : F.length ≠ 0) (h1 : F.length ≤ 500) (h2 : G.length = F.length) (h : ∀ j, j < F.length → okJ F G j) : segF F G s = fIf (!inB s 1 1000000000) 1 := by
  rw [segF, if_neg h0, if_neg (by omega), if_neg (by omega), if_neg (by rintro ⟨j, hj, hn⟩; exact hn (h j hj))]
  by_cases hs : 1 ≤ s ∧ s ≤ 1000000000
  · rw [if_pos hs]; simp [fIf, inB, hs]
  · have : inB s 1 1000000000 = false := by
      cases h : inB s 1 1000000000
      · rfl
      · exact absurd (inB_iff.1 h) hs
    rw [if_neg hs, this]; rfl
set_option maxRecDepth 100000 in
set_option maxHeartbeats 4000000 in
theorem chkseg_walk (b off n cap c off2 cap2 : Nat) (F G : List Int) (s : Int) (w : World) (hF : F.length = n) (hG : G.length = n) (h0 : 0 < n) (h5 : n ≤ 500)
    (hc : ∀ j, j < n → w.cell? ⟨b, off + j, none⟩ = some (.int .i64 (F.getD j 0))) (hd : ∀ j, j < n → w.cell? ⟨c, off2 + j, none⟩ = some (.int .i64 (G.getD j 0))) :
    Calls Try.prog 62 #[.slice (some ⟨b, off, none⟩) n cap, .slice (some ⟨c, off2, none⟩) n cap2, .int .i64 s] w fun e w' => e = .returned (.int .i64 (segF F G s)) ∧ w = w' := by
  have HC := Lib.hid hc
  have HD := Lib.hid hd
  have HB : Hid (∀ j, j < n → ¬ okJ F G j → segF F G s = 1) := Lib.hid (fun j hj h => segF_bad (by omega) (by omega) (by omega) j (by omega) h)
  have HO : Hid ((∀ j, j < n → okJ F G j) → segF F G s = fIf (!inB s 1 1000000000) 1) := Lib.hid (fun h => segF_good (by omega) (by omega) (by omega) (by rw [hF]; exact h))
  obtain ⟨R, hR⟩ : ∃ R, segF F G s = R := ⟨_, rfl⟩
  rw [hR] at HB HO ⊢
  have z0 : ((n : Int) == 0) = false := by simp; omega
  clear hc hd hF hG hR
  go_enter Try.func62, Try.ntmps62
  go_wp2_with fail
  go_loopw [22] (fun v wr => ∃ k : Nat, k ≤ n ∧ v = .int .i64 k ∧ Hid (∀ j, j < k → okJ F G j) ∧ w = wr) (fun v _ => n - (intOf v).toNat)
  case atStart => exact ⟨0, by omega, rfl, Lib.hid (fun j hj => by omega), rfl⟩
  case round =>
    obtain ⟨k, hk, rfl, HK, rfl⟩ := hrel
    by_cases hlt : k < n
    · have c0 := HC.out k hlt
      have c1 := HD.out k hlt
      have HKK : Hid (okJ F G k ↔ inB (F.getD k 0) 0 1000000000 = true ∧ inB (G.getD k 0) 1 1000000000 = true) := Lib.hid (by rw [inB_iff, inB_iff]; exact Iff.rfl)
      obtain ⟨x, hx⟩ : ∃ x, F.getD k 0 = x := ⟨_, rfl⟩
      obtain ⟨y, hy⟩ : ∃ y, G.getD k 0 = y := ⟨_, rfl⟩
      rw [hx] at c0 HKK
      rw [hy] at c1 HKK
      obtain ⟨p, hp⟩ : ∃ p, inB x 0 1000000000 = p := ⟨_, rfl⟩
      obtain ⟨q, hq⟩ : ∃ q, inB y 1 1000000000 = q := ⟨_, rfl⟩
      rw [hp, hq] at HKK
      have HP := Lib.hid hp
      have HQ := Lib.hid hq
      clear hx hy hp hq
      cases p
      · have e1 : R = 1 := HB.out k hlt (fun h => by have := HKK.out.1 h; simp at this)
        subst e1
        go_wp2_with fail
        refine (bwithin_any _ _ _ _).mono ?_; rintro e w' ⟨rfl, rfl⟩
        rw [HP.out]
        go_wp2_with fail
        go_ret
        exact ⟨rfl, rfl⟩
      · cases q
        · have e1 : R = 1 := HB.out k hlt (fun h => by have := HKK.out.1 h; simp at this)
          subst e1
          go_wp2_with fail
          refine (bwithin_any _ _ _ _).mono ?_; rintro e w' ⟨rfl, rfl⟩
          rw [HP.out]
          go_wp2_with fail
          refine (bwithin_any _ _ _ _).mono ?_; rintro e w' ⟨rfl, rfl⟩
          rw [HQ.out]
          go_wp2_with fail
          go_ret
          exact ⟨rfl, rfl⟩
        · have HN : Hid (∀ j, j < k + 1 → okJ F G j) := Lib.hid (fun j hj => by
            by_cases e : j = k
            · subst e; exact HKK.out.2 ⟨rfl, rfl⟩
            · exact HK.out j (by omega))
          go_wp2_with fail
          refine (bwithin_any _ _ _ _).mono ?_; rintro e w' ⟨rfl, rfl⟩
          rw [HP.out]
          go_wp2_with fail
          refine (bwithin_any _ _ _ _).mono ?_; rintro e w' ⟨rfl, rfl⟩
          rw [HQ.out]
          go_wp2_with fail
          go_roundw
          case rel => exact ⟨k + 1, by omega, by go_num, HN, trivial⟩
          case measure => simp [intOf]; omega
    · have hkn : k = n := by omega
      subst hkn
      have HR := Lib.hid (HO.out HK.out)
      have hlt' : decide (k < k) = false := by simp
      clear hlt
      go_wp2_with fail
      refine (cscale_any _ _).mono ?_; rintro e w' ⟨rfl, rfl⟩
      go_wp2_with fail
      refine (bfaultIf_any _ _ _).mono ?_; rintro e w' ⟨rfl, rfl⟩
      rw [← HR.out]
      go_wp2_with fail
      go_ret
      exact ⟨rfl, rfl⟩
set_option maxHeartbeats 1000000 in
theorem chkseg_none (a : Option Addr) (cap : Nat) (v : Value) (s : Int) (w : World) :
    Calls Try.prog 62 #[.slice a 0 cap, v, .int .i64 s] w fun e w' => e = .returned (.int .i64 9) ∧ w = w' := by
  go_enter Try.func62, Try.ntmps62
  go_wp2_with fail
  go_ret
  exact ⟨rfl, rfl⟩
set_option maxHeartbeats 1000000 in
theorem chkseg_large (a : Option Addr) (n cap : Nat) (v : Value) (s : Int) (w : World) (h : 500 < n) :
    Calls Try.prog 62 #[.slice a n cap, v, .int .i64 s] w fun e w' => e = .returned (.int .i64 2) ∧ w = w' := by
  have z0 : ((n : Int) == 0) = false := by simp; omega
  have z1 : decide ((500 : Int) < (n : Int)) = true := by simp; omega
  go_enter Try.func62, Try.ntmps62
  go_wp2_with fail
  go_ret
  exact ⟨rfl, rfl⟩
set_option maxHeartbeats 1000000 in
theorem chkseg_form (a a' : Option Addr) (n cap m cap' : Nat) (s : Int) (w : World) (h0 : n ≠ 0) (h : n ≤ 500) (hm : m ≠ n) :
    Calls Try.prog 62 #[.slice a n cap, .slice a' m cap', .int .i64 s] w fun e w' => e = .returned (.int .i64 3) ∧ w = w' := by
  have z0 : ((n : Int) == 0) = false := by simp; omega
  have z1 : decide ((500 : Int) < (n : Int)) = false := by simp; omega
  have z2 : ((m : Int) == (n : Int)) = false := by simp; omega
  have z4 : ((n : Int) == (m : Int)) = false := by simp; omega
  have z3 : ((m : Int) != (n : Int)) = true := by simp; omega
  have z5 : ((n : Int) != (m : Int)) = true := by simp; omega
  go_enter Try.func62, Try.ntmps62
  go_wp2_with fail
  go_ret
  exact ⟨rfl, rfl⟩
theorem chkseg_any (u v : Value) (F G : List Int) (s : Int) (w : World) (hu : Nums w u F) (hv : Nums w v G) :
    Calls Try.prog 62 #[u, v, .int .i64 s] w fun e w' => e = .returned (.int .i64 (segF F G s)) ∧ w = w' := by
  rcases hu with ⟨a, c, rfl, rfl⟩ | ⟨b, o, c, rfl, hne, -, hl, hc⟩
  · rw [segF_none rfl]; exact chkseg_none _ _ _ _ _
  · have hn : F.length ≠ 0 := fun h => hne (List.length_eq_zero_iff.1 h)
    by_cases h5 : 500 < F.length
    · rw [segF_large h5]; exact chkseg_large _ _ _ _ _ _ h5
    · rcases hv with ⟨a', c', rfl, rfl⟩ | ⟨b', o', c', rfl, hne', -, hl', hc'⟩
      · rw [segF_form hn (by omega) (by simp; omega)]; exact chkseg_form _ _ _ _ _ _ _ _ hn (by omega) (by omega)
      · by_cases he : G.length = F.length
        · rw [he] at hc' ⊢
          exact chkseg_walk b o F.length c b' o' c' F G s w rfl he (by omega) (by omega) hc hc'
        · rw [segF_form hn (by omega) he]; exact chkseg_form _ _ _ _ _ _ _ _ hn (by omega) he

end Go.Proofs.Ytinckidkophobaa
