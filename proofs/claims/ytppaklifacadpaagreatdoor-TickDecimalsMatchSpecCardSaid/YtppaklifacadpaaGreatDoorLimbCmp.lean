/- The reference's compare. -/
import Derived.Test.YtppaklifacadpaaGreatDoorLimb
namespace Go.Proofs.YtppaklifacadpaaGreatDoor
set_option linter.unusedVariables false
set_option linter.unusedSimpArgs false
open Go.RowKit

def cmpI (x y : Int) : Int := if x < y then -1 else if y < x then 1 else 0
theorem cmpI_lt {x y : Int} (h : x < y) : cmpI x y = -1 := by rw [cmpI, if_pos h]
theorem cmpI_gt {x y : Int} (h : y < x) : cmpI x y = 1 := by rw [cmpI, if_neg (by omega), if_pos h]
theorem cmpI_eq {x y : Int} (h : x = y) : cmpI x y = 0 := by rw [cmpI, if_neg (by omega), if_neg (by omega)]

set_option maxHeartbeats 400000 in
theorem cmp_short (a1 a2 : Option Addr) (n m c d : Nat) (w : World) (h : n < m) (hn : n ≤ maxLen) (hm : m ≤ maxLen) :
    Calls Tryz.prog 45 #[.slice a1 n c, .slice a2 m d] w fun e w' => e = .returned (.int .i64 (-1)) ∧ w = w' := by
  have e1 : ((n : Int) == (m : Int)) = false := by simp; omega
  unfold maxLen at hn hm
  go_enter Tryz.func45, Tryz.ntmps45
  go_wp2_with fail
  go_ret
  exact ⟨rfl, rfl⟩
set_option maxHeartbeats 400000 in
theorem cmp_long (a1 a2 : Option Addr) (n m c d : Nat) (w : World) (h : m < n) (hn : n ≤ maxLen) (hm : m ≤ maxLen) :
    Calls Tryz.prog 45 #[.slice a1 n c, .slice a2 m d] w fun e w' => e = .returned (.int .i64 1) ∧ w = w' := by
  have e1 : ((n : Int) == (m : Int)) = false := by simp; omega
  have e2 : decide (n < m) = false := by simp; omega
  unfold maxLen at hn hm
  go_enter Tryz.func45, Tryz.ntmps45
  go_wp2_with fail
  go_ret
  exact ⟨rfl, rfl⟩
set_option maxHeartbeats 400000 in
theorem cmp_none (a1 a2 : Option Addr) (c d : Nat) (w : World) :
    Calls Tryz.prog 45 #[.slice a1 0 c, .slice a2 0 d] w fun e w' => e = .returned (.int .i64 0) ∧ w = w' := by
  go_enter Tryz.func45, Tryz.ntmps45
  go_wp2_with fail
  go_loopw [5] (fun i wr => i = .int .i64 (-1) ∧ w = wr) (fun i _ => 0)
  case atStart => exact ⟨rfl, rfl⟩
  case round =>
    obtain ⟨rfl, rfl⟩ := hrel
    go_wp2_with fail
    go_ret
    exact ⟨rfl, rfl⟩

set_option maxHeartbeats 1000000 in
theorem cmp_walk (b o n c b' o' c' : Nat) (zs ys : List Int) (w : World) (hz : zs.length = n) (hy : ys.length = n) (hcl : n ≤ c) (hcm : c ≤ maxLen) (hcl' : n ≤ c') (hcm' : c' ≤ maxLen) (dz : Digs zs) (dy : Digs ys)
    (hc : ∀ j, j < n → w.cell? ⟨b, o + j, none⟩ = some (.int .i64 (zs.getD j 0))) (hc' : ∀ j, j < n → w.cell? ⟨b', o' + j, none⟩ = some (.int .i64 (ys.getD j 0))) :
    Calls Tryz.prog 45 #[.slice (some ⟨b, o, none⟩) n c, .slice (some ⟨b', o', none⟩) n c'] w fun e w' => e = .returned (.int .i64 (cmpI (lval zs) (lval ys))) ∧ ∃ q, w' = w.drewN q := by
  have HC := Lib.hid hc; have HC' := Lib.hid hc'; have HZ := Lib.hid hz; have HY := Lib.hid hy; have DZ := Lib.hid dz; have DY := Lib.hid dy
  have hn63 : n ≤ 9223372036854775807 := by unfold maxLen at hcm; omega
  clear hc hc' hz hy dz dy
  go_enter Tryz.func45, Tryz.ntmps45
  go_wp2_with fail
  go_loopw [5] (fun v wr => ∃ (k : Nat) (i : Int), k ≤ n ∧ i = (k : Int) - 1 ∧ v = .int .i64 i ∧ (∃ q, wr = w.drewN q) ∧ Hid (∀ j, k ≤ j → j < n → zs.getD j 0 = ys.getD j 0)) (fun v _ => (intOf v + 1).toNat)
  case atStart => exact ⟨n, _, Nat.le_refl _, rfl, by go_num, ⟨0, rfl⟩, Lib.hid (fun j h1 h2 => by omega)⟩
  case round =>
    obtain ⟨k, i, hk, hi, rfl, ⟨q, rfl⟩, HE⟩ := hrel
    by_cases hk0 : k < 1
    · have hi1 : i = -1 := by omega
      subst hi1
      have he : zs = ys := lext zs ys (by rw [HZ.out, HY.out]) (fun j hj => HE.out j (by omega) (by rw [← HZ.out]; exact hj))
      have HEQ := Lib.hid (cmpI_eq (congrArg lval he))
      clear he
      go_wp2_with fail
      go_ret
      exact ⟨ret_int HEQ.out.symm, q, rfl⟩
    · obtain ⟨j, rfl⟩ : ∃ j, k = j + 1 := ⟨k - 1, by omega⟩
      have hij : i = (j : Int) := by omega
      subst hij
      obtain ⟨x, hx⟩ : ∃ x, zs.getD j 0 = x := ⟨_, rfl⟩
      obtain ⟨y, hy⟩ : ∃ y, ys.getD j 0 = y := ⟨_, rfl⟩
      have d0 : (w.drewN q).cell? ⟨b, o + j, none⟩ = some (.int .i64 x) := by rw [← hx]; exact HC.out j (by omega)
      have d1 : (w.drewN q).cell? ⟨b', o' + j, none⟩ = some (.int .i64 y) := by rw [← hy]; exact HC'.out j (by omega)
      have d2 : w.cell? ⟨b, o + j, none⟩ = some (.int .i64 x) := d0
      have d3 : w.cell? ⟨b', o' + j, none⟩ = some (.int .i64 y) := d1
      have HX := Lib.hid hx; have HY2 := Lib.hid hy
      clear hx hy hi
      have i0 : (0 : Int) ≤ (j : Int) := Int.natCast_nonneg _
      have i1 : (j : Int) < (n : Int) := by omega
      by_cases h1 : x < y
      · have hlt := Lib.hid (cmpI_lt (lval_alike zs ys DZ.out DY.out (by rw [HZ.out, HY.out]) j (by rw [HZ.out]; omega) (fun i h4 h5 => HE.out i (by omega) (by rw [← HZ.out]; exact h5)) (by rw [HX.out, HY2.out]; exact h1)))
        go_wp2_with fail
        go_quiet (fail)
        go_wp2_with fail
        go_ret
        exact ⟨ret_int hlt.out.symm, _, by simp; rfl⟩
      · have h1' : decide (x < y) = false := by simp only [decide_eq_false_iff_not]; exact h1
        by_cases h2 : y < x
        · have hgt := Lib.hid (cmpI_gt (lval_alike ys zs DY.out DZ.out (by rw [HZ.out, HY.out]) j (by rw [HY.out]; omega) (fun i h4 h5 => (HE.out i (by omega) (by rw [← HY.out]; exact h5)).symm) (by rw [HX.out, HY2.out]; exact h2)))
          go_wp2_with fail
          go_quiet (fail)
          go_wp2_with fail
          go_quiet (fail)
          go_wp2_with fail
          go_ret
          exact ⟨ret_int hgt.out.symm, _, by simp; rfl⟩
        · have h2' : decide (y < x) = false := by simp only [decide_eq_false_iff_not]; exact h2
          go_wp2_with fail
          go_quiet (fail)
          go_wp2_with fail
          go_quiet (fail)
          go_wp2_with fail
          go_roundw
          case rel =>
            refine ⟨j, _, by omega, rfl, by go_num, ⟨_, rfl⟩, Lib.hid (fun i h3 h4 => ?_)⟩
            by_cases hj : i = j
            · rw [hj, HX.out, HY2.out]; omega
            · exact HE.out i (by omega) h4
          case measure => simp [intOf]

theorem cmp_any (u v : Value) (zs ys : List Int) (w : World) (hu : Lim w u zs) (hv : Lim w v ys) (cz : Canon zs) (cy : Canon ys) :
    Calls Tryz.prog 45 #[u, v] w fun e w' => e = .returned (.int .i64 (cmpI (lval zs) (lval ys))) ∧ ∃ q, w' = w.drewN q := by
  obtain ⟨a1, c1, e1, l1, m1⟩ := hu.parts
  obtain ⟨a2, c2, e2, l2, m2⟩ := hv.parts
  rcases Nat.lt_trichotomy zs.length ys.length with h | h | h
  · subst e1 e2
    refine (cmp_short a1 a2 _ _ c1 c2 w h l1 l2).mono ?_
    rintro e w' ⟨rfl, rfl⟩
    exact ⟨ret_int (cmpI_lt (canon_short _ _ cz cy h)).symm, 0, rfl⟩
  · rcases hu with ⟨a, c, rfl, hcm, rfl⟩ | ⟨b, o, c, rfl, hne, hlt, hl, hm, hc⟩
    · subst e2
      have hy : ys = [] := List.length_eq_zero_iff.1 (by simpa using h.symm)
      subst hy
      refine (cmp_none _ _ _ _ w).mono ?_
      rintro e w' ⟨rfl, rfl⟩
      exact ⟨ret_int (by simp [cmpI]), 0, rfl⟩
    · rcases hv with ⟨a', c', rfl, hcm', rfl⟩ | ⟨b', o', c', rfl, hne', hlt', hl', hm', hc'⟩
      · exact absurd (List.length_eq_zero_iff.1 (by simpa using h)) hne
      · have hw := cmp_walk b o zs.length c b' o' c' zs ys w rfl h.symm hl hm (by omega) hm' cz.1 cy.1 hc (fun j hj => hc' j (by omega))
        rw [← h]
        exact hw
  · subst e1 e2
    refine (cmp_long a1 a2 _ _ c1 c2 w h l1 l2).mono ?_
    rintro e w' ⟨rfl, rfl⟩
    exact ⟨ret_int (cmpI_gt (canon_short _ _ cy cz h)).symm, 0, rfl⟩

end Go.Proofs.YtppaklifacadpaaGreatDoor
