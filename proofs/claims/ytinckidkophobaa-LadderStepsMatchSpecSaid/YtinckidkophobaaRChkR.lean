/- The reference's CheckRenditions. -/
import Derived.Test.YtinckidkophobaaRName
import Derived.Test.YtinckidkophobaaRCrowd
namespace Go.Proofs.Ytinckidkophobaa
set_option linter.unusedVariables false
set_option linter.unusedSimpArgs false
open Go.RowKit Go.Shelf Go.Deep

theorem fst6 (a b c d e f : Bool) : fstF [fIf (!a) 5, fIf (!b) 1, fIf (!c) 1, fIf (!d) 1, fIf (!e) 8, fIf f 7] = if a = false then 5 else if (b && c && d) = false then 1 else if e = false then 8 else if f = true then 7 else 0 := by
  cases a <;> cases b <;> cases c <;> cases d <;> cases e <;> cases f <;> rfl
theorem rungE_case {rs : List Rung} {k : Nat} {r : Rung} (e : rs.getD k rung0 = r) : rungE rs k = if nameB r.nm = false then 5 else if (inB r.ra 1 1000000000 && inB r.he 1 10000 && inB r.qu 0 1000000) = false then 1 else if (decide (k = 0) || rless (rs.getD (k - 1) rung0) r) = false then 8 else if ((rs.take k).any fun x => sameN x.nm r.nm) = true then 7 else 0 := by
  unfold rungE
  rw [e]
  exact fst6 _ _ _ _ _ _
theorem less_or_same : ∀ (x y : List UInt8), (Op.bytesLess x y || x == y) = !Op.bytesLess y x
  | [], [] => by simp [Op.bytesLess]
  | [], _ :: _ => by simp [Op.bytesLess]
  | _ :: _, [] => by simp [Op.bytesLess]
  | a :: x, b :: y => by
    have ih := less_or_same x y
    rw [Op.bytesLess, Op.bytesLess]
    by_cases h1 : a < b
    · have h2 : ¬ b < a := UInt8.lt_asymm h1
      have h3 : ¬ b = a := fun e => by subst e; exact h2 h1
      have h4 : (b == a) = false := by rw [beq_eq_false_iff_ne]; exact h3
      rw [decide_eq_true h1, decide_eq_false h2, h4]; rfl
    · by_cases h2 : b < a
      · have h3 : ¬ a = b := fun e => by subst e; exact h1 h2
        simp [h1, h2, h3]
      · have h3 : a = b := UInt8.le_antisymm (UInt8.not_lt.1 h2) (UInt8.not_lt.1 h1)
        subst h3
        simp only [h1, decide_false, beq_self_eq_true, Bool.true_and, Bool.false_or]
        rw [List.cons_beq_cons, beq_self_eq_true, Bool.true_and]
        exact ih
theorem any_take_none {rs : List Rung} {k : Nat} {s : ByteArray} (hk : k ≤ rs.length) (h : ∀ j, j < k → sameN (rs.getD j rung0).nm s = false) : ((rs.take k).any fun x => sameN x.nm s) = false := by
  rw [List.any_eq_false]
  intro x hx
  obtain ⟨i, hi, rfl⟩ := (mem_take_getD hk).1 hx
  rw [h i hi]; exact Bool.false_ne_true
theorem any_take_some {rs : List Rung} {k j : Nat} {s : ByteArray} (hk : k ≤ rs.length) (hj : j < k) (h : sameN (rs.getD j rung0).nm s = true) : ((rs.take k).any fun x => sameN x.nm s) = true := by
  rw [List.any_eq_true]
  exact ⟨_, (mem_take_getD hk).2 ⟨j, hj, rfl⟩, h⟩
theorem beq_comm_list (x y : List UInt8) : (x == y) = (y == x) := by
  rw [Bool.eq_iff_iff, beq_iff_eq, beq_iff_eq]; exact eq_comm
set_option maxRecDepth 100000 in
set_option maxHeartbeats 8000000 in
theorem rchkr_walk (b off n cap : Nat) (rs : List Rung) (w : World) (hz : rs.length = n) (hn0 : 0 < n) (hn : n ≤ 100) (hlt : b < w.heap.size) (hcn : n ≤ cap) (hcm : cap ≤ maxLen) (hS : Rungs w (.slice (some ⟨b, off, none⟩) n cap) rs) (hwf : ∀ y ∈ rs, y.nm.size ≤ maxLen) :
    Calls Try.prog 23 #[.slice (some ⟨b, off, none⟩) n cap] w fun e w' => e = .returned (.int .i64 (rgF rs)) ∧ Below w.heap.size w w' := by
  have HC := Lib.hid (fun j (hj : j < n) => hS.cells j (by omega))
  have HR : Hid (rgF rs = rungsF rs) := Lib.hid (rgF_few rs (by omega))
  have HZ := Lib.hid hz
  have HW : Hid (∀ j, j < n → (rs.getD j rung0).nm.size ≤ maxLen) := Lib.hid (fun j hj => hwf _ (by
    rw [List.getD_eq_getElem?_getD, List.getElem?_eq_getElem (by omega)]
    exact List.getElem_mem _))
  obtain ⟨R, hRR⟩ : ∃ R, rgF rs = R := ⟨_, rfl⟩
  rw [hRR] at HR ⊢
  unfold maxLen at hcm
  clear hz hS hwf hRR
  go_enter Try.func23, Try.ntmps23
  go_wp2_with fail
  go_loopw [12] (fun v wr => ∃ k : Nat, k ≤ n ∧ v = .int .i64 k ∧ Below w.heap.size w wr ∧ Hid (fstF (((List.range rs.length).map (rungE rs)).drop k) = rungsF rs)) (fun v _ => n - (intOf v).toNat)
  case atStart => exact ⟨0, Nat.zero_le _, rfl, Below.refl _ _, Lib.hid rfl⟩
  case round =>
    obtain ⟨k, hk, rfl, hbel, HF⟩ := hrel
    by_cases hlt2 : k < n
    rotate_left
    · have hkn : k = n := by omega
      have hfin : R = 0 := by rw [HR.out, ← HF.out, List.drop_of_length_le (by simp [HZ.out]; omega)]; rfl
      subst hfin
      have hlt' : decide (k < n) = false := by simp; omega
      clear hlt2 hkn
      go_wp2_with fail
      go_ret
      exact ⟨rfl, hbel⟩
    · obtain ⟨r, hr⟩ : ∃ r, rs.getD k rung0 = r := ⟨_, rfl⟩
      obtain ⟨c0, c1, c2, c3⟩ := HC.out k hlt2
      have HNM := Lib.hid (HW.out k hlt2)
      rw [hr] at c0 c1 c2 c3 HNM
      rw [← hbel.cell (p := ⟨b, off + k * 4, none⟩) hlt] at c0
      rw [← hbel.cell (p := ⟨b, off + k * 4 + 1, none⟩) hlt] at c1
      rw [← hbel.cell (p := ⟨b, off + k * 4 + 2, none⟩) hlt] at c2
      rw [← hbel.cell (p := ⟨b, off + k * 4 + 3, none⟩) hlt] at c3
      obtain ⟨x, hx⟩ : ∃ x, rungE rs k = x := ⟨_, rfl⟩
      have HST : Hid ((x ≠ 0 → R = x) ∧ (x = 0 → fstF (((List.range rs.length).map (rungE rs)).drop (k + 1)) = rungsF rs)) := Lib.hid (by
        have hd := rungsF_drop rs k (by rw [HZ.out]; exact hlt2)
        rw [HF.out, hx] at hd
        exact ⟨fun h => by rw [if_neg h] at hd; rw [HR.out]; exact hd, fun h => by rw [if_pos h] at hd; exact hd.symm⟩)
      have HX := Lib.hid (hx.symm.trans (rungE_case hr))
      clear hr hx HF
      have FX := Four.new wr r 56
      have hbel := hbel.alloc (o := .cells #[.string r.nm, .int .i64 r.ra, .int .i64 r.he, .int .i64 r.qu] 56) hbel.size
      obtain ⟨nb, hnb⟩ : ∃ nb, nameB r.nm = nb := ⟨_, rfl⟩
      obtain ⟨r1, hr1⟩ : ∃ r1, inB r.ra 1 1000000000 = r1 := ⟨_, rfl⟩
      obtain ⟨r2, hr2⟩ : ∃ r2, inB r.he 1 10000 = r2 := ⟨_, rfl⟩
      obtain ⟨r3, hr3⟩ : ∃ r3, inB r.qu 0 1000000 = r3 := ⟨_, rfl⟩
      obtain ⟨ris, hris⟩ : ∃ ris, (decide (k = 0) || rless (rs.getD (k - 1) rung0) r) = ris := ⟨_, rfl⟩
      obtain ⟨twi, htw⟩ : ∃ twi, ((rs.take k).any fun x => sameN x.nm r.nm) = twi := ⟨_, rfl⟩
      rw [hnb, hr1, hr2, hr3, hris, htw] at HX
      have HNB := Lib.hid hnb; have HR1 := Lib.hid hr1; have HR2 := Lib.hid hr2; have HR3 := Lib.hid hr3; have HRIS := Lib.hid hris; have HTW := Lib.hid htw
      have i0 : (0 : Int) ≤ (k : Int) := by omega
      have i1 : (k : Int) ≤ (cap : Int) := by omega
      clear hnb hr1 hr2 hr3 hris htw
      go_upto_region 6 with fail
      generalize wr.alloc (.cells #[.string r.nm, .int .i64 r.ra, .int .i64 r.he, .int .i64 r.qu] 56) = W at *
      generalize wr.heap.size = X at *
      have hnm := HNM.out
      have d0 := FX.c0; have d1 := FX.c1; have d2 := FX.c2; have d3 := FX.c3; have dl := FX.lt
      clear c0 c1 c2 c3
      go_wp2_with fail
      refine (risName_any _ _ hnm).mono ?_; rintro e w' ⟨rfl, rfl⟩
      rw [HNB.out]
      cases nb
      · have e : R = 5 := (HST.out.1 (by rw [HX.out]; exact (show (5 : Int) ≠ 0 by decide))).trans HX.out
        subst e
        go_wp2_with fail
        go_ret
        exact ⟨rfl, hbel⟩
      · clear hnm
        cases r1
        · have e : R = 1 := (HST.out.1 (by rw [HX.out]; exact (show (1 : Int) ≠ 0 by decide))).trans HX.out
          subst e
          go_wp2_with fail
          refine (rwithin5_any _ _ _ _).mono ?_; rintro e w' ⟨rfl, rfl⟩
          rw [HR1.out]
          go_wp2_with fail
          go_ret
          exact ⟨rfl, hbel⟩
        · cases r2
          · have e : R = 1 := (HST.out.1 (by rw [HX.out]; exact (show (1 : Int) ≠ 0 by decide))).trans HX.out
            subst e
            go_wp2_with fail
            refine (rwithin5_any _ _ _ _).mono ?_; rintro e w' ⟨rfl, rfl⟩
            rw [HR1.out]
            go_wp2_with fail
            refine (rwithin5_any _ _ _ _).mono ?_; rintro e w' ⟨rfl, rfl⟩
            rw [HR2.out]
            go_wp2_with fail
            go_ret
            exact ⟨rfl, hbel⟩
          · cases r3
            · have e : R = 1 := (HST.out.1 (by rw [HX.out]; exact (show (1 : Int) ≠ 0 by decide))).trans HX.out
              subst e
              go_wp2_with fail
              refine (rwithin5_any _ _ _ _).mono ?_; rintro e w' ⟨rfl, rfl⟩
              rw [HR1.out]
              go_wp2_with fail
              refine (rwithin5_any _ _ _ _).mono ?_; rintro e w' ⟨rfl, rfl⟩
              rw [HR2.out]
              go_wp2_with fail
              refine (rwithin5_any _ _ _ _).mono ?_; rintro e w' ⟨rfl, rfl⟩
              rw [HR3.out]
              go_wp2_with fail
              go_ret
              exact ⟨rfl, hbel⟩
            · go_wp2_with fail
              refine (rwithin5_any _ _ _ _).mono ?_; rintro e w' ⟨rfl, rfl⟩
              rw [HR1.out]
              go_wp2_with fail
              refine (rwithin5_any _ _ _ _).mono ?_; rintro e w' ⟨rfl, rfl⟩
              rw [HR2.out]
              go_wp2_with fail
              refine (rwithin5_any _ _ _ _).mono ?_; rintro e w' ⟨rfl, rfl⟩
              rw [HR3.out]
              go_upto_region 10 with fail
              go_cut [71] (fun s71 wx => s71 = .bool (!ris) ∧ Below w.heap.size w wx ∧ Four wx X r)
              case first =>
                by_cases hk0 : k < 1
                · have g1 : decide (0 < k) = false := by simp; omega
                  have g2 : decide ((0 : Int) < (k : Int)) = false := by simp; omega
                  have e : ris = true := by rw [← HRIS.out, show decide (k = 0) = true by simp; omega]; rfl
                  subst e
                  clear hk0
                  go_quiet (fail)
                  go_wp2_with fail
                  go_meet
                  exact ⟨rfl, below_drewN hbel nq, FX.drewN nq⟩
                · have g1 : 0 < k := by omega
                  have g2 : decide ((0 : Int) < (k : Int)) = true := by simp; omega
                  obtain ⟨p, hp⟩ : ∃ p, rs.getD (k - 1) rung0 = p := ⟨_, rfl⟩
                  obtain ⟨q0, q1, q2, q3⟩ := HC.out (k - 1) (by omega)
                  rw [hp] at q0 q1 q2 q3
                  rw [← hbel.cell (p := ⟨b, off + (k - 1) * 4, none⟩) hlt] at q0
                  rw [← hbel.cell (p := ⟨b, off + (k - 1) * 4 + 1, none⟩) hlt] at q1
                  have HRI : Hid (rless p r = ris) := Lib.hid (by rw [← HRIS.out, hp, show decide (k = 0) = false by simp; omega]; rfl)
                  have i2 : (0 : Int) ≤ (k : Int) - 1 := by omega
                  have i6 : (1 : Int) ≤ (k : Int) := by omega
                  have i3 : (k : Int) - 1 < (n : Int) := by omega
                  have i4 : ((k : Int) - 1).toNat = k - 1 := by omega
                  have i5 : IntKind.i64.wrap ((k : Int) - 1) = (k : Int) - 1 := IntWalk.i64_in _ ⟨by omega, by omega⟩
                  clear hp q2 q3 hk0
                  by_cases hra : r.ra < p.ra
                  · have e : ris = false := by rw [← HRI.out, rless, decide_eq_false (show ¬ p.ra < r.ra by omega), decide_eq_false (show ¬ p.ra = r.ra by omega)]; rfl
                    subst e
                    go_quiet (fail)
                    go_wp2_with fail
                    go_meet
                    exact ⟨rfl, below_drewN hbel nq, FX.drewN nq⟩
                  · have hra2 : decide (r.ra < p.ra) = false := decide_eq_false hra
                    by_cases hrb : r.ra = p.ra
                    · have t1 : (r.ra == p.ra) = true := by simp; exact hrb
                      have hss := less_or_same r.nm.toList p.nm.toList
                      obtain ⟨b1, hb1⟩ : ∃ b1, Op.bytesLess r.nm.toList p.nm.toList = b1 := ⟨_, rfl⟩
                      obtain ⟨b2, hb2⟩ : ∃ b2, (r.nm.toList == p.nm.toList) = b2 := ⟨_, rfl⟩
                      obtain ⟨b3, hb3⟩ : ∃ b3, Op.bytesLess p.nm.toList r.nm.toList = b3 := ⟨_, rfl⟩
                      rw [hb1, hb2, hb3] at hss
                      have e : ris = b3 := by rw [← HRI.out, rless, decide_eq_false (show ¬ p.ra < r.ra by omega), decide_eq_true (show p.ra = r.ra by omega), sless, hb3]; rfl
                      subst e
                      have HSS := Lib.hid hss
                      clear hss hb3 hrb hra
                      cases b1
                      · cases b2
                        · have e : ris = true := by have := HSS.out; cases ris <;> simp at this ⊢
                          subst e
                          go_quiet (fail)
                          go_wp2_with fail
                          go_meet
                          exact ⟨rfl, below_drewN hbel nq, FX.drewN nq⟩
                        · have e : ris = false := by have := HSS.out; cases ris <;> simp at this ⊢
                          subst e
                          go_quiet (fail)
                          go_wp2_with fail
                          go_meet
                          exact ⟨rfl, below_drewN hbel nq, FX.drewN nq⟩
                      · have e : ris = false := by have := HSS.out; cases ris <;> simp at this ⊢
                        subst e
                        go_quiet (fail)
                        go_wp2_with fail
                        go_meet
                        exact ⟨rfl, below_drewN hbel nq, FX.drewN nq⟩
                    · have t1 : (r.ra == p.ra) = false := by simp; exact hrb
                      have e : ris = true := by rw [← HRI.out, rless, decide_eq_true (show p.ra < r.ra by omega)]; rfl
                      subst e
                      clear hrb hra
                      go_quiet (fail)
                      go_wp2_with fail
                      go_meet
                      exact ⟨rfl, below_drewN hbel nq, FX.drewN nq⟩
              case rest =>
                obtain ⟨rfl, hbel, FX⟩ := hcut
                clear d0 d1 d2 d3 dl
                cases ris
                · have e : R = 8 := (HST.out.1 (by rw [HX.out]; exact (show (8 : Int) ≠ 0 by decide))).trans HX.out
                  subst e
                  go_wp2_with fail
                  go_ret
                  exact ⟨rfl, hbel⟩
                · go_wp2_with fail
                  go_loopw [76] (fun v wr => ∃ m : Nat, m ≤ k ∧ v = .int .i64 m ∧ Hid (∀ j, j < m → sameN (rs.getD j rung0).nm r.nm = false) ∧ Below w.heap.size w wr ∧ Four wr X r) (fun v _ => k - (intOf v).toNat)
                  case atStart => exact ⟨0, Nat.zero_le _, rfl, Lib.hid (fun j hj => by omega), hbel, FX⟩
                  case round =>
                    clear hbel FX
                    obtain ⟨m, hm, rfl, HM, hbel, FX⟩ := hrel
                    by_cases hlt3 : m < k
                    rotate_left
                    · have hmk : m = k := by omega
                      have e : twi = false := by
                        rw [← HTW.out]
                        exact any_take_none (by rw [HZ.out]; omega) (fun j hj => HM.out j (by omega))
                      subst e
                      have HN := Lib.hid (HST.out.2 HX.out)
                      have hlt' : decide (m < k) = false := by simp; omega
                      have hkI : IntKind.i64.wrap ((k : Int) + 1) = (k : Int) + 1 := IntWalk.i64_in _ ⟨by omega, by omega⟩
                      clear hlt3 hmk
                      go_wp2_with fail
                      go_roundw
                      case rel => exact ⟨k + 1, by omega, by go_num, hbel, HN⟩
                      case measure => simp [intOf]; omega
                    · obtain ⟨y, hy⟩ : ∃ y, rs.getD m rung0 = y := ⟨_, rfl⟩
                      obtain ⟨c0, c1, c2, c3⟩ := HC.out m (by omega)
                      rw [hy] at c0 c1 c2 c3
                      rw [← hbel.cell (p := ⟨b, off + m * 4, none⟩) hlt] at c0
                      rw [← hbel.cell (p := ⟨b, off + m * 4 + 1, none⟩) hlt] at c1
                      rw [← hbel.cell (p := ⟨b, off + m * 4 + 2, none⟩) hlt] at c2
                      rw [← hbel.cell (p := ⟨b, off + m * 4 + 3, none⟩) hlt] at c3
                      have FY := Four.new wr y 56
                      have FX := FX.alloc (.cells #[.string y.nm, .int .i64 y.ra, .int .i64 y.he, .int .i64 y.qu] 56)
                      have hbel := hbel.alloc (o := .cells #[.string y.nm, .int .i64 y.ra, .int .i64 y.he, .int .i64 y.qu] 56) hbel.size
                      have hmI : IntKind.i64.wrap ((m : Int) + 1) = (m : Int) + 1 := IntWalk.i64_in _ ⟨by omega, by omega⟩
                      have HY := Lib.hid hy
                      clear hy
                      go_upto_region 15 with fail
                      generalize wr.alloc (.cells #[.string y.nm, .int .i64 y.ra, .int .i64 y.he, .int .i64 y.qu] 56) = W2 at *
                      generalize wr.heap.size = Y at *
                      have d0 := FX.c0; have f0 := FY.c0
                      clear c0 c1 c2 c3
                      obtain ⟨bb, hbb⟩ : ∃ bb, (r.nm.toList == y.nm.toList) = bb := ⟨_, rfl⟩
                      cases bb
                      · have HN : Hid (∀ j, j < m + 1 → sameN (rs.getD j rung0).nm r.nm = false) := Lib.hid (fun j hj => by
                          by_cases e : j = m
                          · subst e; rw [HY.out, sameN, beq_comm_list]; exact hbb
                          · exact HM.out j (by omega))
                        go_wp2_with fail
                        go_roundw
                        case rel => exact ⟨m + 1, by omega, by go_num, HN, hbel, FX⟩
                        case measure => simp [intOf]; omega
                      · have e : twi = true := by
                          rw [← HTW.out]
                          exact any_take_some (by rw [HZ.out]; omega) hlt3 (by rw [HY.out, sameN, beq_comm_list]; exact hbb)
                        subst e
                        have e : R = 7 := (HST.out.1 (by rw [HX.out]; exact (show (7 : Int) ≠ 0 by decide))).trans HX.out
                        subst e
                        go_wp2_with fail
                        go_ret
                        exact ⟨rfl, hbel⟩
theorem rchkr_none (a : Option Addr) (cap : Nat) (w : World) : Calls Try.prog 23 #[.slice a 0 cap] w fun e w' => e = .returned (.int .i64 0) ∧ w = w' := by
  go_enter Try.func23, Try.ntmps23
  go_wp2_with fail
  refine wp_loop_rounds 1 ?_
  rw [rounds_succ]
  go_wp2_with fail
  go_ret
  exact ⟨rfl, rfl⟩
theorem rchkr_large (a : Option Addr) (n cap : Nat) (w : World) (h : 100 < n) : Calls Try.prog 23 #[.slice a n cap] w fun e w' => e = .returned (.int .i64 2) ∧ w = w' := by
  have z1 : decide ((100 : Int) < (n : Int)) = true := by simp; omega
  go_enter Try.func23, Try.ntmps23
  go_wp2_with fail
  go_ret
  exact ⟨rfl, rfl⟩
theorem rchkr_any (v : Value) (rs : List Rung) (w : World) (h : Rungs w v rs) (hwf : ∀ y ∈ rs, y.nm.size ≤ maxLen) :
    Calls Try.prog 23 #[v] w fun e w' => e = .returned (.int .i64 (rgF rs)) ∧ Below w.heap.size w w' := by
  by_cases h0 : rs.length = 0
  · have : rs = [] := List.length_eq_zero_iff.1 h0
    subst this
    obtain ⟨a, cap, rfl⟩ := h.parts
    refine (rchkr_none a cap w).mono ?_
    rintro e w' ⟨rfl, rfl⟩
    exact ⟨rfl, Below.refl _ _⟩
  · by_cases h1 : 100 < rs.length
    · obtain ⟨a, cap, rfl⟩ := h.parts
      refine (rchkr_large a rs.length cap w h1).mono ?_
      rintro e w' ⟨rfl, rfl⟩
      exact ⟨by rw [rgF_large rs h1], Below.refl _ _⟩
    · obtain ⟨b, off, cap, rfl, hlt, hl, hm⟩ := h.spot (by omega)
      exact rchkr_walk b off rs.length cap rs w rfl (by omega) (by omega) hlt hl hm h hwf

end Go.Proofs.Ytinckidkophobaa
