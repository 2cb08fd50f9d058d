/- cut.plansOf. -/
import Derived.Test.YtgbdmgmbdjajeaaPlans
import Derived.Test.YtgbdmgmbdjajeaaStill
namespace Go.Proofs.Ytgbdmgmbdjajeaa
set_option linter.unusedVariables false
set_option linter.unusedSimpArgs false
open Go.RowKit Go.Deep

def stF (zs : List Int) (j : Nat) : Int := zs.getD j 0
/-- The plans while stop i is looked at, out of j stops behind it. -/
def tbIn (st : Nat → Int) (T M : Int) (e i j : Nat) (x : Nat) : Plan := if i < x then planOf st T M e x else if x = i then innP st T M e (planOf st T M e) i j else plan0
/-- The plans when those from stop d on are known. -/
def tbOut (st : Nat → Int) (T M : Int) (e d : Nat) (x : Nat) : Plan := if d ≤ x then planOf st T M e x else plan0
theorem tbIn_zero (st : Nat → Int) (T M : Int) (e i x : Nat) : tbIn st T M e i 0 x = tbOut st T M e (i + 1) x := by
  unfold tbIn tbOut
  by_cases h : i < x
  · rw [if_pos h, if_pos (show i + 1 ≤ x by omega)]
  · rw [if_neg h, if_neg (show ¬ i + 1 ≤ x by omega)]
    split <;> rfl
theorem tbIn_done {st : Nat → Int} {T M : Int} {e i j : Nat} (h : innP st T M e (planOf st T M e) i j = planOf st T M e i) (x : Nat) : tbIn st T M e i j x = tbOut st T M e i x := by
  unfold tbIn tbOut
  by_cases h1 : i < x
  · rw [if_pos h1, if_pos (by omega)]
  · by_cases h2 : x = i
    · rw [if_neg h1, if_pos h2, if_pos (by omega), h, h2]
    · rw [if_neg h1, if_neg h2, if_neg (by omega)]
theorem tbIn_keep {st : Nat → Int} {T M : Int} {e i j : Nat} (h : innP st T M e (planOf st T M e) i (j + 1) = innP st T M e (planOf st T M e) i j) (x : Nat) : tbIn st T M e i j x = tbIn st T M e i (j + 1) x := by
  unfold tbIn
  rw [h]
theorem tbIn_put {st : Nat → Int} {T M : Int} {e i j : Nat} {p : Plan} (h : innP st T M e (planOf st T M e) i (j + 1) = p) (x : Nat) : (if x = i then p else tbIn st T M e i j x) = tbIn st T M e i (j + 1) x := by
  unfold tbIn
  by_cases h2 : x = i
  · rw [if_pos h2, if_neg (by omega), if_pos h2, h]
  · rw [if_neg h2, if_neg h2, if_neg h2]
theorem PlAt.store' {w : World} {P n : Nat} {tb : Nat → Plan} (h : PlAt w P n tb) (i : Nat) (hi : i < n) (p : Plan) (a b c : Int) (ha : a = p.sum) (hb : b = (p.many : Int)) (hc : c = (p.next : Int)) :
    PlAt (((w.setCell ⟨P, i * 3, none⟩ (.int .i64 a)).setCell ⟨P, i * 3 + 1, none⟩ (.int .i64 b)).setCell ⟨P, i * 3 + 2, none⟩ (.int .i64 c)) P n (fun j => if j = i then p else tb j) := by
  subst ha hb hc
  exact h.store i hi p
set_option maxRecDepth 100000 in
set_option maxHeartbeats 8000000 in
theorem plansOf_walk (b off N cap e : Nat) (zs : List Int) (sc T M : Int) (w : World) (hN : N = e + 1) (hz : zs.length = N) (he : e ≤ 1000) (hlt : b < w.heap.size) (hc : ∀ j, j < N → w.cell? ⟨b, off + j, none⟩ = some (.int .i64 (zs.getD j 0))) (g : Stops (stF zs) e T M)
    (hb : ∀ j, j < N → -1000000000000000 ≤ zs.getD j 0 ∧ zs.getD j 0 ≤ 1000000000000000) :
    Calls Try.prog 43 #[.slice (some ⟨b, off, none⟩) N cap, .agg #[.int .i64 sc, .int .i64 T, .int .i64 M]] w fun e' w' => (∃ P, e' = .returned (.slice (some ⟨P, 0, none⟩) N N) ∧ PlAt w' P N (planOf (stF zs) T M e) ∧ w.heap.size ≤ P ∧ P < w'.heap.size) ∧ Below w.heap.size w w' := by
  obtain ⟨ti, hi, hi0, hi1, hi2⟩ := info_parts Try.infoPlan
  obtain ⟨t1, t2⟩ := g.tar
  obtain ⟨m1, m2⟩ := g.most
  have HG := Lib.hid g
  have HC := Lib.hid hc; have HB := Lib.hid hb; have HZ := Lib.hid hz
  have HN := Lib.hid hN
  have hN1 : N ≤ 1001 := by omega
  have k1 : (w.alloc (.cells #[.int .i64 sc, .int .i64 T, .int .i64 M] 24)).cell? ⟨w.heap.size, 1, none⟩ = some (.int .i64 T) := by rw [World.cell?_alloc_at _ _ _ _ (by simp)]; rfl
  have k2 : (w.alloc (.cells #[.int .i64 sc, .int .i64 T, .int .i64 M] 24)).cell? ⟨w.heap.size, 2, none⟩ = some (.int .i64 M) := by rw [World.cell?_alloc_at _ _ _ _ (by simp)]; rfl
  have b0 : Below w.heap.size w (w.alloc (.cells #[.int .i64 sc, .int .i64 T, .int .i64 M] 24)) := (Below.refl _ _).alloc (Nat.le_refl _) _
  have hz0 : w.heap.size < (w.alloc (.cells #[.int .i64 sc, .int .i64 T, .int .i64 M] 24)).heap.size := by simp
  clear g hc hb hz hN
  go_enter Try.func43, Try.ntmps43
  go_upto_region 1 with fail
  generalize w.alloc (.cells #[.int .i64 sc, .int .i64 T, .int .i64 M] 24) = w0 at *
  obtain ⟨Q, hQ⟩ : ∃ Q, w.heap.size = Q := ⟨_, rfl⟩
  rw [hQ] at k1 k2 hz0
  simp only [hQ]
  have HQ := Lib.hid hQ
  clear hQ
  go_wp2_with (at_make; refine wpList_make_full _ rfl _ _ 83 rfl w0.heap.size 87 ti (.agg #[.int .i64 0, .int .i64 0, .int .i64 0]) 3 Try.underlying83 hi hi0 hi1 _ _ _ _ N rfl rfl rfl rfl ?c1 ?c2 ?c3 ?_)
  case c1 => rw [hi2]; omega
  case c2 => unfold maxLen; omega
  case c3 => exact Nat.le_refl _
  intro w1 hown hgrow
  have hb1 : Below w0.heap.size w0 w1 := (Below.refl _ _).grown hgrow (Nat.le_refl _) (by simp)
  have hlt1 := (hown.lt _ rfl).2
  have hw0 := b0.size
  obtain ⟨P, hP⟩ : ∃ P, w0.heap.size = P := ⟨_, rfl⟩
  rw [hP] at hown hb1 hlt1 hz0 hw0
  have hpl := PlAt.made hown
  simp only [hP]
  have f1 : w1.cell? ⟨Q, 1, none⟩ = some (.int .i64 T) := by rw [hb1.cell (p := ⟨Q, 1, none⟩) (by omega)]; exact k1
  have f2 : w1.cell? ⟨Q, 2, none⟩ = some (.int .i64 M) := by rw [hb1.cell (p := ⟨Q, 2, none⟩) (by omega)]; exact k2
  have hQP : Q < P := by omega
  have hbP : b < P := by omega
  have hbw : Below w.heap.size w w1 := b0.trans (hb1.mono hw0)
  have hwP : w.heap.size ≤ P := hw0
  clear hown hgrow hP hw0
  have n1 : 1 ≤ N := by have := HN.out; omega
  go_wp2_with fail
  go_loopw [7] (fun v7 wr => ∃ d : Nat, d ≤ e ∧ v7 = .int .i64 ((d : Int) - 1) ∧ PlAt wr P N (tbOut (stF zs) T M e d) ∧ Below w.heap.size w wr ∧ Below P w1 wr ∧ P < wr.heap.size) (fun v7 _ => (intOf v7 + 1).toNat)
  case atStart =>
    refine ⟨e, Nat.le_refl _, ?_, ?_, hbw, Below.refl _ _, hlt1⟩
    · rw [show (N : Int) - 1 - 1 = (e : Int) - 1 by have := HN.out; omega]
    · refine hpl.congr fun j hj => ?_
      unfold tbOut
      split
      · rw [planOf_end _ _ _ _ _ (by omega)]
      · rfl
  case round =>
    obtain ⟨d, hd, rfl, hp, hbr, hbP1, hPr⟩ := hrel
    cases d with
    | zero =>
      have z0 : ((0 : Nat) : Int) - 1 = -1 := rfl
      rw [z0]
      clear z0
      go_wp2_with fail
      go_ret
      exact ⟨⟨P, rfl, hp.congr fun j hj => by unfold tbOut; rw [if_pos (Nat.zero_le _)], hwP, hPr⟩, hbr⟩
    | succ i =>
      have z0 : ((i + 1 : Nat) : Int) - 1 = (i : Int) := by omega
      rw [z0]
      clear z0
      obtain ⟨wo, rfl⟩ : ∃ wo, wo = wr := ⟨_, rfl⟩
      go_wp2_with fail
      go_loopw [8] (fun v8 wx => ∃ x : Nat, i + 1 ≤ x ∧ x ≤ e + 1 ∧ v8 = .int .i64 (x : Int) ∧ PlAt wx P N (tbIn (stF zs) T M e i (x - (i + 1))) ∧ Below w.heap.size w wx ∧ Below P w1 wx ∧ P < wx.heap.size) (fun v8 _ => e + 1 - (intOf v8).toNat)
      case atStart => exact ⟨i + 1, Nat.le_refl _, by omega, by go_num, hp.congr fun y hy => by rw [Nat.sub_self]; exact (tbIn_zero _ _ _ _ _ _).symm, hbr, hbP1, hPr⟩
      case round =>
        clear hp hbr hbP1 hPr
        obtain ⟨x, hx1, hx2, rfl, hp, hbr, hbP1, hPr⟩ := hrel
        have hi1 : i < N := by have := HN.out; omega
        have di : wr.cell? ⟨b, off + i, none⟩ = some (.int .i64 (stF zs i)) := by rw [hbr.cell (p := ⟨b, off + i, none⟩) hlt]; exact HC.out i hi1
        have q1 : wr.cell? ⟨Q, 1, none⟩ = some (.int .i64 T) := by rw [hbP1.cell (p := ⟨Q, 1, none⟩) hQP]; exact f1
        have q2 : wr.cell? ⟨Q, 2, none⟩ = some (.int .i64 M) := by rw [hbP1.cell (p := ⟨Q, 2, none⟩) hQP]; exact f2
        obtain ⟨si, hsi⟩ : ∃ si, stF zs i = si := ⟨_, rfl⟩
        have HSI := Lib.hid hsi
        rw [hsi] at di
        have bi := HB.out i hi1
        rw [show zs.getD i 0 = si from hsi] at bi
        obtain ⟨bi1, bi2⟩ := bi
        clear hsi
        by_cases hx : x ≤ e
        · have hx3 : x < N := by have := HN.out; omega
          have dx : wr.cell? ⟨b, off + x, none⟩ = some (.int .i64 (stF zs x)) := by rw [hbr.cell (p := ⟨b, off + x, none⟩) hlt]; exact HC.out x hx3
          obtain ⟨sx, hsx⟩ : ∃ sx, stF zs x = sx := ⟨_, rfl⟩
          have HSX := Lib.hid hsx
          rw [hsx] at dx
          have bx := HB.out x hx3
          rw [show zs.getD x 0 = sx from hsx] at bx
          obtain ⟨bx1, bx2⟩ := bx
          have hgt := HG.out.lt i x (by omega) hx
          rw [HSI.out, hsx] at hgt
          have hle : (x : Int) ≤ (N : Int) - 1 := by have := HN.out; omega
          have hw1 : IntKind.i64.wrap (sx - si) = sx - si := IntWalk.i64_in _ ⟨by omega, by omega⟩
          clear hsx
          by_cases hgap : sx - si ≤ M
          · obtain ⟨j, hj⟩ : ∃ j, x - (i + 1) = j := ⟨_, rfl⟩
            have hxj : x = i + 1 + j := by omega
            rw [hj] at hp
            have HTN : Hid (∀ y, y < N → tbIn (stF zs) T M e i (x + 1 - (i + 1)) y = tbIn (stF zs) T M e i (j + 1) y) := Lib.hid (fun y _ => by rw [show x + 1 - (i + 1) = j + 1 by omega])
            obtain ⟨r, hr⟩ : ∃ r, planOf (stF zs) T M e x = r := ⟨_, rfl⟩
            obtain ⟨c, hc⟩ : ∃ c, innP (stF zs) T M e (planOf (stF zs) T M e) i j = c := ⟨_, rfl⟩
            have hrx : tbIn (stF zs) T M e i j x = r := by rw [tbIn, if_pos (by omega), hr]
            have hci : tbIn (stF zs) T M e i j i = c := by rw [tbIn, if_neg (by omega), if_pos rfl, hc]
            obtain ⟨rb1, rb2, rb3, -, -⟩ := planOf_ok HG.out e x (by omega) (by omega)
            rw [hr] at rb1 rb2 rb3
            have rb4 : r.sum ≤ 2500000000000000000 := by have : ((e - x : Nat) : Int) ≤ 1000 := by omega
                                                         omega
            obtain ⟨D, hD⟩ : ∃ D, sx - si - T = D := ⟨_, rfl⟩
            obtain ⟨DD, hDD⟩ : ∃ DD, D * D = DD := ⟨_, rfl⟩
            have hsq := sq_bd (d := sx - si) (by omega) hgap ⟨t1, t2⟩ ⟨m1, m2⟩
            rw [hD, hDD] at hsq
            obtain ⟨dd1, dd2⟩ := hsq
            obtain ⟨np, hnp⟩ : ∃ np : Plan, np = ⟨DD + r.sum, r.many + 1, x⟩ := ⟨_, rfl⟩
            have hpt : planTo (stF zs) T (planOf (stF zs) T M e) i x = np := by rw [planTo, HSI.out, HSX.out, hD, hDD, hr, hnp]
            have HSTEP : Hid (innP (stF zs) T M e (planOf (stF zs) T M e) i (j + 1) = if sx - si ≤ M ∧ ¬ (x < e ∧ r.many = 0) ∧ betterB np c = true then np else c) := Lib.hid (by
              rw [innP, ← hxj, HSI.out, HSX.out, hr, hpt, hc])
            have hDb1 : -50000000 ≤ D := by omega
            have hDb2 : D ≤ 50000000 := by omega
            have hw2 : IntKind.i64.wrap (sx - si - T) = D := by rw [hD]; exact IntWalk.i64_in _ ⟨by omega, by omega⟩
            have hwD : IntKind.i64.wrap (D * D) = DD := by rw [hDD]; exact IntWalk.i64_in _ ⟨by omega, by omega⟩
            have hwS : IntKind.i64.wrap (DD + r.sum) = DD + r.sum := IntWalk.i64_in _ ⟨by omega, by omega⟩
            have HR := Lib.hid hrx; have HCI := Lib.hid hci; have HNP := Lib.hid hnp; have HC2 := Lib.hid hc
            clear hj hr hc hD hDD hnp hpt hrx hci hxj
            obtain ⟨rs, rm, rn⟩ := r
            obtain ⟨cs, cm, cn⟩ := c
            simp only at rb1 rb2 rb3 rb4 hwS
            have hrm : (rm : Int) ≤ 1000 := by omega
            go_upto_region 7 with fail
            go_quiet (fail)
            have hp := hp.below (below_drewN (Below.refl wr.heap.size wr) nq) hPr
            have hbr := below_drewN hbr nq
            have hbP1 := below_drewN hbP1 nq
            have hPr : P < (wr.drewN nq).heap.size := by simpa using hPr
            have dx : (wr.drewN nq).cell? ⟨b, off + x, none⟩ = some (.int .i64 sx) := dx
            have di : (wr.drewN nq).cell? ⟨b, off + i, none⟩ = some (.int .i64 si) := di
            have q1 : (wr.drewN nq).cell? ⟨Q, 1, none⟩ = some (.int .i64 T) := q1
            have q2 : (wr.drewN nq).cell? ⟨Q, 2, none⟩ = some (.int .i64 M) := q2
            generalize wr.drewN nq = wq at *
            obtain ⟨⟨r0, r1, r2⟩, -⟩ := hp x hx3
            rw [HR.out] at r0 r1 r2
            simp only at r0 r1 r2
            have hPW : P ≤ wq.heap.size := by omega
            have hbW : b < wq.heap.size := by omega
            have hQW : Q < wq.heap.size := by omega
            by_cases hsk : x < e ∧ rm = 0
            · obtain ⟨hk1, rfl⟩ := hsk
              have hk2 : (x : Int) < (N : Int) - 1 := by have := HN.out; omega
              have HS2 : Hid (innP (stF zs) T M e (planOf (stF zs) T M e) i (j + 1) = innP (stF zs) T M e (planOf (stF zs) T M e) i j) := Lib.hid (by rw [HSTEP.out, if_neg (fun h => h.2.1 ⟨hk1, rfl⟩), HC2.out])
              go_wp2_with fail
              go_roundw
              case rel => exact ⟨x + 1, by omega, by omega, by go_num, (hp.below ((Below.refl wq.heap.size wq).alloc (Nat.le_refl _) _) hPr).congr fun y hy => (tbIn_keep HS2.out y).trans (HTN.out y hy).symm, hbr.alloc hbr.size _, hbP1.alloc hPW _, by simp; omega⟩
              case measure => simp [intOf]; omega
            · have HBT : Hid (∀ W', Calls Try.prog 56 #[.agg #[.int .i64 (DD + rs), .int .i64 ((rm : Int) + 1), .int .i64 (x : Int)], .agg #[.int .i64 cs, .int .i64 (cm : Int), .int .i64 (cn : Int)]] W' fun e w' => e = .returned (.bool (betterB np ⟨cs, cm, cn⟩)) ∧ Below W'.heap.size W' w') := Lib.hid (fun W' => by
                rw [HNP.out]
                exact better_int ⟨DD + rs, rm + 1, x⟩ ⟨cs, cm, cn⟩ ((rm : Int) + 1) (x : Int) (cm : Int) (cn : Int) W' (by simp) rfl rfl rfl)
              by_cases hk : x < e
              · have hk2 : (x : Int) < (N : Int) - 1 := by have := HN.out; omega
                have hrm0 : ((rm : Int) == 0) = false := by simp; omega
                go_upto_region 11 with fail
                have a0 : (wq.alloc (.cells #[.int .i64 rs, .int .i64 (rm : Int), .int .i64 (rn : Int)] 87)).cell? ⟨wq.heap.size, 0, none⟩ = some (.int .i64 rs) := by simp
                have a1 : (wq.alloc (.cells #[.int .i64 rs, .int .i64 (rm : Int), .int .i64 (rn : Int)] 87)).cell? ⟨wq.heap.size, 1, none⟩ = some (.int .i64 (rm : Int)) := by simp
                have hAl := (Below.refl wq.heap.size wq).alloc (Nat.le_refl _) (.cells #[.int .i64 rs, .int .i64 (rm : Int), .int .i64 (rn : Int)] 87)
                have dx := (hAl.cell (p := ⟨b, off + x, none⟩) hbW).trans dx
                have di := (hAl.cell (p := ⟨b, off + i, none⟩) hbW).trans di
                have q1 := (hAl.cell (p := ⟨Q, 1, none⟩) hQW).trans q1
                have hp := hp.below ((Below.refl wq.heap.size wq).alloc (Nat.le_refl _) (.cells #[.int .i64 rs, .int .i64 (rm : Int), .int .i64 (rn : Int)] 87)) hPr
                have hbr := hbr.alloc hbr.size (.cells #[.int .i64 rs, .int .i64 (rm : Int), .int .i64 (rn : Int)] 87)
                have hbP1 := hbP1.alloc hPW (.cells #[.int .i64 rs, .int .i64 (rm : Int), .int .i64 (rn : Int)] 87)
                have hPa : P < (wq.alloc (.cells #[.int .i64 rs, .int .i64 (rm : Int), .int .i64 (rn : Int)] 87)).heap.size := by simp; omega
                clear hPr
                clear r0 r1 r2 q2 hAl
                generalize wq.alloc (.cells #[.int .i64 rs, .int .i64 (rm : Int), .int .i64 (rn : Int)] 87) = W at *
                generalize wq.heap.size = R1 at *
                have hPr := hPa
                clear hPa
                go_quiet (fail)
                have a0 : (W.drewN nq).cell? ⟨R1, 0, none⟩ = some (.int .i64 rs) := a0
                have a1 : (W.drewN nq).cell? ⟨R1, 1, none⟩ = some (.int .i64 (rm : Int)) := a1
                have hp := hp.below (below_drewN (Below.refl W.heap.size W) nq) hPr
                have hbr := below_drewN hbr nq
                have hbP1 := below_drewN hbP1 nq
                have hPr : P < (W.drewN nq).heap.size := by simpa using hPr
                clear dx di q1 hw1 hw2
                generalize W.drewN nq = W2 at *
                go_upto_region 13 with fail
                have x0 : (W2.alloc (.cells #[.int .i64 (DD + rs), .int .i64 ((rm : Int) + 1), .int .i64 (x : Int)] 87)).cell? ⟨W2.heap.size, 0, none⟩ = some (.int .i64 (DD + rs)) := by simp
                have x1 : (W2.alloc (.cells #[.int .i64 (DD + rs), .int .i64 ((rm : Int) + 1), .int .i64 (x : Int)] 87)).cell? ⟨W2.heap.size, 1, none⟩ = some (.int .i64 ((rm : Int) + 1)) := by simp
                have x2 : (W2.alloc (.cells #[.int .i64 (DD + rs), .int .i64 ((rm : Int) + 1), .int .i64 (x : Int)] 87)).cell? ⟨W2.heap.size, 2, none⟩ = some (.int .i64 (x : Int)) := by simp
                have hp := hp.below ((Below.refl W2.heap.size W2).alloc (Nat.le_refl _) (.cells #[.int .i64 (DD + rs), .int .i64 ((rm : Int) + 1), .int .i64 (x : Int)] 87)) hPr
                have hbr := hbr.alloc hbr.size (.cells #[.int .i64 (DD + rs), .int .i64 ((rm : Int) + 1), .int .i64 (x : Int)] 87)
                have hbP1 := hbP1.alloc (Nat.le_of_lt hPr) (.cells #[.int .i64 (DD + rs), .int .i64 ((rm : Int) + 1), .int .i64 (x : Int)] 87)
                have hR2 : W2.heap.size < (W2.alloc (.cells #[.int .i64 (DD + rs), .int .i64 ((rm : Int) + 1), .int .i64 (x : Int)] 87)).heap.size := by simp
                have hPa : P < (W2.alloc (.cells #[.int .i64 (DD + rs), .int .i64 ((rm : Int) + 1), .int .i64 (x : Int)] 87)).heap.size := by simp; omega
                clear hPr
                clear a0 a1 hwD hwS
                generalize W2.alloc (.cells #[.int .i64 (DD + rs), .int .i64 ((rm : Int) + 1), .int .i64 (x : Int)] 87) = W3 at *
                generalize W2.heap.size = R2 at *
                have hPr := hPa
                clear hPa
                obtain ⟨⟨y0, y1, y2⟩, -⟩ := hp i hi1
                rw [HCI.out] at y0 y1 y2
                simp only at y0 y1 y2
                refine region_still_tail 5 (by kernel_rfl) (by kernel_rfl) ?_
                simp only [List.take_succ_cons, List.take_zero, List.drop_succ_cons, List.drop_zero]
                refine St.step (fun K hK => ?_); go_simp; refine hK.out _ ?_; clear hK K
                refine St.step (fun K hK => ?_); go_simp; refine hK.out _ ?_; clear hK K
                refine St.step (fun K hK => ?_); go_simp; refine hK.out _ ?_; clear hK K
                refine St.step (fun K hK => ?_); go_simp; refine hK.out _ ?_; clear hK K
                refine St.step (fun K hK => ?_); go_simp; refine hK.out _ ?_; clear hK K
                refine St.nil ?_
                have hp := hp.below ((Below.refl W3.heap.size W3).drew) hPr
                have hbr := hbr.drew
                have hbP1 := hbP1.drew
                have x0 : W3.drew.cell? ⟨R2, 0, none⟩ = some (.int .i64 (DD + rs)) := x0
                have x1 : W3.drew.cell? ⟨R2, 1, none⟩ = some (.int .i64 ((rm : Int) + 1)) := x1
                have x2 : W3.drew.cell? ⟨R2, 2, none⟩ = some (.int .i64 (x : Int)) := x2
                have hR2 : R2 < W3.drew.heap.size := hR2
                have hPr : P < W3.drew.heap.size := hPr
                clear y0 y1 y2
                generalize W3.drew = W4 at *
                go_wp2_with fail
                refine (HBT.out _).mono ?_; rintro e' w5 ⟨rfl, b5⟩
                have hp := hp.below b5 hPr
                have hbr := hbr.trans (b5.mono hbr.size)
                have hbP1 := hbP1.trans (b5.mono (Nat.le_of_lt hPr))
                have x0 := (b5.cell (p := ⟨R2, 0, none⟩) hR2).trans x0
                have x1 := (b5.cell (p := ⟨R2, 1, none⟩) hR2).trans x1
                have x2 := (b5.cell (p := ⟨R2, 2, none⟩) hR2).trans x2
                have hPr5 : P < w5.heap.size := Nat.lt_of_lt_of_le hPr b5.size
                have hR5 : R2 < w5.heap.size := Nat.lt_of_lt_of_le hR2 b5.size
                obtain ⟨bt, hbt⟩ : ∃ bt, betterB np ⟨cs, cm, cn⟩ = bt := ⟨_, rfl⟩
                have HST3 : Hid (innP (stF zs) T M e (planOf (stF zs) T M e) i (j + 1) = if bt = true then np else ⟨cs, cm, cn⟩) := Lib.hid (by
                  rw [HSTEP.out, hbt]
                  cases bt
                  · rw [if_neg (fun h => by simpa using h.2.2)]; rfl
                  · rw [if_pos ⟨hgap, hsk, rfl⟩]; rfl)
                rw [hbt]
                clear hbt b5
                cases bt
                · have HS2 : Hid (innP (stF zs) T M e (planOf (stF zs) T M e) i (j + 1) = innP (stF zs) T M e (planOf (stF zs) T M e) i j) := Lib.hid (by rw [HST3.out, HC2.out]; rfl)
                  go_wp2_with fail
                  go_roundw
                  case rel => exact ⟨x + 1, by omega, by omega, by go_num, hp.congr fun y hy => (tbIn_keep HS2.out y).trans (HTN.out y hy).symm, hbr, hbP1, hPr5⟩
                  case measure => simp [intOf]; omega
                · have HS2 : Hid (innP (stF zs) T M e (planOf (stF zs) T M e) i (j + 1) = np) := Lib.hid (by rw [HST3.out]; rfl)
                  have HSTO := Lib.hid (hp.store' i hi1 np (DD + rs) ((rm : Int) + 1) (x : Int) (by rw [HNP.out]) (by rw [HNP.out]; simp) (by rw [HNP.out]))
                  obtain ⟨⟨y0, y1, y2⟩, z0, z1, z2⟩ := hp i hi1
                  rw [HCI.out] at y0 y1 y2
                  simp only at y0 y1 y2
                  go_wp2_with fail
                  go_roundw
                  case rel => exact ⟨x + 1, by omega, by omega, by go_num, HSTO.out.congr fun y hy => (tbIn_put HS2.out y).trans (HTN.out y hy).symm, ((hbr.setCell (p := ⟨P, i * 3, none⟩) hwP _).setCell (p := ⟨P, i * 3 + 1, none⟩) hwP _).setCell (p := ⟨P, i * 3 + 2, none⟩) hwP _, ((hbP1.setCell (p := ⟨P, i * 3, none⟩) (Nat.le_refl _) _).setCell (p := ⟨P, i * 3 + 1, none⟩) (Nat.le_refl _) _).setCell (p := ⟨P, i * 3 + 2, none⟩) (Nat.le_refl _) _, by simp [World.setCell]; exact hPr5⟩
                  case measure => simp [intOf]; omega
              · have hk2 : decide ((x : Int) < (N : Int) - 1) = false := by have := HN.out; simp; omega
                go_upto_region 11 with fail
                have a0 : (wq.alloc (.cells #[.int .i64 rs, .int .i64 (rm : Int), .int .i64 (rn : Int)] 87)).cell? ⟨wq.heap.size, 0, none⟩ = some (.int .i64 rs) := by simp
                have a1 : (wq.alloc (.cells #[.int .i64 rs, .int .i64 (rm : Int), .int .i64 (rn : Int)] 87)).cell? ⟨wq.heap.size, 1, none⟩ = some (.int .i64 (rm : Int)) := by simp
                have hAl := (Below.refl wq.heap.size wq).alloc (Nat.le_refl _) (.cells #[.int .i64 rs, .int .i64 (rm : Int), .int .i64 (rn : Int)] 87)
                have dx := (hAl.cell (p := ⟨b, off + x, none⟩) hbW).trans dx
                have di := (hAl.cell (p := ⟨b, off + i, none⟩) hbW).trans di
                have q1 := (hAl.cell (p := ⟨Q, 1, none⟩) hQW).trans q1
                have hp := hp.below ((Below.refl wq.heap.size wq).alloc (Nat.le_refl _) (.cells #[.int .i64 rs, .int .i64 (rm : Int), .int .i64 (rn : Int)] 87)) hPr
                have hbr := hbr.alloc hbr.size (.cells #[.int .i64 rs, .int .i64 (rm : Int), .int .i64 (rn : Int)] 87)
                have hbP1 := hbP1.alloc hPW (.cells #[.int .i64 rs, .int .i64 (rm : Int), .int .i64 (rn : Int)] 87)
                have hPa : P < (wq.alloc (.cells #[.int .i64 rs, .int .i64 (rm : Int), .int .i64 (rn : Int)] 87)).heap.size := by simp; omega
                clear hPr
                clear r0 r1 r2 q2 hAl
                generalize wq.alloc (.cells #[.int .i64 rs, .int .i64 (rm : Int), .int .i64 (rn : Int)] 87) = W at *
                generalize wq.heap.size = R1 at *
                have hPr := hPa
                clear hPa
                go_quiet (fail)
                have a0 : (W.drewN nq).cell? ⟨R1, 0, none⟩ = some (.int .i64 rs) := a0
                have a1 : (W.drewN nq).cell? ⟨R1, 1, none⟩ = some (.int .i64 (rm : Int)) := a1
                have hp := hp.below (below_drewN (Below.refl W.heap.size W) nq) hPr
                have hbr := below_drewN hbr nq
                have hbP1 := below_drewN hbP1 nq
                have hPr : P < (W.drewN nq).heap.size := by simpa using hPr
                clear dx di q1 hw1 hw2
                generalize W.drewN nq = W2 at *
                go_upto_region 13 with fail
                have x0 : (W2.alloc (.cells #[.int .i64 (DD + rs), .int .i64 ((rm : Int) + 1), .int .i64 (x : Int)] 87)).cell? ⟨W2.heap.size, 0, none⟩ = some (.int .i64 (DD + rs)) := by simp
                have x1 : (W2.alloc (.cells #[.int .i64 (DD + rs), .int .i64 ((rm : Int) + 1), .int .i64 (x : Int)] 87)).cell? ⟨W2.heap.size, 1, none⟩ = some (.int .i64 ((rm : Int) + 1)) := by simp
                have x2 : (W2.alloc (.cells #[.int .i64 (DD + rs), .int .i64 ((rm : Int) + 1), .int .i64 (x : Int)] 87)).cell? ⟨W2.heap.size, 2, none⟩ = some (.int .i64 (x : Int)) := by simp
                have hp := hp.below ((Below.refl W2.heap.size W2).alloc (Nat.le_refl _) (.cells #[.int .i64 (DD + rs), .int .i64 ((rm : Int) + 1), .int .i64 (x : Int)] 87)) hPr
                have hbr := hbr.alloc hbr.size (.cells #[.int .i64 (DD + rs), .int .i64 ((rm : Int) + 1), .int .i64 (x : Int)] 87)
                have hbP1 := hbP1.alloc (Nat.le_of_lt hPr) (.cells #[.int .i64 (DD + rs), .int .i64 ((rm : Int) + 1), .int .i64 (x : Int)] 87)
                have hR2 : W2.heap.size < (W2.alloc (.cells #[.int .i64 (DD + rs), .int .i64 ((rm : Int) + 1), .int .i64 (x : Int)] 87)).heap.size := by simp
                have hPa : P < (W2.alloc (.cells #[.int .i64 (DD + rs), .int .i64 ((rm : Int) + 1), .int .i64 (x : Int)] 87)).heap.size := by simp; omega
                clear hPr
                clear a0 a1 hwD hwS
                generalize W2.alloc (.cells #[.int .i64 (DD + rs), .int .i64 ((rm : Int) + 1), .int .i64 (x : Int)] 87) = W3 at *
                generalize W2.heap.size = R2 at *
                have hPr := hPa
                clear hPa
                obtain ⟨⟨y0, y1, y2⟩, -⟩ := hp i hi1
                rw [HCI.out] at y0 y1 y2
                simp only at y0 y1 y2
                refine region_still_tail 5 (by kernel_rfl) (by kernel_rfl) ?_
                simp only [List.take_succ_cons, List.take_zero, List.drop_succ_cons, List.drop_zero]
                refine St.step (fun K hK => ?_); go_simp; refine hK.out _ ?_; clear hK K
                refine St.step (fun K hK => ?_); go_simp; refine hK.out _ ?_; clear hK K
                refine St.step (fun K hK => ?_); go_simp; refine hK.out _ ?_; clear hK K
                refine St.step (fun K hK => ?_); go_simp; refine hK.out _ ?_; clear hK K
                refine St.step (fun K hK => ?_); go_simp; refine hK.out _ ?_; clear hK K
                refine St.nil ?_
                have hp := hp.below ((Below.refl W3.heap.size W3).drew) hPr
                have hbr := hbr.drew
                have hbP1 := hbP1.drew
                have x0 : W3.drew.cell? ⟨R2, 0, none⟩ = some (.int .i64 (DD + rs)) := x0
                have x1 : W3.drew.cell? ⟨R2, 1, none⟩ = some (.int .i64 ((rm : Int) + 1)) := x1
                have x2 : W3.drew.cell? ⟨R2, 2, none⟩ = some (.int .i64 (x : Int)) := x2
                have hR2 : R2 < W3.drew.heap.size := hR2
                have hPr : P < W3.drew.heap.size := hPr
                clear y0 y1 y2
                generalize W3.drew = W4 at *
                go_wp2_with fail
                refine (HBT.out _).mono ?_; rintro e' w5 ⟨rfl, b5⟩
                have hp := hp.below b5 hPr
                have hbr := hbr.trans (b5.mono hbr.size)
                have hbP1 := hbP1.trans (b5.mono (Nat.le_of_lt hPr))
                have x0 := (b5.cell (p := ⟨R2, 0, none⟩) hR2).trans x0
                have x1 := (b5.cell (p := ⟨R2, 1, none⟩) hR2).trans x1
                have x2 := (b5.cell (p := ⟨R2, 2, none⟩) hR2).trans x2
                have hPr5 : P < w5.heap.size := Nat.lt_of_lt_of_le hPr b5.size
                have hR5 : R2 < w5.heap.size := Nat.lt_of_lt_of_le hR2 b5.size
                obtain ⟨bt, hbt⟩ : ∃ bt, betterB np ⟨cs, cm, cn⟩ = bt := ⟨_, rfl⟩
                have HST3 : Hid (innP (stF zs) T M e (planOf (stF zs) T M e) i (j + 1) = if bt = true then np else ⟨cs, cm, cn⟩) := Lib.hid (by
                  rw [HSTEP.out, hbt]
                  cases bt
                  · rw [if_neg (fun h => by simpa using h.2.2)]; rfl
                  · rw [if_pos ⟨hgap, hsk, rfl⟩]; rfl)
                rw [hbt]
                clear hbt b5
                cases bt
                · have HS2 : Hid (innP (stF zs) T M e (planOf (stF zs) T M e) i (j + 1) = innP (stF zs) T M e (planOf (stF zs) T M e) i j) := Lib.hid (by rw [HST3.out, HC2.out]; rfl)
                  go_wp2_with fail
                  go_roundw
                  case rel => exact ⟨x + 1, by omega, by omega, by go_num, hp.congr fun y hy => (tbIn_keep HS2.out y).trans (HTN.out y hy).symm, hbr, hbP1, hPr5⟩
                  case measure => simp [intOf]; omega
                · have HS2 : Hid (innP (stF zs) T M e (planOf (stF zs) T M e) i (j + 1) = np) := Lib.hid (by rw [HST3.out]; rfl)
                  have HSTO := Lib.hid (hp.store' i hi1 np (DD + rs) ((rm : Int) + 1) (x : Int) (by rw [HNP.out]) (by rw [HNP.out]; simp) (by rw [HNP.out]))
                  obtain ⟨⟨y0, y1, y2⟩, z0, z1, z2⟩ := hp i hi1
                  rw [HCI.out] at y0 y1 y2
                  simp only at y0 y1 y2
                  go_wp2_with fail
                  go_roundw
                  case rel => exact ⟨x + 1, by omega, by omega, by go_num, HSTO.out.congr fun y hy => (tbIn_put HS2.out y).trans (HTN.out y hy).symm, ((hbr.setCell (p := ⟨P, i * 3, none⟩) hwP _).setCell (p := ⟨P, i * 3 + 1, none⟩) hwP _).setCell (p := ⟨P, i * 3 + 2, none⟩) hwP _, ((hbP1.setCell (p := ⟨P, i * 3, none⟩) (Nat.le_refl _) _).setCell (p := ⟨P, i * 3 + 1, none⟩) (Nat.le_refl _) _).setCell (p := ⟨P, i * 3 + 2, none⟩) (Nat.le_refl _) _, by simp [World.setCell]; exact hPr5⟩
                  case measure => simp [intOf]; omega
          · have hgd : decide (sx - si ≤ M) = false := by simp; omega
            have HDONE : Hid (innP (stF zs) T M e (planOf (stF zs) T M e) i (x - (i + 1)) = planOf (stF zs) T M e i) := Lib.hid (by
              have h1 := innP_stop (tb := planOf (stF zs) T M e) HG.out (x - (i + 1)) (i := i) (by omega) (by rw [show i + 1 + (x - (i + 1)) = x by omega, HSI.out, HSX.out]; omega) (e - i - (x - (i + 1))) (by omega)
              rw [show x - (i + 1) + (e - i - (x - (i + 1))) = e - i by omega, ← planOf_eq] at h1
              exact h1.symm)
            go_upto_region 7 with fail
            go_quiet (fail)
            go_wp2_with fail
            go_roundw
            case rel => exact ⟨i, by omega, by go_num, (hp.below (below_drewN (Below.refl wr.heap.size wr) nq) hPr).congr fun y hy => tbIn_done HDONE.out y, below_drewN hbr nq, below_drewN hbP1 nq, by simpa using hPr⟩
            case measure => simp [intOf]
        · have hxe : x = e + 1 := by omega
          have hgd : decide ((x : Int) ≤ (N : Int) - 1) = false := by have := HN.out; simp; omega
          have HDONE : Hid (innP (stF zs) T M e (planOf (stF zs) T M e) i (x - (i + 1)) = planOf (stF zs) T M e i) := Lib.hid (by
            rw [hxe, show e + 1 - (i + 1) = e - i by omega, ← planOf_eq])
          clear hxe hx
          go_upto_region 7 with fail
          go_quiet (fail)
          go_wp2_with fail
          go_roundw
          case rel => exact ⟨i, by omega, by go_num, (hp.below (below_drewN (Below.refl wr.heap.size wr) nq) hPr).congr fun y hy => tbIn_done HDONE.out y, below_drewN hbr nq, below_drewN hbP1 nq, by simpa using hPr⟩
          case measure => simp [intOf]

end Go.Proofs.Ytgbdmgmbdjajeaa
