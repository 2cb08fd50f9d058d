/- The reference's CheckBreaks. -/
import Derived.Test.YtiphipgheadakaaChkB
import Derived.Test.YtiphipgheadakaaRChkP
namespace Go.Proofs.Ytiphipgheadakaa
set_option linter.unusedVariables false
set_option linter.unusedSimpArgs false
open Go.RowKit

set_option maxRecDepth 100000 in
set_option maxHeartbeats 16000000 in
theorem rCheckBreaks_any (v : Value) (bs : List Bk) (w : World) (hS : Bks w v bs) :
    Calls Try.prog 18 #[v] w fun e w' => e = .returned (.int .i64 (bkF bs)) ∧ Below w.heap.size w w' := by
  obtain ⟨a, cap, rfl⟩ := hS.parts
  have hlen := hS.max.2
  obtain ⟨n, hn⟩ : ∃ n, bs.length = n := ⟨_, rfl⟩
  obtain ⟨Q, hQ⟩ : ∃ Q, bkF bs = Q := ⟨_, rfl⟩
  rw [hQ]
  have HN := Lib.hid hn; have HS := Lib.hid hS
  rw [hn] at hlen ⊢
  unfold maxLen at hlen
  by_cases hbig : 200 < n
  · have e1 : Q = 2 := by rw [← hQ]; exact bkF_large bs (by omega)
    subst e1
    clear hn hQ hS
    go_enter Try.func18, Try.ntmps18
    go_wp2_with fail
    go_ret
    exact ⟨rfl, Below.refl _ _⟩
  · have hR : Q = bksF bs := by rw [← hQ, bkF_few bs (by omega)]
    have kB : decide ((200 : Int) < (n : Int)) = false := by simp; omega
    have kB2 : decide (200 < n) = false := by simp; omega
    have HF0 : Hid (∀ k, k < n → (∀ i, i < k → bksE bs i = 0) → bksE bs k ≠ 0 → Q = bksE bs k) := Lib.hid (fun k hk h hz => by rw [hR]; exact bksF_at (by omega) h hz)
    have HG0 : Hid ((∀ i, i < n → bksE bs i = 0) → Q = 0) := Lib.hid (fun h => by rw [hR]; exact (bksF_zero bs).2 (fun i hi => h i (by omega)))
    clear hn hQ hS hR
    go_enter Try.func18, Try.ntmps18
    go_wp2_with fail
    clear kB kB2
    go_loopw [3] (fun v3 wr => ∃ k : Nat, k ≤ n ∧ v3 = .int .i64 (k : Int) ∧ Below w.heap.size w wr ∧ Hid (∀ i, i < k → bksE bs i = 0)) (fun v _ => n - (intOf v).toNat)
    case atStart => exact ⟨0, Nat.zero_le _, rfl, Below.refl _ _, Lib.hid (fun i hi => by omega)⟩
    case round =>
      obtain ⟨k, hk, rfl, hbr, HK⟩ := hrel
      by_cases hk2 : k < n
      rotate_left
      · have hkn : k = n := by omega
        subst hkn
        have e1 : Q = 0 := HG0.out HK.out
        subst e1
        have kD : decide ((k : Int) < (k : Int)) = false := by simp
        have kD2 : decide (k < k) = false := by simp
        clear HF0 HG0
        go_wp2_with fail
        go_ret
        exact ⟨rfl, hbr⟩
      · have hSW := HS.out.below hbr (Nat.le_refl _)
        obtain ⟨b, off, cap', hv, hlt, -, -⟩ := hSW.spot (by rw [HN.out]; omega)
        simp only [Value.slice.injEq] at hv
        obtain ⟨rfl, -, rfl⟩ := hv
        obtain ⟨c0, c1, c2⟩ := hSW.cells k (by rw [HN.out]; exact hk2)
        have HAT := Lib.hid (HF0.out k hk2 HK.out)
        have HNX : Hid (bksE bs k = 0 → ∀ i, i < k + 1 → bksE bs i = 0) := Lib.hid (fun h i hi => by
          by_cases e : i = k
          · subst e; exact h
          · exact HK.out i (by omega))
        have HZ : Hid (bksE bs k = bkE (preE bs k) (twB bs k (bs.getD k bk0).ev) (bs.getD k bk0)) := Lib.hid rfl
        have HCJ : Hid (∀ j W, j < n → Below w.heap.size w W → b < W.heap.size ∧ W.cell? ⟨b, off + j * 3, none⟩ = some (.int .i64 (bs.getD j bk0).ev) ∧ W.cell? ⟨b, off + j * 3 + 2, none⟩ = some (.int .i64 (bs.getD j bk0).en)) := Lib.hid (fun j W hj hb => by
          have h := (HS.out.below hb (Nat.le_refl _)).cells j (by rw [HN.out]; exact hj)
          exact ⟨Nat.lt_of_lt_of_le ((HS.out.block (by rw [HN.out]; omega)).1) hb.size, h.1, h.2.2⟩)
        obtain ⟨z, hz⟩ : ∃ z, bksE bs k = z := ⟨_, rfl⟩
        obtain ⟨pe, hpe⟩ : ∃ pe, preE bs k = pe := ⟨_, rfl⟩
        obtain ⟨x, hx⟩ : ∃ x, bs.getD k bk0 = x := ⟨_, rfl⟩
        rw [hx] at c0 c1 c2 HZ
        obtain ⟨tw, htw⟩ : ∃ tw, twB bs k x.ev = tw := ⟨_, rfl⟩
        rw [hz] at HAT HNX HZ
        rw [hpe, htw] at HZ
        have HPE := Lib.hid hpe; have HTW := Lib.hid htw
        have hk5 : k < 200 := by omega
        have kI : (k : Int) < (n : Int) := by omega
        have hwI : IntKind.i64.wrap ((k : Int) + 1) = (k : Int) + 1 := IntWalk.i64_in _ ⟨by omega, by omega⟩
        have PX := BBox.new wr x 35
        have hbr := hbr.alloc (o := .cells #[.int .i64 x.ev, .int .i64 x.be, .int .i64 x.en] 35) hbr.size
        clear hz hpe htw hx hSW HK HF0 HG0
        go_upto_region 7 with fail
        generalize wr.alloc (.cells #[.int .i64 x.ev, .int .i64 x.be, .int .i64 x.en] 35) = W9 at *
        generalize wr.heap.size = X9 at *
        clear c0 c1 c2
        have y0 := PX.c0; have y1 := PX.c1; have y2 := PX.c2; have yl := PX.lt
        cases hV : inB x.ev 0 4294967295
        · have e1 : Q = 1 := by
            have h5 : z = 1 := by rw [HZ.out]; exact bkE_ev hV
            rw [HAT.out (by rw [h5]; decide), h5]
          subst e1
          go_wp2_with fail
          refine (rwithin7_any _ _ _ _).mono ?_; rintro e w' ⟨rfl, rfl⟩
          rw [hV]
          go_wp2_with fail
          go_ret
          exact ⟨rfl, hbr⟩
        · cases hT : inB x.be 0 1000000000000000
          · have e1 : Q = 1 := by
              have h5 : z = 1 := by rw [HZ.out]; exact bkE_be hT
              rw [HAT.out (by rw [h5]; decide), h5]
            subst e1
            go_wp2_with fail
            refine (rwithin7_any _ _ _ _).mono ?_; rintro e w' ⟨rfl, rfl⟩
            rw [hV]
            go_wp2_with fail
            refine (rwithin7_any _ _ _ _).mono ?_; rintro e w' ⟨rfl, rfl⟩
            rw [hT]
            go_wp2_with fail
            go_ret
            exact ⟨rfl, hbr⟩
          · cases hE : inB x.en (-1) 1000000000000000
            · have e1 : Q = 1 := by
                have h5 : z = 1 := by rw [HZ.out]; exact bkE_en hE
                rw [HAT.out (by rw [h5]; decide), h5]
              subst e1
              go_wp2_with fail
              refine (rwithin7_any _ _ _ _).mono ?_; rintro e w' ⟨rfl, rfl⟩
              rw [hV]
              go_wp2_with fail
              refine (rwithin7_any _ _ _ _).mono ?_; rintro e w' ⟨rfl, rfl⟩
              rw [hT]
              go_wp2_with fail
              refine (rwithin7_any _ _ _ _).mono ?_; rintro e w' ⟨rfl, rfl⟩
              rw [hE]
              go_wp2_with fail
              go_ret
              exact ⟨rfl, hbr⟩
            · have HZ2 := Lib.hid (HZ.out.trans (bkE_rest hV hT hE))
              have hEb := inB_iff.1 hE
              obtain ⟨E1, hE1⟩ : ∃ E1, (x.en != -1) = E1 := ⟨_, rfl⟩
              have hE2 : (x.en == -1) = !E1 := by rw [← hE1, bne, Bool.not_not]
              rw [hE1] at HZ2
              cases E1
              · replace hE2 : (x.en == -1) = true := hE2
                have HZ3 : Hid (z = fstF [fIf (pe == -1) 11, fIf (decide (x.be < pe)) 8, fIf tw 7]) := Lib.hid HZ2.out
                by_cases hk0 : 0 < k
                rotate_left
                · have hkd : decide ((0 : Int) < (k : Int)) = false := by simp; omega
                  have hkd2 : decide (0 < k) = false := by simp; omega
                  have hpe : pe = 0 := by
                    rw [← HPE.out]
                    have : k = 0 := by omega
                    rw [this]; rfl
                  have HZ4 : Hid (z = fIf tw 7) := Lib.hid (by
                    rw [HZ3.out, hpe]
                    have : decide (x.be < 0) = false := decide_eq_false (by have := inB_iff.1 hT; omega)
                    rw [this]
                    cases tw <;> rfl)
                  clear hpe hk0
                  go_wp2_with fail
                  refine (rwithin7_any _ _ _ _).mono ?_; rintro e w' ⟨rfl, rfl⟩
                  rw [hV]
                  go_wp2_with fail
                  refine (rwithin7_any _ _ _ _).mono ?_; rintro e w' ⟨rfl, rfl⟩
                  rw [hT]
                  go_wp2_with fail
                  refine (rwithin7_any _ _ _ _).mono ?_; rintro e w' ⟨rfl, rfl⟩
                  rw [hE]
                  go_upto_region 13 with fail
                  go_quiet (fail)
                  have hbr := below_drewN hbr nq
                  have PX := PX.drewN nq
                  clear y0 y1 y2 yl
                  generalize W9.drewN nq = W8 at *
                  go_wp2_with fail
                  go_loopw [5] (fun v5 wi => ∃ j : Nat, j ≤ k ∧ v5 = .int .i64 (j : Int) ∧ Below w.heap.size w wi ∧ BBox wi X9 x ∧ Hid (∀ i, i < j → (bs.getD i bk0).ev ≠ x.ev)) (fun v5 _ => k - (intOf v5).toNat)
                  case atStart => exact ⟨0, Nat.zero_le _, rfl, hbr, PX, Lib.hid (fun i hi => by omega)⟩
                  case round =>
                    clear hbr PX
                    obtain ⟨j, hj, rfl, hbr, PX, HJ⟩ := hrel
                    by_cases hjk : j < k
                    rotate_left
                    · have htw : tw = false := by
                        rw [← HTW.out]
                        unfold twB
                        rw [List.any_eq_false]
                        intro i hi
                        have := HJ.out i (by have := List.mem_range.1 hi; omega)
                        simpa using this
                      have e5 : z = 0 := by rw [HZ4.out, htw]; rfl
                      have HN2 := Lib.hid (HNX.out e5)
                      have jD : decide ((j : Int) < (k : Int)) = false := by simp; omega
                      have jD2 : decide (j < k) = false := by simp; omega
                      clear htw e5 hjk
                      go_wp2_with fail
                      go_roundw
                      case rel => exact ⟨k + 1, by omega, by go_num, hbr, HN2⟩
                      case measure => simp [intOf]; omega
                    · obtain ⟨cl, c0, -⟩ := HCJ.out j wr (by omega) hbr
                      have HTJ : Hid ((bs.getD j bk0).ev = x.ev → tw = true) := Lib.hid (fun h => by
                        rw [← HTW.out]
                        unfold twB
                        rw [List.any_eq_true]
                        exact ⟨j, List.mem_range.2 hjk, by simpa using h⟩)
                      have HJN : Hid ((bs.getD j bk0).ev ≠ x.ev → ∀ i, i < j + 1 → (bs.getD i bk0).ev ≠ x.ev) := Lib.hid (fun h i hi => by
                        by_cases e : i = j
                        · subst e; exact h
                        · exact HJ.out i (by omega))
                      obtain ⟨y, hy⟩ : ∃ y, (bs.getD j bk0).ev = y := ⟨_, rfl⟩
                      rw [hy] at c0 HTJ HJN
                      have y0 := PX.c0; have yl := PX.lt
                      have jI : (j : Int) < (k : Int) := by omega
                      have jN : (j : Int) < (n : Int) := by omega
                      have hwJ : IntKind.i64.wrap ((j : Int) + 1) = (j : Int) + 1 := IntWalk.i64_in _ ⟨by omega, by omega⟩
                      clear hy HJ
                      by_cases he : y = x.ev
                      · have hq : (y == x.ev) = true := by simp; exact he
                        have e1 : Q = 7 := by
                          have h5 : z = 7 := by rw [HZ4.out, HTJ.out he]; rfl
                          rw [HAT.out (by rw [h5]; decide), h5]
                        subst e1
                        clear he
                        go_upto_region 18 with fail
                        go_quiet (fail)
                        have hbr := below_drewN hbr nq
                        clear c0 y0 yl PX cl
                        generalize wr.drewN nq = W7 at *
                        go_wp2_with fail
                        go_ret
                        exact ⟨rfl, hbr⟩
                      · have hq : (y == x.ev) = false := by simp; exact he
                        have HJ2 := Lib.hid (HJN.out he)
                        clear he
                        go_upto_region 18 with fail
                        go_quiet (fail)
                        have hbr := below_drewN hbr nq
                        have PX := PX.drewN nq
                        clear c0 y0 yl cl
                        generalize wr.drewN nq = W7 at *
                        go_wp2_with fail
                        go_roundw
                        case rel => exact ⟨j + 1, by omega, by go_num, hbr, PX, HJ2⟩
                        case measure => simp [intOf]; omega
                · have hk1 : (0 : Int) < (k : Int) := by omega
                  have i2 : (0 : Int) ≤ (k : Int) - 1 := by omega
                  have i6 : (1 : Int) ≤ (k : Int) := by omega
                  have i3 : (k : Int) - 1 < (n : Int) := by omega
                  have i4 : ((k : Int) - 1).toNat = k - 1 := by omega
                  have i5 : IntKind.i64.wrap ((k : Int) - 1) = (k : Int) - 1 := IntWalk.i64_in _ ⟨by omega, by omega⟩
                  obtain ⟨pl, -, p2⟩ := HCJ.out (k - 1) W9 (by omega) hbr
                  have hpp : (bs.getD (k - 1) bk0).en = pe := by
                    rw [← HPE.out]
                    obtain ⟨m, rfl⟩ : ∃ m, k = m + 1 := ⟨k - 1, by omega⟩
                    rfl
                  rw [hpp] at p2
                  clear hpp
                  by_cases hp1 : pe = -1
                  · have hq1 : (pe == -1) = true := by simp; exact hp1
                    have e1 : Q = 11 := by
                      have h5 : z = 11 := by rw [HZ3.out, hq1]; rfl
                      rw [HAT.out (by rw [h5]; decide), h5]
                    subst e1
                    clear hp1
                    go_wp2_with fail
                    refine (rwithin7_any _ _ _ _).mono ?_; rintro e w' ⟨rfl, rfl⟩
                    rw [hV]
                    go_wp2_with fail
                    refine (rwithin7_any _ _ _ _).mono ?_; rintro e w' ⟨rfl, rfl⟩
                    rw [hT]
                    go_wp2_with fail
                    refine (rwithin7_any _ _ _ _).mono ?_; rintro e w' ⟨rfl, rfl⟩
                    rw [hE]
                    go_wp2_with fail
                    go_ret
                    exact ⟨rfl, hbr⟩
                  · have hq1 : (pe == -1) = false := by simp; exact hp1
                    by_cases hp2 : x.be < pe
                    · have e1 : Q = 8 := by
                        have h5 : z = 8 := by rw [HZ3.out, hq1, decide_eq_true hp2]; rfl
                        rw [HAT.out (by rw [h5]; decide), h5]
                      subst e1
                      clear hp1
                      go_wp2_with fail
                      refine (rwithin7_any _ _ _ _).mono ?_; rintro e w' ⟨rfl, rfl⟩
                      rw [hV]
                      go_wp2_with fail
                      refine (rwithin7_any _ _ _ _).mono ?_; rintro e w' ⟨rfl, rfl⟩
                      rw [hT]
                      go_wp2_with fail
                      refine (rwithin7_any _ _ _ _).mono ?_; rintro e w' ⟨rfl, rfl⟩
                      rw [hE]
                      go_upto_region 13 with fail
                      go_quiet (fail)
                      have hbr := below_drewN hbr nq
                      generalize W9.drewN nq = W8 at *
                      go_wp2_with fail
                      go_ret
                      exact ⟨rfl, hbr⟩
                    · have hp3 : decide (x.be < pe) = false := decide_eq_false hp2
                      have HZ4 : Hid (z = fIf tw 7) := Lib.hid (by
                        rw [HZ3.out, hq1, hp3]
                        cases tw <;> rfl)
                      clear hp1 hp2
                      go_wp2_with fail
                      refine (rwithin7_any _ _ _ _).mono ?_; rintro e w' ⟨rfl, rfl⟩
                      rw [hV]
                      go_wp2_with fail
                      refine (rwithin7_any _ _ _ _).mono ?_; rintro e w' ⟨rfl, rfl⟩
                      rw [hT]
                      go_wp2_with fail
                      refine (rwithin7_any _ _ _ _).mono ?_; rintro e w' ⟨rfl, rfl⟩
                      rw [hE]
                      go_upto_region 13 with fail
                      go_quiet (fail)
                      have hbr := below_drewN hbr nq
                      have PX := PX.drewN nq
                      clear y0 y1 y2 yl
                      generalize W9.drewN nq = W8 at *
                      go_wp2_with fail
                      go_loopw [5] (fun v5 wi => ∃ j : Nat, j ≤ k ∧ v5 = .int .i64 (j : Int) ∧ Below w.heap.size w wi ∧ BBox wi X9 x ∧ Hid (∀ i, i < j → (bs.getD i bk0).ev ≠ x.ev)) (fun v5 _ => k - (intOf v5).toNat)
                      case atStart => exact ⟨0, Nat.zero_le _, rfl, hbr, PX, Lib.hid (fun i hi => by omega)⟩
                      case round =>
                        clear hbr PX
                        obtain ⟨j, hj, rfl, hbr, PX, HJ⟩ := hrel
                        by_cases hjk : j < k
                        rotate_left
                        · have htw : tw = false := by
                            rw [← HTW.out]
                            unfold twB
                            rw [List.any_eq_false]
                            intro i hi
                            have := HJ.out i (by have := List.mem_range.1 hi; omega)
                            simpa using this
                          have e5 : z = 0 := by rw [HZ4.out, htw]; rfl
                          have HN2 := Lib.hid (HNX.out e5)
                          have jD : decide ((j : Int) < (k : Int)) = false := by simp; omega
                          have jD2 : decide (j < k) = false := by simp; omega
                          clear htw e5 hjk
                          go_wp2_with fail
                          go_roundw
                          case rel => exact ⟨k + 1, by omega, by go_num, hbr, HN2⟩
                          case measure => simp [intOf]; omega
                        · obtain ⟨cl, c0, -⟩ := HCJ.out j wr (by omega) hbr
                          have HTJ : Hid ((bs.getD j bk0).ev = x.ev → tw = true) := Lib.hid (fun h => by
                            rw [← HTW.out]
                            unfold twB
                            rw [List.any_eq_true]
                            exact ⟨j, List.mem_range.2 hjk, by simpa using h⟩)
                          have HJN : Hid ((bs.getD j bk0).ev ≠ x.ev → ∀ i, i < j + 1 → (bs.getD i bk0).ev ≠ x.ev) := Lib.hid (fun h i hi => by
                            by_cases e : i = j
                            · subst e; exact h
                            · exact HJ.out i (by omega))
                          obtain ⟨y, hy⟩ : ∃ y, (bs.getD j bk0).ev = y := ⟨_, rfl⟩
                          rw [hy] at c0 HTJ HJN
                          have y0 := PX.c0; have yl := PX.lt
                          have jI : (j : Int) < (k : Int) := by omega
                          have jN : (j : Int) < (n : Int) := by omega
                          have hwJ : IntKind.i64.wrap ((j : Int) + 1) = (j : Int) + 1 := IntWalk.i64_in _ ⟨by omega, by omega⟩
                          clear hy HJ
                          by_cases he : y = x.ev
                          · have hq : (y == x.ev) = true := by simp; exact he
                            have e1 : Q = 7 := by
                              have h5 : z = 7 := by rw [HZ4.out, HTJ.out he]; rfl
                              rw [HAT.out (by rw [h5]; decide), h5]
                            subst e1
                            clear he
                            go_upto_region 18 with fail
                            go_quiet (fail)
                            have hbr := below_drewN hbr nq
                            clear c0 y0 yl PX cl
                            generalize wr.drewN nq = W7 at *
                            go_wp2_with fail
                            go_ret
                            exact ⟨rfl, hbr⟩
                          · have hq : (y == x.ev) = false := by simp; exact he
                            have HJ2 := Lib.hid (HJN.out he)
                            clear he
                            go_upto_region 18 with fail
                            go_quiet (fail)
                            have hbr := below_drewN hbr nq
                            have PX := PX.drewN nq
                            clear c0 y0 yl cl
                            generalize wr.drewN nq = W7 at *
                            go_wp2_with fail
                            go_roundw
                            case rel => exact ⟨j + 1, by omega, by go_num, hbr, PX, HJ2⟩
                            case measure => simp [intOf]; omega
              · replace hE2 : (x.en == -1) = false := hE2
                by_cases hD : x.en ≤ x.be
                · have e1 : Q = 8 := by
                    have h5 : z = 8 := by rw [HZ2.out, decide_eq_true hD]; rfl
                    rw [HAT.out (by rw [h5]; decide), h5]
                  subst e1
                  go_wp2_with fail
                  refine (rwithin7_any _ _ _ _).mono ?_; rintro e w' ⟨rfl, rfl⟩
                  rw [hV]
                  go_wp2_with fail
                  refine (rwithin7_any _ _ _ _).mono ?_; rintro e w' ⟨rfl, rfl⟩
                  rw [hT]
                  go_wp2_with fail
                  refine (rwithin7_any _ _ _ _).mono ?_; rintro e w' ⟨rfl, rfl⟩
                  rw [hE]
                  go_wp2_with fail
                  go_ret
                  exact ⟨rfl, hbr⟩
                · have hD2 : decide (x.en ≤ x.be) = false := decide_eq_false hD
                  have HZ3 : Hid (z = fstF [fIf (pe == -1) 11, fIf (decide (x.be < pe)) 8, fIf tw 7]) := Lib.hid (by rw [HZ2.out, hD2]; rfl)
                  clear hD
                  by_cases hk0 : 0 < k
                  rotate_left
                  · have hkd : decide ((0 : Int) < (k : Int)) = false := by simp; omega
                    have hkd2 : decide (0 < k) = false := by simp; omega
                    have hpe : pe = 0 := by
                      rw [← HPE.out]
                      have : k = 0 := by omega
                      rw [this]; rfl
                    have HZ4 : Hid (z = fIf tw 7) := Lib.hid (by
                      rw [HZ3.out, hpe]
                      have : decide (x.be < 0) = false := decide_eq_false (by have := inB_iff.1 hT; omega)
                      rw [this]
                      cases tw <;> rfl)
                    clear hpe hk0
                    go_wp2_with fail
                    refine (rwithin7_any _ _ _ _).mono ?_; rintro e w' ⟨rfl, rfl⟩
                    rw [hV]
                    go_wp2_with fail
                    refine (rwithin7_any _ _ _ _).mono ?_; rintro e w' ⟨rfl, rfl⟩
                    rw [hT]
                    go_wp2_with fail
                    refine (rwithin7_any _ _ _ _).mono ?_; rintro e w' ⟨rfl, rfl⟩
                    rw [hE]
                    go_upto_region 13 with fail
                    go_quiet (fail)
                    have hbr := below_drewN hbr nq
                    have PX := PX.drewN nq
                    clear y0 y1 y2 yl
                    generalize W9.drewN nq = W8 at *
                    go_wp2_with fail
                    go_loopw [5] (fun v5 wi => ∃ j : Nat, j ≤ k ∧ v5 = .int .i64 (j : Int) ∧ Below w.heap.size w wi ∧ BBox wi X9 x ∧ Hid (∀ i, i < j → (bs.getD i bk0).ev ≠ x.ev)) (fun v5 _ => k - (intOf v5).toNat)
                    case atStart => exact ⟨0, Nat.zero_le _, rfl, hbr, PX, Lib.hid (fun i hi => by omega)⟩
                    case round =>
                      clear hbr PX
                      obtain ⟨j, hj, rfl, hbr, PX, HJ⟩ := hrel
                      by_cases hjk : j < k
                      rotate_left
                      · have htw : tw = false := by
                          rw [← HTW.out]
                          unfold twB
                          rw [List.any_eq_false]
                          intro i hi
                          have := HJ.out i (by have := List.mem_range.1 hi; omega)
                          simpa using this
                        have e5 : z = 0 := by rw [HZ4.out, htw]; rfl
                        have HN2 := Lib.hid (HNX.out e5)
                        have jD : decide ((j : Int) < (k : Int)) = false := by simp; omega
                        have jD2 : decide (j < k) = false := by simp; omega
                        clear htw e5 hjk
                        go_wp2_with fail
                        go_roundw
                        case rel => exact ⟨k + 1, by omega, by go_num, hbr, HN2⟩
                        case measure => simp [intOf]; omega
                      · obtain ⟨cl, c0, -⟩ := HCJ.out j wr (by omega) hbr
                        have HTJ : Hid ((bs.getD j bk0).ev = x.ev → tw = true) := Lib.hid (fun h => by
                          rw [← HTW.out]
                          unfold twB
                          rw [List.any_eq_true]
                          exact ⟨j, List.mem_range.2 hjk, by simpa using h⟩)
                        have HJN : Hid ((bs.getD j bk0).ev ≠ x.ev → ∀ i, i < j + 1 → (bs.getD i bk0).ev ≠ x.ev) := Lib.hid (fun h i hi => by
                          by_cases e : i = j
                          · subst e; exact h
                          · exact HJ.out i (by omega))
                        obtain ⟨y, hy⟩ : ∃ y, (bs.getD j bk0).ev = y := ⟨_, rfl⟩
                        rw [hy] at c0 HTJ HJN
                        have y0 := PX.c0; have yl := PX.lt
                        have jI : (j : Int) < (k : Int) := by omega
                        have jN : (j : Int) < (n : Int) := by omega
                        have hwJ : IntKind.i64.wrap ((j : Int) + 1) = (j : Int) + 1 := IntWalk.i64_in _ ⟨by omega, by omega⟩
                        clear hy HJ
                        by_cases he : y = x.ev
                        · have hq : (y == x.ev) = true := by simp; exact he
                          have e1 : Q = 7 := by
                            have h5 : z = 7 := by rw [HZ4.out, HTJ.out he]; rfl
                            rw [HAT.out (by rw [h5]; decide), h5]
                          subst e1
                          clear he
                          go_upto_region 18 with fail
                          go_quiet (fail)
                          have hbr := below_drewN hbr nq
                          clear c0 y0 yl PX cl
                          generalize wr.drewN nq = W7 at *
                          go_wp2_with fail
                          go_ret
                          exact ⟨rfl, hbr⟩
                        · have hq : (y == x.ev) = false := by simp; exact he
                          have HJ2 := Lib.hid (HJN.out he)
                          clear he
                          go_upto_region 18 with fail
                          go_quiet (fail)
                          have hbr := below_drewN hbr nq
                          have PX := PX.drewN nq
                          clear c0 y0 yl cl
                          generalize wr.drewN nq = W7 at *
                          go_wp2_with fail
                          go_roundw
                          case rel => exact ⟨j + 1, by omega, by go_num, hbr, PX, HJ2⟩
                          case measure => simp [intOf]; omega
                  · have hk1 : (0 : Int) < (k : Int) := by omega
                    have i2 : (0 : Int) ≤ (k : Int) - 1 := by omega
                    have i6 : (1 : Int) ≤ (k : Int) := by omega
                    have i3 : (k : Int) - 1 < (n : Int) := by omega
                    have i4 : ((k : Int) - 1).toNat = k - 1 := by omega
                    have i5 : IntKind.i64.wrap ((k : Int) - 1) = (k : Int) - 1 := IntWalk.i64_in _ ⟨by omega, by omega⟩
                    obtain ⟨pl, -, p2⟩ := HCJ.out (k - 1) W9 (by omega) hbr
                    have hpp : (bs.getD (k - 1) bk0).en = pe := by
                      rw [← HPE.out]
                      obtain ⟨m, rfl⟩ : ∃ m, k = m + 1 := ⟨k - 1, by omega⟩
                      rfl
                    rw [hpp] at p2
                    clear hpp
                    by_cases hp1 : pe = -1
                    · have hq1 : (pe == -1) = true := by simp; exact hp1
                      have e1 : Q = 11 := by
                        have h5 : z = 11 := by rw [HZ3.out, hq1]; rfl
                        rw [HAT.out (by rw [h5]; decide), h5]
                      subst e1
                      clear hp1
                      go_wp2_with fail
                      refine (rwithin7_any _ _ _ _).mono ?_; rintro e w' ⟨rfl, rfl⟩
                      rw [hV]
                      go_wp2_with fail
                      refine (rwithin7_any _ _ _ _).mono ?_; rintro e w' ⟨rfl, rfl⟩
                      rw [hT]
                      go_wp2_with fail
                      refine (rwithin7_any _ _ _ _).mono ?_; rintro e w' ⟨rfl, rfl⟩
                      rw [hE]
                      go_wp2_with fail
                      go_ret
                      exact ⟨rfl, hbr⟩
                    · have hq1 : (pe == -1) = false := by simp; exact hp1
                      by_cases hp2 : x.be < pe
                      · have e1 : Q = 8 := by
                          have h5 : z = 8 := by rw [HZ3.out, hq1, decide_eq_true hp2]; rfl
                          rw [HAT.out (by rw [h5]; decide), h5]
                        subst e1
                        clear hp1
                        go_wp2_with fail
                        refine (rwithin7_any _ _ _ _).mono ?_; rintro e w' ⟨rfl, rfl⟩
                        rw [hV]
                        go_wp2_with fail
                        refine (rwithin7_any _ _ _ _).mono ?_; rintro e w' ⟨rfl, rfl⟩
                        rw [hT]
                        go_wp2_with fail
                        refine (rwithin7_any _ _ _ _).mono ?_; rintro e w' ⟨rfl, rfl⟩
                        rw [hE]
                        go_upto_region 13 with fail
                        go_quiet (fail)
                        have hbr := below_drewN hbr nq
                        generalize W9.drewN nq = W8 at *
                        go_wp2_with fail
                        go_ret
                        exact ⟨rfl, hbr⟩
                      · have hp3 : decide (x.be < pe) = false := decide_eq_false hp2
                        have HZ4 : Hid (z = fIf tw 7) := Lib.hid (by
                          rw [HZ3.out, hq1, hp3]
                          cases tw <;> rfl)
                        clear hp1 hp2
                        go_wp2_with fail
                        refine (rwithin7_any _ _ _ _).mono ?_; rintro e w' ⟨rfl, rfl⟩
                        rw [hV]
                        go_wp2_with fail
                        refine (rwithin7_any _ _ _ _).mono ?_; rintro e w' ⟨rfl, rfl⟩
                        rw [hT]
                        go_wp2_with fail
                        refine (rwithin7_any _ _ _ _).mono ?_; rintro e w' ⟨rfl, rfl⟩
                        rw [hE]
                        go_upto_region 13 with fail
                        go_quiet (fail)
                        have hbr := below_drewN hbr nq
                        have PX := PX.drewN nq
                        clear y0 y1 y2 yl
                        generalize W9.drewN nq = W8 at *
                        go_wp2_with fail
                        go_loopw [5] (fun v5 wi => ∃ j : Nat, j ≤ k ∧ v5 = .int .i64 (j : Int) ∧ Below w.heap.size w wi ∧ BBox wi X9 x ∧ Hid (∀ i, i < j → (bs.getD i bk0).ev ≠ x.ev)) (fun v5 _ => k - (intOf v5).toNat)
                        case atStart => exact ⟨0, Nat.zero_le _, rfl, hbr, PX, Lib.hid (fun i hi => by omega)⟩
                        case round =>
                          clear hbr PX
                          obtain ⟨j, hj, rfl, hbr, PX, HJ⟩ := hrel
                          by_cases hjk : j < k
                          rotate_left
                          · have htw : tw = false := by
                              rw [← HTW.out]
                              unfold twB
                              rw [List.any_eq_false]
                              intro i hi
                              have := HJ.out i (by have := List.mem_range.1 hi; omega)
                              simpa using this
                            have e5 : z = 0 := by rw [HZ4.out, htw]; rfl
                            have HN2 := Lib.hid (HNX.out e5)
                            have jD : decide ((j : Int) < (k : Int)) = false := by simp; omega
                            have jD2 : decide (j < k) = false := by simp; omega
                            clear htw e5 hjk
                            go_wp2_with fail
                            go_roundw
                            case rel => exact ⟨k + 1, by omega, by go_num, hbr, HN2⟩
                            case measure => simp [intOf]; omega
                          · obtain ⟨cl, c0, -⟩ := HCJ.out j wr (by omega) hbr
                            have HTJ : Hid ((bs.getD j bk0).ev = x.ev → tw = true) := Lib.hid (fun h => by
                              rw [← HTW.out]
                              unfold twB
                              rw [List.any_eq_true]
                              exact ⟨j, List.mem_range.2 hjk, by simpa using h⟩)
                            have HJN : Hid ((bs.getD j bk0).ev ≠ x.ev → ∀ i, i < j + 1 → (bs.getD i bk0).ev ≠ x.ev) := Lib.hid (fun h i hi => by
                              by_cases e : i = j
                              · subst e; exact h
                              · exact HJ.out i (by omega))
                            obtain ⟨y, hy⟩ : ∃ y, (bs.getD j bk0).ev = y := ⟨_, rfl⟩
                            rw [hy] at c0 HTJ HJN
                            have y0 := PX.c0; have yl := PX.lt
                            have jI : (j : Int) < (k : Int) := by omega
                            have jN : (j : Int) < (n : Int) := by omega
                            have hwJ : IntKind.i64.wrap ((j : Int) + 1) = (j : Int) + 1 := IntWalk.i64_in _ ⟨by omega, by omega⟩
                            clear hy HJ
                            by_cases he : y = x.ev
                            · have hq : (y == x.ev) = true := by simp; exact he
                              have e1 : Q = 7 := by
                                have h5 : z = 7 := by rw [HZ4.out, HTJ.out he]; rfl
                                rw [HAT.out (by rw [h5]; decide), h5]
                              subst e1
                              clear he
                              go_upto_region 18 with fail
                              go_quiet (fail)
                              have hbr := below_drewN hbr nq
                              clear c0 y0 yl PX cl
                              generalize wr.drewN nq = W7 at *
                              go_wp2_with fail
                              go_ret
                              exact ⟨rfl, hbr⟩
                            · have hq : (y == x.ev) = false := by simp; exact he
                              have HJ2 := Lib.hid (HJN.out he)
                              clear he
                              go_upto_region 18 with fail
                              go_quiet (fail)
                              have hbr := below_drewN hbr nq
                              have PX := PX.drewN nq
                              clear c0 y0 yl cl
                              generalize wr.drewN nq = W7 at *
                              go_wp2_with fail
                              go_roundw
                              case rel => exact ⟨j + 1, by omega, by go_num, hbr, PX, HJ2⟩
                              case measure => simp [intOf]; omega

end Go.Proofs.Ytiphipgheadakaa
