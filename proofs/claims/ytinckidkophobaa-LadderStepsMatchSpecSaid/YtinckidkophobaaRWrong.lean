/- Wrong (reference). -/
import Derived.Test.YtinckidkophobaaRStepW
import Derived.Test.YtinckidkophobaaWrongW
import Derived.Test.YtinckidkophobaaRHull2
namespace Go.Proofs.Ytinckidkophobaa
set_option linter.unusedVariables false
set_option linter.unusedSimpArgs false
open Go.RowKit Go.Shelf Go.Deep

theorem Four.grown {W W' : World} {X : Nat} {r : Rung} {row : Option Nat} (h : Four W X r) (hg : W.grownBy W' row) (hne : some X ≠ row) : Four W' X r := by
  have e := hg.block X h.lt hne
  exact ⟨Nat.lt_of_lt_of_le h.lt hg.size, (World.cell?_of_block (w := W) (w' := W') (a := ⟨X, 0, none⟩) e).trans h.c0, (World.cell?_of_block (w := W) (w' := W') (a := ⟨X, 1, none⟩) e).trans h.c1, (World.cell?_of_block (w := W) (w' := W') (a := ⟨X, 2, none⟩) e).trans h.c2, (World.cell?_of_block (w := W) (w' := W') (a := ⟨X, 3, none⟩) e).trans h.c3⟩
/-- What the reference's Wrong keeps in a round. -/
structure Rw (w W : World) (Z Y : Nat) (r : Rung) (v : Value) (xs : List (Int × Int)) : Prop where
  row : W.ownsRow Z 37 2 v xs.length (fcells xs)
  ne : v.ownBlock ≠ some Y
  four : Four W Y r
  bel : Below Z w W
  le : Z ≤ W.heap.size
theorem Rw.below {w W W' : World} {Z Y : Nat} {r : Rung} {v : Value} {xs : List (Int × Int)} (h : Rw w W Z Y r v xs) (hb : Below W.heap.size W W') : Rw w W' Z Y r v xs :=
  ⟨ownsRow_kept h.row hb (Nat.le_refl _), h.ne, h.four.below hb h.four.lt, h.bel.trans (hb.mono h.le), Nat.le_trans h.le hb.size⟩
theorem fcells_zero (ys : List (Int × Int)) (h : 0 < ys.length) : (fcells ys)[0]? = some (.int .i64 (ys.getD 0 (0, 0)).1) := by
  cases ys with
  | nil => simp at h
  | cons y t => rfl
theorem Rw.app {w W w9 : World} {Z Y : Nat} {r : Rung} {v v' : Value} {xs : List (Int × Int)} {K I : Int} {o : Obj} (h : Rw w W Z Y r v xs) (hown : w9.ownsRow Z 37 2 v' (xs.length + 1) (fcells xs ++ [.int .i64 K, .int .i64 I])) (hg : (W.alloc o).grownBy w9 v.ownBlock) : Rw w w9 Z Y r v' (xs ++ [(K, I)]) := by
  rw [← fcells_snoc] at hown
  have hl : (xs ++ [(K, I)]).length = xs.length + 1 := by simp
  rw [← hl] at hown
  have h4 := (h.four.alloc o).grown hg (fun e => h.ne e.symm)
  have hz := h.le
  refine ⟨hown, fun e => ?_, h4, (h.bel.alloc h.le o).grown hg (by simp; omega) (fun q hq => (h.row.lt q hq).1), Nat.le_trans h.le (Nat.le_trans (by simp) hg.size)⟩
  obtain ⟨g, cp, hv, -, -⟩ := hown.form (by rw [hl]; omega)
  subst hv
  have e1 : g = Y := by simpa [Value.ownBlock] using e
  subst e1
  have c0 := World.ownsRow.cellAt hown 0 (by rw [hl]; omega)
  rw [h4.c0, fcells_zero _ (by rw [hl]; omega)] at c0
  simp at c0
theorem flA_le5 (b : Bool) (k : Int) (i : Nat) : (flA b k i).length ≤ 1 := by unfold flA; split <;> simp
theorem tallB_step (rs : List Rung) (k j : Nat) (r : Rung) (hr : rs.getD k rung0 = r) (hj : k + 1 + j < rs.length) : ((rs.drop (k + 1)).take (j + 1)).any (fun y => decide (y.he < r.he)) = (((rs.drop (k + 1)).take j).any (fun y => decide (y.he < r.he)) || decide ((rs.getD (k + 1 + j) rung0).he < r.he)) := by
  have hl : j < (rs.drop (k + 1)).length := by rw [List.length_drop]; omega
  rw [List.take_succ_eq_append_getElem hl, List.any_append]
  have e : (rs.drop (k + 1))[j] = rs.getD (k + 1 + j) rung0 := by rw [List.getElem_drop, List.getD_eq_getElem?_getD, List.getElem?_eq_getElem hj]; rfl
  rw [e]
  simp
set_option maxRecDepth 100000 in
set_option maxHeartbeats 16000000 in
theorem rwrong_walk (b off n cap : Nat) (rs : List Rung) (p q : Int) (w : World) (hz : rs.length = n) (hlt : b < w.heap.size) (hS : Rungs w (.slice (some ⟨b, off, none⟩) n cap) rs) (h0 : stF rs p q = 0) (hwf : ∀ y ∈ rs, y.nm.size ≤ maxLen) (hcl : n ≤ cap ∧ cap ≤ maxLen) :
    Calls Try.prog 12 #[.slice (some ⟨b, off, none⟩) n cap, .agg #[.int .i64 p, .int .i64 q]] w fun r w' => (∃ v Z, r = .returned (.tuple #[v, .int .i64 0]) ∧ w'.ownsRow Z 37 2 v (flTo (senB rs) rs p q n).length (fcells (flTo (senB rs) rs p q n))) ∧ Below w.heap.size w w' := by
  obtain ⟨i0, hi, hi0, hi1, hi2⟩ := info_parts Try.infoFlaw
  have hst := (stF_zero rs p q).1 h0
  have hn : n ≤ 100 := by rw [← hz]; exact hst.ok.len
  obtain ⟨hcl1, hcl2⟩ := hcl
  have hcl2 : cap ≤ 9223372036854775807 := hcl2
  have hst0 : isStB p q = true := by
    have e := stF_ref rs p q
    rw [h0, if_pos ((rgF_zero rs).2 hst.ok)] at e
    by_cases h : isStB p q = true
    · exact h
    · rw [if_neg h] at e; exact absurd e (by decide)
  have HC : Hid (∀ W, Below w.heap.size w W → Calls Try.prog 23 #[.slice (some ⟨b, off, none⟩) n cap] W fun e w' => e = .returned (.int .i64 0) ∧ Below W.heap.size W w') := Lib.hid (fun W hb => by rw [← (rgF_zero rs).2 hst.ok]; exact rchkr_any _ rs W (hS.below hb (Nat.le_refl _)) hwf)
  have HIS : Hid (∀ W, Calls Try.prog 24 #[.agg #[.int .i64 p, .int .i64 q]] W fun e w' => e = .returned (.bool true) ∧ Below W.heap.size W w') := Lib.hid (fun W => by rw [← hst0]; exact isStep_any p q W)
  have HNE : Hid (∀ W a r, OkR a → OkR r → Calls Try.prog 25 #[.int .i64 a.ra, .int .i64 r.ra, .agg #[.int .i64 p, .int .i64 q]] W fun e w' => e = .returned (.bool (!gapB a r p q)) ∧ Below W.heap.size W w') := Lib.hid (fun W a r ha hr => near_any a r p q W ha hr hst.hp hst.hq)
  have HSE : Hid (∀ W k, Below w.heap.size w W → k < n → Calls Try.prog 39 #[.slice (some ⟨b, off, none⟩) n cap, .int .i64 (k : Int)] W fun e w' => e = .returned (.bool (senB rs (rs.getD k rung0))) ∧ Below W.heap.size W w') := Lib.hid (fun W k hb hk => rsens_any b off n cap rs k W hz hk hn (Nat.lt_of_lt_of_le hlt hb.size) (hS.below hb (Nat.le_refl _)))
  have HCC := Lib.hid (fun j (hj : j < n) => hS.cells j (by omega))
  have HOK := Lib.hid hst.ok
  have HZ := Lib.hid hz
  have b1 : Below w.heap.size w (w.alloc (.cells #[.int .i64 p, .int .i64 q] 24)) := (Below.refl _ w).alloc (Nat.le_refl _) _
  have T1 := Two.new w p q 24
  obtain ⟨sen, hsen⟩ : ∃ sen, senB rs = sen := ⟨_, rfl⟩
  rw [hsen] at HSE ⊢
  clear hS h0 hwf hst hz hsen hst0
  go_enter Try.func12, Try.ntmps12
  go_upto_region 1 with fail
  generalize w.alloc (.cells #[.int .i64 p, .int .i64 q] 24) = W at *
  go_wp2_with fail
  refine (HC.out _ b1).mono ?_; rintro r w2 ⟨rfl, b2⟩
  have T1 := T1.below b2 T1.lt
  have b1 := b1.trans (b2.mono b1.size)
  have k0 := T1.c0; have k1 := T1.c1; have kl := T1.lt
  clear b2 HC
  go_wp2_with fail
  refine (HIS.out _).mono ?_; rintro r w3 ⟨rfl, b3⟩
  have T1 := T1.below b3 T1.lt
  have b1 := b1.trans (b3.mono b1.size)
  clear b3 HIS k0 k1 kl
  obtain ⟨Z, hZ⟩ : ∃ Z, w3.heap.size = Z := ⟨_, rfl⟩
  have hXZ : w.heap.size < Z := by have := T1.lt; omega
  have HSZ : Hid (∀ wr, Below Z w3 wr → Z ≤ wr.heap.size) := Lib.hid (fun wr hb => by have := hb.size; omega)
  have hbZ : b < Z := Nat.lt_trans hlt hXZ
  have HBW : Hid (∀ wr, Below Z w3 wr → Below w.heap.size w wr) := Lib.hid (fun wr hb => b1.trans (hb.mono (by omega)))
  have HT1 : Hid (∀ wr, Below Z w3 wr → Two wr w.heap.size p q) := Lib.hid (fun wr hb => T1.below hb hXZ)
  clear T1 b1 hZ
  go_wp2_with fail
  go_loopw [7, 23] (fun v7 v23 wr => ∃ (k : Nat) (xs : List (Int × Int)), k ≤ n ∧ v23 = .int .i64 (k : Int) ∧ wr.ownsRow Z 37 2 v7 xs.length (fcells xs) ∧ Hid (flTo sen rs p q k = xs) ∧ Below Z w3 wr) (fun _ v23 _ => n - (intOf v23).toNat)
  case atStart => exact ⟨0, [], by omega, rfl, World.ownsRow_nil _ _ _ _, Lib.hid rfl, Below.refl _ _⟩
  case round =>
    obtain ⟨k, xs, hk, rfl, hown, HXS, hbr⟩ := hrel
    obtain ⟨a3, c3, rfl⟩ := fown_form hown
    by_cases hk2 : k < n
    rotate_left
    · have hkn : k = n := by omega
      have HXE : Hid (xs = flTo sen rs p q n) := Lib.hid (by rw [← hkn]; exact HXS.out.symm)
      have kD : decide ((k : Int) < (n : Int)) = false := by simp; omega
      have kD2 : decide (k < n) = false := by simp; omega
      clear hkn
      go_wp2_with fail
      go_ret2
      exact ⟨⟨_, _, rfl, by rw [← HXE.out]; exact hown⟩, HBW.out _ hbr⟩
    · obtain ⟨r, hr⟩ : ∃ r, rs.getD k rung0 = r := ⟨_, rfl⟩
      have HR := Lib.hid hr
      have hbw := HBW.out _ hbr
      obtain ⟨c0, c1, c2, c3'⟩ := HCC.out k hk2
      rw [hr] at c0 c1 c2 c3'
      rw [← hbw.cell (p := ⟨b, off + k * 4, none⟩) hlt] at c0
      rw [← hbw.cell (p := ⟨b, off + k * 4 + 1, none⟩) hlt] at c1
      rw [← hbw.cell (p := ⟨b, off + k * 4 + 2, none⟩) hlt] at c2
      rw [← hbw.cell (p := ⟨b, off + k * 4 + 3, none⟩) hlt] at c3'
      have hzr := HSZ.out _ hbr
      have hxl : xs.length ≤ 300 := by have := flTo_len sen rs p q k; rw [HXS.out] at this; omega
      have RW : Rw w3 (wr.alloc (.cells #[.string r.nm, .int .i64 r.ra, .int .i64 r.he, .int .i64 r.qu] 56)) Z wr.heap.size r (.slice a3 xs.length c3) xs := ⟨hown.alloc _, fun h => by have := (hown.lt _ h).2; omega, Four.new wr r _, hbr.alloc hzr _, Nat.le_trans hzr (by simp)⟩
      have kI : (k : Int) < (n : Int) := by omega
      have wk1 : IntKind.i64.wrap ((k : Int) + 1) = (k : Int) + 1 := IntWalk.i64_in _ ⟨by omega, by omega⟩
      have q0 : (0 : Int) ≤ (k : Int) + 1 := by omega
      have q1 : (k : Int) + 1 ≤ (n : Int) := by omega
      have q2 : ((k : Int) + 1).toNat = k + 1 := by omega
      obtain ⟨SN, hSN⟩ : ∃ SN, sen r = SN := ⟨_, rfl⟩
      have HSN := Lib.hid hSN
      clear hr hbw hbr hown
      go_upto_region 10 with fail
      generalize wr.alloc (.cells #[.string r.nm, .int .i64 r.ra, .int .i64 r.he, .int .i64 r.qu] 56) = W at *
      generalize wr.heap.size = Y at *
      clear c0 c1 c2 c3' hzr
      have HCA := Lib.hid (HSE.out W k (HBW.out _ RW.bel) hk2)
      rw [HR.out, hSN] at HCA
      clear hSN
      go_wp2_with fail
      refine HCA.out.mono ?_; rintro e w4 ⟨rfl, b3⟩
      have RW := RW.below b3
      clear b3 HCA
      go_upto_if 31 with fail
      go_cut [7] from 32 to 36 (fun s7 wx => Rw w3 wx Z Y r s7 (xs ++ flA (!SN) ((1 : Nat) : Int) k))
      case first =>
        have hown := RW.row
        have hzr := RW.le
        have HRW := Lib.hid RW
        clear RW
        cases SN
        · go_wp2_with (at_builtin; refine wpList_append_own _ rfl _ _ 32 rfl Z 37 i0 (.agg #[.int .i64 0, .int .i64 0]) 2 16 Try.underlying32 hi hi0 hi1 hi2 rfl (by decide) _ _ _ rfl (hown.alloc _) ⟨w4.heap.size, 0, none⟩ 1 1 [.int .i64 1, .int .i64 (k : Int)] rfl rfl ?a1 ?a2 ?a3 ?a4 ?a5 ?_)
          case a1 =>
            have := World.news_of_block (cs := #[.int .i64 1, .int .i64 (k : Int)]) (t := 37) (fr := (0, 0)) (heap_alloc_new w4 (.cells #[.int .i64 1, .int .i64 (k : Int)] 37))
            simpa using this
          case a2 => simp [Value.oneCell']
          case a3 => unfold maxLen; omega
          case a4 => omega
          case a5 => first | omega | (simp; omega)
          intro v' w9 hown9 hgrow9 _
          have hb9 : Below Z w4 w9 := (((Below.refl Z w4).alloc hzr _).grown hgrow9 (by simp; omega) (fun q hq => (hown.lt q hq).1))
          go_wp2_with fail
          go_meet
          exact HRW.out.app hown9 hgrow9
        · go_wp2_with fail
          go_meet
          have e1 : xs ++ flA (!true) ((1 : Nat) : Int) k = xs := by simp [flA]
          rw [e1]
          exact HRW.out
      case rest =>
        have RW := hcut
        clear hcut
        obtain ⟨x1, hx1⟩ : ∃ x1, xs ++ flA (!SN) ((1 : Nat) : Int) k = x1 := ⟨_, rfl⟩
        have hxl1 : x1.length ≤ 301 := by rw [← hx1, List.length_append]; have := flA_le5 (!SN) ((1 : Nat) : Int) k; omega
        have HX1 := Lib.hid hx1
        rw [hx1] at RW
        clear hx1
        obtain ⟨a4, c4, rfl⟩ := fown_form RW.row
        obtain ⟨TB, hTB⟩ : ∃ TB, tallB rs k = TB := ⟨_, rfl⟩
        have HTB := Lib.hid hTB
        clear hTB
        go_upto_region 13 with fail
        obtain ⟨M, hM⟩ : ∃ M, n - (k + 1) = M := ⟨_, rfl⟩
        have HM := Lib.hid hM
        have hM5 : M ≤ 100 := by omega
        have HEND : Hid (((rs.drop (k + 1)).take M).any (fun y => decide (y.he < r.he)) = TB) := Lib.hid (by
          rw [← HTB.out, List.take_of_length_le (by rw [List.length_drop, HZ.out]; omega)]
          unfold tallB
          rw [HR.out])
        have HRW := Lib.hid RW
        have HBWc := Lib.hid (HBW.out _ RW.bel)
        clear RW
        generalize wc = W7 at *
        go_cut [40, 41, 42] (fun s40 s41 s42 wx => wx = W7 ∧ s42 = .int .i64 0 ∧ s41 = .int .i64 (M : Int) ∧ ∃ O C, s40 = .slice (some ⟨b, O, none⟩) M C ∧ (0 < M → O = off + (k + 1) * 4))
        case first =>
          by_cases hcz : cap - (k + 1) = 0
          · have hcz' : (cap - (k + 1) == 0) = true := by simp; omega
            go_wp2_with fail
            go_meet
            exact ⟨rfl, rfl, rfl, _, _, rfl, fun h => by omega⟩
          · have hcz' : (cap - (k + 1) == 0) = false := by simp; omega
            go_wp2_with fail
            go_meet
            exact ⟨rfl, rfl, rfl, _, _, rfl, fun _ => rfl⟩
        case rest =>
          obtain ⟨hwx, rfl, rfl, O, C, rfl, hO⟩ := hcut
          subst hwx
          have HO := Lib.hid hO
          clear hM hO
          go_wp2_with fail
          go_loopw [10, 42] (fun v10 v42 wr => ∃ (j : Nat) (TJ : Bool), j ≤ M ∧ v42 = .int .i64 (j : Int) ∧ v10 = .bool TJ ∧ Hid (((rs.drop (k + 1)).take j).any (fun y => decide (y.he < r.he)) = TJ) ∧ Below wc.heap.size wc wr) (fun _ v42 _ => M - (intOf v42).toNat)
          case atStart => exact ⟨0, false, by omega, rfl, rfl, Lib.hid rfl, Below.refl _ _⟩
          case round =>
            obtain ⟨j, TJ, hj, rfl, rfl, HTJ, hbr⟩ := hrel
            by_cases hj2 : j < M
            · have hkj : k + 1 + j < n := by have := HM.out; omega
              obtain ⟨y, hy⟩ : ∃ y, rs.getD (k + 1 + j) rung0 = y := ⟨_, rfl⟩
              have hbw := HBWc.out.trans (hbr.mono HBWc.out.size)
              obtain ⟨y0, y1, y2, y3⟩ := HCC.out (k + 1 + j) hkj
              rw [hy] at y0 y1 y2 y3
              rw [← hbw.cell (p := ⟨b, off + (k + 1 + j) * 4, none⟩) hlt] at y0
              rw [← hbw.cell (p := ⟨b, off + (k + 1 + j) * 4 + 1, none⟩) hlt] at y1
              rw [← hbw.cell (p := ⟨b, off + (k + 1 + j) * 4 + 2, none⟩) hlt] at y2
              rw [← hbw.cell (p := ⟨b, off + (k + 1 + j) * 4 + 3, none⟩) hlt] at y3
              rw [show off + (k + 1 + j) * 4 = O + j * 4 by have := HO.out (by omega); omega] at y0 y1 y2 y3
              have FY := Four.new wr y 56
              have FX := (HRW.out.four.below hbr HRW.out.four.lt).alloc (.cells #[.string y.nm, .int .i64 y.ra, .int .i64 y.he, .int .i64 y.qu] 56)
              have ba : Below wr.heap.size wr (wr.alloc (.cells #[.string y.nm, .int .i64 y.ra, .int .i64 y.he, .int .i64 y.qu] 56)) := (Below.refl _ _).alloc (Nat.le_refl _) _
              have hbr := hbr.trans (ba.mono hbr.size)
              have HTN : Hid (((rs.drop (k + 1)).take (j + 1)).any (fun y => decide (y.he < r.he)) = (TJ || decide (y.he < r.he))) := Lib.hid (by rw [tallB_step rs k j r HR.out (by rw [HZ.out]; exact hkj), HTJ.out, hy])
              have jI : (j : Int) < (M : Int) := by omega
              have wj1 : IntKind.i64.wrap ((j : Int) + 1) = (j : Int) + 1 := IntWalk.i64_in _ ⟨by omega, by omega⟩
              clear hy hbw ba
              go_upto_region 16 with fail
              generalize wr.alloc (.cells #[.string y.nm, .int .i64 y.ra, .int .i64 y.he, .int .i64 y.qu] 56) = W9 at *
              generalize wr.heap.size = Y9 at *
              clear y0 y1 y2 y3
              have z2 := FY.c2; have z6 := FX.c2
              obtain ⟨D, hD⟩ : ∃ D, decide (y.he < r.he) = D := ⟨_, rfl⟩
              rw [hD] at HTN
              clear FY FX HTJ
              cases TJ
              · rw [Bool.false_or] at HTN
                go_wp2_with fail
                go_roundw
                case rel => exact ⟨j + 1, D, by omega, by go_num, by first | rfl | rw [hD], HTN, hbr⟩
                case measure => simp [intOf] <;> omega
              · rw [Bool.true_or] at HTN
                go_wp2_with fail
                go_roundw
                case rel => exact ⟨j + 1, true, by omega, by go_num, rfl, HTN, hbr⟩
                case measure => simp [intOf] <;> omega
            · have e1 : TB = TJ := by rw [← HTJ.out, ← HEND.out, show j = M by omega]
              subst e1
              have RW := HRW.out.below hbr
              have jD : decide ((j : Int) < (M : Int)) = false := by simp; omega
              have jD2 : decide (j < M) = false := by simp; omega
              clear HEND HBWc HRW hbr HTJ
              go_upto_if 55 with fail
              go_cut [7] from 56 to 60 (fun s7 wx => Rw w3 wx Z Y r s7 (x1 ++ flA TB ((2 : Nat) : Int) k))
              case first =>
                have hown := RW.row
                have hzr := RW.le
                have HRW := Lib.hid RW
                clear RW
                cases TB
                · go_wp2_with fail
                  go_meet
                  have e1 : x1 ++ flA false ((2 : Nat) : Int) k = x1 := by simp [flA]
                  rw [e1]
                  exact HRW.out
                · go_wp2_with (at_builtin; refine wpList_append_own _ rfl _ _ 32 rfl Z 37 i0 (.agg #[.int .i64 0, .int .i64 0]) 2 16 Try.underlying32 hi hi0 hi1 hi2 rfl (by decide) _ _ _ rfl (hown.alloc _) ⟨wr.heap.size, 0, none⟩ 1 1 [.int .i64 2, .int .i64 (k : Int)] rfl rfl ?b1 ?b2 ?b3 ?b4 ?b5 ?_)
                  case b1 =>
                    have := World.news_of_block (cs := #[.int .i64 2, .int .i64 (k : Int)]) (t := 37) (fr := (0, 0)) (heap_alloc_new wr (.cells #[.int .i64 2, .int .i64 (k : Int)] 37))
                    simpa using this
                  case b2 => simp [Value.oneCell']
                  case b3 => unfold maxLen; omega
                  case b4 => omega
                  case b5 => first | omega | (simp; omega)
                  intro v' w9 hown9 hgrow9 _
                  have hb9 : Below Z wr w9 := (((Below.refl Z wr).alloc hzr _).grown hgrow9 (by simp; omega) (fun q hq => (hown.lt q hq).1))
                  go_wp2_with fail
                  go_meet
                  exact HRW.out.app hown9 hgrow9
              case rest =>
                have RW := hcut
                clear hcut
                obtain ⟨x2, hx2⟩ : ∃ x2, x1 ++ flA TB ((2 : Nat) : Int) k = x2 := ⟨_, rfl⟩
                have hxl2 : x2.length ≤ 302 := by rw [← hx2, List.length_append]; have := flA_le5 TB ((2 : Nat) : Int) k; omega
                have HX2 := Lib.hid hx2
                rw [hx2] at RW
                clear hx2
                obtain ⟨a5, c5, rfl⟩ := fown_form RW.row
                obtain ⟨G, hG⟩ : ∃ G, gapAt rs p q k = G := ⟨_, rfl⟩
                have HG := Lib.hid hG
                clear hG
                go_upto_region 20 with fail
                go_cut [75] (fun s75 wx => s75 = .bool G ∧ Below wc.heap.size wc wx)
                case first =>
                  by_cases hk0 : k = 0
                  · have e1 : G = false := by rw [← HG.out, hk0]; rfl
                    subst e1
                    have kD : decide ((0 : Int) < (k : Int)) = false := by simp; omega
                    clear RW
                    go_quiet (fail)
                    go_wp2_with fail
                    go_meet
                    exact ⟨rfl, below_drewN (Below.refl _ _) nq⟩
                  · have hkp : 0 < k := by omega
                    have kD : decide ((0 : Int) < (k : Int)) = true := by simp; omega
                    obtain ⟨a, ha⟩ : ∃ a, rs.getD (k - 1) rung0 = a := ⟨_, rfl⟩
                    have e1 : gapB a r p q = G := by rw [← HG.out]; unfold gapAt; rw [decide_eq_true (by omega : 0 < k), ha, HR.out]; rfl
                    have HN2 := Lib.hid (fun W' => HNE.out W' a r (by rw [← ha]; exact HOK.out.ok _ (by rw [HZ.out]; omega)) (by rw [← HR.out]; exact HOK.out.ok _ (by rw [HZ.out]; exact hk2)))
                    rw [e1] at HN2
                    have hbw := HBW.out _ RW.bel
                    have T1 := HT1.out _ RW.bel
                    obtain ⟨-, f1, -, -⟩ := HCC.out (k - 1) (by omega)
                    rw [ha] at f1
                    rw [← hbw.cell (p := ⟨b, off + (k - 1) * 4 + 1, none⟩) hlt] at f1
                    have hbz : b < wc.heap.size := Nat.lt_of_lt_of_le hlt hbw.size
                    have j2 : (0 : Int) ≤ (k : Int) - 1 := by omega
                    have j3 : (k : Int) - 1 < (n : Int) := by omega
                    have j6 : (1 : Int) ≤ (k : Int) := by omega
                    have j4 : ((k : Int) - 1).toNat = k - 1 := by omega
                    have j5 : IntKind.i64.wrap ((k : Int) - 1) = (k : Int) - 1 := IntWalk.i64_in _ ⟨by omega, by omega⟩
                    have k0 := T1.c0; have k1 := T1.c1; have kl := T1.lt
                    have g1 := RW.four.c1; have gl := RW.four.lt
                    clear RW T1 hbw ha e1
                    refine wp_region_noPanic ?_
                    refine wp_region_held_drew (S := fun w' => Below wc.heap.size wc w') (by kernel_rfl) ?hS0 (fun hHeld => ?_)
                    case hS0 => exact (Below.refl _ wc).drew
                    have hS : Below wc.heap.size wc wc.drew := (Below.refl _ wc).drew
                    clear hHeld
                    generalize wc.drew = wd at *
                    refine wpAnyH_take (i := 0) (v := ?_) rfl (by kernel_rfl) (by kernel_rfl) (by kernel_rfl) (fun _ _ _ h => h) (Or.inl ⟨by kernel_rfl, ?hy⟩) (by assumption) ?_
                    case hy => (intro wq hSw; have q0 := (hSw.cell (p := ⟨w.heap.size, 0, none⟩) kl).trans k0; have q1 := (hSw.cell (p := ⟨w.heap.size, 1, none⟩) kl).trans k1; have u1 := (hSw.cell (p := ⟨b, off + (k - 1) * 4 + 1, none⟩) hbz).trans f1; have u2 := (hSw.cell (p := ⟨Y, 1, none⟩) gl).trans g1; have s1 := Nat.lt_of_lt_of_le kl hSw.size; have s2 := Nat.lt_of_lt_of_le hbz hSw.size; have s3 := Nat.lt_of_lt_of_le gl hSw.size; go_simp; try (with_reducible rfl))
                    try simp only [Act.put, List.setIfInBounds_toArray, List.set_cons_zero, List.set_cons_succ]
                    refine wpAnyH_take (i := 1) (v := ?_) rfl (by kernel_rfl) (by kernel_rfl) (by kernel_rfl) (fun _ _ _ h => h) (Or.inl ⟨by kernel_rfl, ?hy⟩) (by assumption) ?_
                    case hy => (intro wq hSw; have q0 := (hSw.cell (p := ⟨w.heap.size, 0, none⟩) kl).trans k0; have q1 := (hSw.cell (p := ⟨w.heap.size, 1, none⟩) kl).trans k1; have u1 := (hSw.cell (p := ⟨b, off + (k - 1) * 4 + 1, none⟩) hbz).trans f1; have u2 := (hSw.cell (p := ⟨Y, 1, none⟩) gl).trans g1; have s1 := Nat.lt_of_lt_of_le kl hSw.size; have s2 := Nat.lt_of_lt_of_le hbz hSw.size; have s3 := Nat.lt_of_lt_of_le gl hSw.size; go_simp; try (with_reducible rfl))
                    try simp only [Act.put, List.setIfInBounds_toArray, List.set_cons_zero, List.set_cons_succ]
                    refine wpAnyH_take (i := 2) (v := ?_) rfl (by kernel_rfl) (by kernel_rfl) (by kernel_rfl) (fun _ _ _ h => h) (Or.inl ⟨by kernel_rfl, ?hy⟩) (by assumption) ?_
                    case hy => (intro wq hSw; have q0 := (hSw.cell (p := ⟨w.heap.size, 0, none⟩) kl).trans k0; have q1 := (hSw.cell (p := ⟨w.heap.size, 1, none⟩) kl).trans k1; have u1 := (hSw.cell (p := ⟨b, off + (k - 1) * 4 + 1, none⟩) hbz).trans f1; have u2 := (hSw.cell (p := ⟨Y, 1, none⟩) gl).trans g1; have s1 := Nat.lt_of_lt_of_le kl hSw.size; have s2 := Nat.lt_of_lt_of_le hbz hSw.size; have s3 := Nat.lt_of_lt_of_le gl hSw.size; go_simp; try (with_reducible rfl))
                    try simp only [Act.put, List.setIfInBounds_toArray, List.set_cons_zero, List.set_cons_succ]
                    refine wpAnyH_take (i := 3) (v := ?_) rfl (by kernel_rfl) (by kernel_rfl) (by kernel_rfl) (fun _ _ _ h => h) (Or.inl ⟨by kernel_rfl, ?hy⟩) (by assumption) ?_
                    case hy => (intro wq hSw; have q0 := (hSw.cell (p := ⟨w.heap.size, 0, none⟩) kl).trans k0; have q1 := (hSw.cell (p := ⟨w.heap.size, 1, none⟩) kl).trans k1; have u1 := (hSw.cell (p := ⟨b, off + (k - 1) * 4 + 1, none⟩) hbz).trans f1; have u2 := (hSw.cell (p := ⟨Y, 1, none⟩) gl).trans g1; have s1 := Nat.lt_of_lt_of_le kl hSw.size; have s2 := Nat.lt_of_lt_of_le hbz hSw.size; have s3 := Nat.lt_of_lt_of_le gl hSw.size; go_simp; try (with_reducible rfl))
                    try simp only [Act.put, List.setIfInBounds_toArray, List.set_cons_zero, List.set_cons_succ]
                    refine wpAnyH_take (i := 4) (v := ?_) rfl (by kernel_rfl) (by kernel_rfl) (by kernel_rfl) (fun _ _ _ h => h) (Or.inl ⟨by kernel_rfl, ?hy⟩) (by assumption) ?_
                    case hy => (intro wq hSw; have q0 := (hSw.cell (p := ⟨w.heap.size, 0, none⟩) kl).trans k0; have q1 := (hSw.cell (p := ⟨w.heap.size, 1, none⟩) kl).trans k1; have u1 := (hSw.cell (p := ⟨b, off + (k - 1) * 4 + 1, none⟩) hbz).trans f1; have u2 := (hSw.cell (p := ⟨Y, 1, none⟩) gl).trans g1; have s1 := Nat.lt_of_lt_of_le kl hSw.size; have s2 := Nat.lt_of_lt_of_le hbz hSw.size; have s3 := Nat.lt_of_lt_of_le gl hSw.size; go_simp; try (with_reducible rfl))
                    try simp only [Act.put, List.setIfInBounds_toArray, List.set_cons_zero, List.set_cons_succ]
                    refine wpAnyH_take (i := 5) (v := ?_) rfl (by kernel_rfl) (by kernel_rfl) (by kernel_rfl) (fun _ _ _ h => h) (Or.inl ⟨by kernel_rfl, ?hy⟩) (by assumption) ?_
                    case hy => (intro wq hSw; have q0 := (hSw.cell (p := ⟨w.heap.size, 0, none⟩) kl).trans k0; have q1 := (hSw.cell (p := ⟨w.heap.size, 1, none⟩) kl).trans k1; have u1 := (hSw.cell (p := ⟨b, off + (k - 1) * 4 + 1, none⟩) hbz).trans f1; have u2 := (hSw.cell (p := ⟨Y, 1, none⟩) gl).trans g1; have s1 := Nat.lt_of_lt_of_le kl hSw.size; have s2 := Nat.lt_of_lt_of_le hbz hSw.size; have s3 := Nat.lt_of_lt_of_le gl hSw.size; go_simp; try (with_reducible rfl))
                    try simp only [Act.put, List.setIfInBounds_toArray, List.set_cons_zero, List.set_cons_succ]
                    refine wpAnyH_take (i := 6) (v := ?_) rfl (by kernel_rfl) (by kernel_rfl) (by kernel_rfl) (fun _ _ _ h => h) (Or.inl ⟨by kernel_rfl, ?hy⟩) (by assumption) ?_
                    case hy => (intro wq hSw; have q0 := (hSw.cell (p := ⟨w.heap.size, 0, none⟩) kl).trans k0; have q1 := (hSw.cell (p := ⟨w.heap.size, 1, none⟩) kl).trans k1; have u1 := (hSw.cell (p := ⟨b, off + (k - 1) * 4 + 1, none⟩) hbz).trans f1; have u2 := (hSw.cell (p := ⟨Y, 1, none⟩) gl).trans g1; have s1 := Nat.lt_of_lt_of_le kl hSw.size; have s2 := Nat.lt_of_lt_of_le hbz hSw.size; have s3 := Nat.lt_of_lt_of_le gl hSw.size; go_simp; try (with_reducible rfl))
                    try simp only [Act.put, List.setIfInBounds_toArray, List.set_cons_zero, List.set_cons_succ]
                    refine wpAnyH_take (i := 7) (v := ?_) rfl (by kernel_rfl) (by kernel_rfl) (by kernel_rfl) (fun _ _ _ h => h) (Or.inl ⟨by kernel_rfl, ?hy⟩) (by assumption) ?_
                    case hy => (intro wq hSw; have q0 := (hSw.cell (p := ⟨w.heap.size, 0, none⟩) kl).trans k0; have q1 := (hSw.cell (p := ⟨w.heap.size, 1, none⟩) kl).trans k1; have u1 := (hSw.cell (p := ⟨b, off + (k - 1) * 4 + 1, none⟩) hbz).trans f1; have u2 := (hSw.cell (p := ⟨Y, 1, none⟩) gl).trans g1; have s1 := Nat.lt_of_lt_of_le kl hSw.size; have s2 := Nat.lt_of_lt_of_le hbz hSw.size; have s3 := Nat.lt_of_lt_of_le gl hSw.size; go_simp; try (with_reducible rfl))
                    try simp only [Act.put, List.setIfInBounds_toArray, List.set_cons_zero, List.set_cons_succ]
                    refine wpAnyH_take (i := 8) (v := ?_) rfl (by kernel_rfl) (by kernel_rfl) (by kernel_rfl) (fun _ _ _ h => h) (Or.inl ⟨by kernel_rfl, ?hy⟩) (by assumption) ?_
                    case hy => (intro wq hSw; have q0 := (hSw.cell (p := ⟨w.heap.size, 0, none⟩) kl).trans k0; have q1 := (hSw.cell (p := ⟨w.heap.size, 1, none⟩) kl).trans k1; have u1 := (hSw.cell (p := ⟨b, off + (k - 1) * 4 + 1, none⟩) hbz).trans f1; have u2 := (hSw.cell (p := ⟨Y, 1, none⟩) gl).trans g1; have s1 := Nat.lt_of_lt_of_le kl hSw.size; have s2 := Nat.lt_of_lt_of_le hbz hSw.size; have s3 := Nat.lt_of_lt_of_le gl hSw.size; go_simp; try (with_reducible rfl))
                    try simp only [Act.put, List.setIfInBounds_toArray, List.set_cons_zero, List.set_cons_succ]
                    refine wpAnyH_take (i := 9) (v := ?_) rfl (by kernel_rfl) (by kernel_rfl) (by kernel_rfl) (fun _ _ _ h => h) (Or.inl ⟨by kernel_rfl, ?hy⟩) (by assumption) ?_
                    case hy => (intro wq hSw; have q0 := (hSw.cell (p := ⟨w.heap.size, 0, none⟩) kl).trans k0; have q1 := (hSw.cell (p := ⟨w.heap.size, 1, none⟩) kl).trans k1; have u1 := (hSw.cell (p := ⟨b, off + (k - 1) * 4 + 1, none⟩) hbz).trans f1; have u2 := (hSw.cell (p := ⟨Y, 1, none⟩) gl).trans g1; have s1 := Nat.lt_of_lt_of_le kl hSw.size; have s2 := Nat.lt_of_lt_of_le hbz hSw.size; have s3 := Nat.lt_of_lt_of_le gl hSw.size; go_simp; try (with_reducible rfl))
                    try simp only [Act.put, List.setIfInBounds_toArray, List.set_cons_zero, List.set_cons_succ]
                    refine wpAnyH_take (i := 10) (v := ?_) rfl (by kernel_rfl) (by kernel_rfl) (by kernel_rfl) (fun _ _ _ h => h) (Or.inl ⟨by kernel_rfl, ?hy⟩) (by assumption) ?_
                    case hy => (intro wq hSw; have q0 := (hSw.cell (p := ⟨w.heap.size, 0, none⟩) kl).trans k0; have q1 := (hSw.cell (p := ⟨w.heap.size, 1, none⟩) kl).trans k1; have u1 := (hSw.cell (p := ⟨b, off + (k - 1) * 4 + 1, none⟩) hbz).trans f1; have u2 := (hSw.cell (p := ⟨Y, 1, none⟩) gl).trans g1; have s1 := Nat.lt_of_lt_of_le kl hSw.size; have s2 := Nat.lt_of_lt_of_le hbz hSw.size; have s3 := Nat.lt_of_lt_of_le gl hSw.size; go_simp; try (with_reducible rfl))
                    try simp only [Act.put, List.setIfInBounds_toArray, List.set_cons_zero, List.set_cons_succ]
                    refine wpAnyH_take (i := 11) (v := ?_) rfl (by kernel_rfl) (by kernel_rfl) (by kernel_rfl) (fun _ _ _ h => h) (Or.inl ⟨by kernel_rfl, ?hy⟩) (by assumption) ?_
                    case hy => (intro wq hSw; have q0 := (hSw.cell (p := ⟨w.heap.size, 0, none⟩) kl).trans k0; have q1 := (hSw.cell (p := ⟨w.heap.size, 1, none⟩) kl).trans k1; have u1 := (hSw.cell (p := ⟨b, off + (k - 1) * 4 + 1, none⟩) hbz).trans f1; have u2 := (hSw.cell (p := ⟨Y, 1, none⟩) gl).trans g1; have s1 := Nat.lt_of_lt_of_le kl hSw.size; have s2 := Nat.lt_of_lt_of_le hbz hSw.size; have s3 := Nat.lt_of_lt_of_le gl hSw.size; go_simp; try (with_reducible rfl))
                    try simp only [Act.put, List.setIfInBounds_toArray, List.set_cons_zero, List.set_cons_succ]
                    refine wpAnyH_ready (rs := [12]) (by kernel_rfl) (by simp) ?_
                    refine AllReadyH.cons rfl (fun K hK => ?_) AllReadyH.nil
                    go_simp
                    refine (HN2.out _).mono ?_; rintro e w5 ⟨rfl, b3⟩; have hS : Below wc.heap.size wc w5 := hS.trans (b3.mono hS.size)
                    refine hK.out _ _ hS (fun hHeld => ?_)
                    clear hK K hHeld
                    try simp only [Act.put, List.setIfInBounds_toArray, List.set_cons_zero, List.set_cons_succ]
                    refine wpAnyH_take (i := 13) (v := ?_) rfl (by kernel_rfl) (by kernel_rfl) (by kernel_rfl) (fun _ _ _ h => h) (Or.inl ⟨by kernel_rfl, ?hy⟩) (by assumption) ?_
                    case hy => (intro wq hSw; have q0 := (hSw.cell (p := ⟨w.heap.size, 0, none⟩) kl).trans k0; have q1 := (hSw.cell (p := ⟨w.heap.size, 1, none⟩) kl).trans k1; have u1 := (hSw.cell (p := ⟨b, off + (k - 1) * 4 + 1, none⟩) hbz).trans f1; have u2 := (hSw.cell (p := ⟨Y, 1, none⟩) gl).trans g1; have s1 := Nat.lt_of_lt_of_le kl hSw.size; have s2 := Nat.lt_of_lt_of_le hbz hSw.size; have s3 := Nat.lt_of_lt_of_le gl hSw.size; go_simp; try (with_reducible rfl))
                    try simp only [Act.put, List.setIfInBounds_toArray, List.set_cons_zero, List.set_cons_succ]
                    refine wpAnyH_take (i := 14) (v := ?_) rfl (by kernel_rfl) (by kernel_rfl) (by kernel_rfl) (fun _ _ _ h => h) (Or.inl ⟨by kernel_rfl, ?hy⟩) (by assumption) ?_
                    case hy => (intro wq hSw; have q0 := (hSw.cell (p := ⟨w.heap.size, 0, none⟩) kl).trans k0; have q1 := (hSw.cell (p := ⟨w.heap.size, 1, none⟩) kl).trans k1; have u1 := (hSw.cell (p := ⟨b, off + (k - 1) * 4 + 1, none⟩) hbz).trans f1; have u2 := (hSw.cell (p := ⟨Y, 1, none⟩) gl).trans g1; have s1 := Nat.lt_of_lt_of_le kl hSw.size; have s2 := Nat.lt_of_lt_of_le hbz hSw.size; have s3 := Nat.lt_of_lt_of_le gl hSw.size; go_simp; try (with_reducible rfl))
                    try simp only [Act.put, List.setIfInBounds_toArray, List.set_cons_zero, List.set_cons_succ]
                    refine wpAnyH_done (by kernel_rfl) ?_ _
                    refine NoPanic.normal ?_
                    try go_simp
                    go_wp2_with fail
                    go_meet
                    exact ⟨rfl, hS⟩
                case rest =>
                  obtain ⟨rfl, bx⟩ := hcut
                  have RW := RW.below bx
                  have HN : Hid (flTo sen rs p q (k + 1) = x2 ++ flA G ((3 : Nat) : Int) k) := Lib.hid (by
                    rw [flTo, HXS.out, HR.out, HSN.out, HTB.out, HG.out, ← HX2.out, ← HX1.out]; rfl)
                  have hown := RW.row
                  have hzr := RW.le
                  have HRW := Lib.hid RW
                  clear RW bx
                  cases G
                  · have e1 : x2 ++ flA false ((3 : Nat) : Int) k = x2 := by simp [flA]
                    rw [e1] at HN
                    go_wp2_with fail
                    go_roundw
                    case rel => exact ⟨k + 1, x2, by omega, by go_num, hown, HN, HRW.out.bel⟩
                    case measure => simp [intOf] <;> omega
                  · go_wp2_with (at_builtin; refine wpList_append_own _ rfl _ _ 32 rfl Z 37 i0 (.agg #[.int .i64 0, .int .i64 0]) 2 16 Try.underlying32 hi hi0 hi1 hi2 rfl (by decide) _ _ _ rfl (hown.alloc _) ⟨wc.heap.size, 0, none⟩ 1 1 [.int .i64 3, .int .i64 (k : Int)] rfl rfl ?c1 ?c2 ?c3 ?c4 ?c5 ?_)
                    case c1 =>
                      have := World.news_of_block (cs := #[.int .i64 3, .int .i64 (k : Int)]) (t := 37) (fr := (0, 0)) (heap_alloc_new wc (.cells #[.int .i64 3, .int .i64 (k : Int)] 37))
                      simpa using this
                    case c2 => simp [Value.oneCell']
                    case c3 => unfold maxLen; omega
                    case c4 => omega
                    case c5 => first | omega | (simp; omega)
                    intro v' w9 hown9 hgrow9 _
                    have hb9 : Below Z wc w9 := (((Below.refl Z wc).alloc hzr _).grown hgrow9 (by simp; omega) (fun q hq => (hown.lt q hq).1))
                    have RW9 := HRW.out.app hown9 hgrow9
                    clear hown9 hgrow9 HRW hown
                    go_wp2_with fail
                    go_roundw
                    case rel => exact ⟨k + 1, _, by omega, by go_num, RW9.row, HN, RW9.bel⟩
                    case measure => simp [intOf] <;> omega

end Go.Proofs.Ytinckidkophobaa
