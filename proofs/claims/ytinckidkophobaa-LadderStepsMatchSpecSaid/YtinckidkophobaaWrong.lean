/- Wrong (program). -/
import Derived.Test.YtinckidkophobaaWrongW
import Derived.Test.YtinckidkophobaaStepW
namespace Go.Proofs.Ytinckidkophobaa
set_option linter.unusedVariables false
set_option linter.unusedSimpArgs false
open Go.RowKit Go.Shelf Go.Deep

theorem flA_le (b : Bool) (k : Int) (i : Nat) : (flA b k i).length ≤ 1 := by unfold flA; split <;> simp
set_option maxRecDepth 100000 in
set_option maxHeartbeats 16000000 in
theorem wrong_walk (b off n cap : Nat) (rs : List Rung) (p q : Int) (w : World) (hz : rs.length = n) (hlt : b < w.heap.size) (hS : Rungs w (.slice (some ⟨b, off, none⟩) n cap) rs) (h0 : stF rs p q = 0) (hwf : ∀ y ∈ rs, y.nm.size ≤ maxLen) (hcl : n ≤ cap ∧ cap ≤ maxLen) :
    Calls Try.prog 11 #[.slice (some ⟨b, off, none⟩) n cap, .agg #[.int .i64 p, .int .i64 q]] w fun r w' => (∃ v Z, r = .returned (.tuple #[v, .int .i64 0]) ∧ w'.ownsRow Z 37 2 v (flTo (senB rs) rs p q n).length (fcells (flTo (senB rs) rs p q n))) ∧ Below w.heap.size w w' := by
  have hst := (stF_zero rs p q).1 h0
  have hn : n ≤ 100 := by rw [← hz]; exact hst.ok.len
  obtain ⟨hcl1, hcl2⟩ := hcl
  have hcl2 : cap ≤ 9223372036854775807 := hcl2
  have HC : Hid (∀ W, Below w.heap.size w W → Calls Try.prog 20 #[.slice (some ⟨b, off, none⟩) n cap, .agg #[.int .i64 p, .int .i64 q]] W fun e w' => e = .returned (.int .i64 0) ∧ Below W.heap.size W w') := Lib.hid (fun W hb => by rw [← h0]; exact checkStep_any _ rs p q W (hS.below hb (Nat.le_refl _)) hwf)
  have HGB : Hid (∀ W k, Below w.heap.size w W → k < n → Calls Try.prog 21 #[.slice (some ⟨b, off, none⟩) n cap, .int .i64 (k : Int), .agg #[.int .i64 p, .int .i64 q]] W fun e w' => e = .returned (.bool (gapAt rs p q k)) ∧ Below W.heap.size W w') := Lib.hid (fun W k hb hk => gapBefore_any _ rs k p q W (hS.below hb (Nat.le_refl _)) (by rw [hz]; exact hk) hst.ok hst.hp hst.hq)
  have HSE : Hid (∀ W (r : Rung), Below w.heap.size w W → Calls Try.prog 38 #[.slice (some ⟨b, off, none⟩) n cap, .agg #[.string r.nm, .int .i64 r.ra, .int .i64 r.he, .int .i64 r.qu]] W fun e w' => e = .returned (.bool (senB rs r)) ∧ Below W.heap.size W w') := Lib.hid (fun W r hb => isSensible_any _ rs r W (hS.below hb (Nat.le_refl _)))
  have HTA : Hid (∀ W k Y r, Below w.heap.size w W → k < n → rs.getD k rung0 = r → Four W Y r → Calls Try.prog 36 #[.slice (some ⟨b, if cap - (k + 1) = 0 then off else off + (k + 1) * 4, none⟩) (n - (k + 1)) (cap - (k + 1)), .func (.func 37) #[] #[.pointer (some ⟨Y, 0, none⟩)]] W fun e w' => e = .returned (.bool (tallB rs k)) ∧ Below W.heap.size W w') := Lib.hid (fun W k Y r hb hk hr FX => by
    have hR : Rungs W (.slice (some ⟨b, if cap - (k + 1) = 0 then off else off + (k + 1) * 4, none⟩) (n - (k + 1)) (cap - (k + 1))) (rs.drop (k + 1)) := by
      by_cases hk1 : k + 1 < n
      · rw [if_neg (by omega)]
        exact (hS.below hb (Nat.le_refl _)).drop (k + 1) (by rw [hz]; exact hk1)
      · rw [List.drop_of_length_le (by rw [hz]; omega), show n - (k + 1) = 0 by omega]
        exact .inl ⟨_, _, rfl, rfl⟩
    have e1 : tallB rs k = (rs.drop (k + 1)).any (fun y => decide (y.he < r.he)) := by unfold tallB; rw [hr]
    rw [e1]
    exact rcontains_any _ (rs.drop (k + 1)) (fun y => decide (y.he < r.he)) 37 #[.pointer (some ⟨Y, 0, none⟩)] (enters_of Try.func37 (by kernel_rfl) rfl) W hR (fun W' x hb' => (taller_any x r Y W' (FX.below hb' FX.lt)).mono (fun e w' ⟨h1, h2⟩ => ⟨h1, hb'.trans (h2.mono hb'.size)⟩)))
  have HCC := Lib.hid (fun j (hj : j < n) => hS.cells j (by omega))
  have b1 : Below w.heap.size w (w.alloc (.cells #[.int .i64 p, .int .i64 q] 24)) := (Below.refl _ w).alloc (Nat.le_refl _) _
  have T1 := Two.new w p q 24
  obtain ⟨sen, hsen⟩ : ∃ sen, senB rs = sen := ⟨_, rfl⟩
  rw [hsen] at HSE ⊢
  clear hS h0 hwf hst hz hsen
  go_enter Try.func11, Try.ntmps11
  go_upto_region 1 with fail
  generalize w.alloc (.cells #[.int .i64 p, .int .i64 q] 24) = W at *
  have k0 := T1.c0; have k1 := T1.c1; have kl := T1.lt
  go_wp2_with fail
  refine (HC.out _ b1).mono ?_; rintro r w2 ⟨rfl, b2⟩
  have T1 := T1.below b2 T1.lt
  have b1 := b1.trans (b2.mono b1.size)
  clear k0 k1 kl b2 HC
  have hXf : w.heap.size < w2.heap.size := T1.lt
  have HTO : Told (w2.alloc (.cells #[.slice none 0 0] 32)) w2.heap.size (w2.heap.size + 1) [] := ⟨⟨_, by rw [World.cell?_alloc_at _ _ _ _ (by simp)]; rfl, World.ownsRow_nil _ _ _ _⟩, by go_simp, by omega, by simp⟩
  have T1 := T1.alloc (.cells #[.slice none 0 0] 32)
  have b1 := b1.alloc (o := .cells #[.slice none 0 0] 32) b1.size
  go_upto_region 5 with fail
  generalize w2.alloc (.cells #[.slice none 0 0] 32) = W5 at *
  generalize w2.heap.size = FB at *
  go_wp2_with fail
  go_loopw [21] (fun v21 wr => ∃ (k : Nat) (xs : List (Int × Int)), k ≤ n ∧ v21 = .int .i64 (k : Int) ∧ Told wr FB (FB + 1) xs ∧ Hid (flTo sen rs p q k = xs) ∧ Two wr w.heap.size p q ∧ Below w.heap.size w wr) (fun v21 _ => n - (intOf v21).toNat)
  case atStart => exact ⟨0, [], by omega, rfl, HTO, Lib.hid rfl, T1, b1⟩
  case round =>
    clear T1 b1 HTO
    obtain ⟨k, xs, hk, rfl, HTO, HXS, T1, hbr⟩ := hrel
    by_cases hk2 : k < n
    · obtain ⟨r, hr⟩ : ∃ r, rs.getD k rung0 = r := ⟨_, rfl⟩
      have HR := Lib.hid hr
      obtain ⟨c0, c1, c2, c3⟩ := HCC.out k hk2
      rw [hr] at c0 c1 c2 c3
      rw [← hbr.cell (p := ⟨b, off + k * 4, none⟩) hlt] at c0
      rw [← hbr.cell (p := ⟨b, off + k * 4 + 1, none⟩) hlt] at c1
      rw [← hbr.cell (p := ⟨b, off + k * 4 + 2, none⟩) hlt] at c2
      rw [← hbr.cell (p := ⟨b, off + k * 4 + 3, none⟩) hlt] at c3
      have FX := Four.new wr r 56
      have ba : Below wr.heap.size wr (wr.alloc (.cells #[.string r.nm, .int .i64 r.ra, .int .i64 r.he, .int .i64 r.qu] 56)) := (Below.refl _ _).alloc (Nat.le_refl _) _
      have HTO := HTO.below ba
      have T1 := T1.below ba T1.lt
      have hbr := hbr.trans (ba.mono hbr.size)
      have kI : (k : Int) < (n : Int) := by omega
      have wk1 : IntKind.i64.wrap ((k : Int) + 1) = (k : Int) + 1 := IntWalk.i64_in _ ⟨by omega, by omega⟩
      have q0 : (0 : Int) ≤ (k : Int) + 1 := by omega
      have q1 : (k : Int) + 1 ≤ (n : Int) := by omega
      have q2 : ((k : Int) + 1).toNat = k + 1 := by omega
      clear hr
      go_upto_region 9 with fail
      generalize wr.alloc (.cells #[.string r.nm, .int .i64 r.ra, .int .i64 r.he, .int .i64 r.qu] 56) = W at *
      generalize wr.heap.size = Y at *
      clear c0 c1 c2 c3 ba
      obtain ⟨TB, hTB⟩ : ∃ TB, tallB rs k = TB := ⟨_, rfl⟩
      have HTB := Lib.hid hTB
      have HCA := Lib.hid (HTA.out W k Y r hbr hk2 HR.out FX)
      rw [hTB] at HCA
      clear hTB
      go_cut [11] (fun s11 wx => s11 = .bool TB ∧ Below W.heap.size W wx)
      case first =>
        by_cases hcz : cap - (k + 1) = 0
        · rw [if_pos hcz, hcz] at HCA
          have hcz' : (cap - (k + 1) == 0) = true := by simp; omega
          go_wp2_with fail
          refine HCA.out.mono ?_; rintro e w3 ⟨rfl, b3⟩
          go_wp2_with fail
          go_meet
          exact ⟨rfl, b3⟩
        · rw [if_neg hcz] at HCA
          have hcz' : (cap - (k + 1) == 0) = false := by simp; omega
          go_wp2_with fail
          refine HCA.out.mono ?_; rintro e w3 ⟨rfl, b3⟩
          go_wp2_with fail
          go_meet
          exact ⟨rfl, b3⟩
      case rest =>
        obtain ⟨rfl, b3⟩ := hcut
        have HTO := HTO.below b3
        have T1 := T1.below b3 T1.lt
        have FX := FX.below b3 FX.lt
        have hbr := hbr.trans (b3.mono hbr.size)
        clear b3 HCA
        obtain ⟨SN, hSN⟩ : ∃ SN, sen r = SN := ⟨_, rfl⟩
        have HSN := Lib.hid hSN
        have HCA := Lib.hid (HSE.out _ r hbr)
        rw [hSN] at HCA
        clear hSN
        have hxl : xs.length ≤ 300 := by have := flTo_len sen rs p q k; rw [HXS.out] at this; omega
        have d0 := FX.c0; have d1 := FX.c1; have d2 := FX.c2; have d3 := FX.c3; have dl := FX.lt
        have hXF := hXf
        go_wp2_with fail
        refine HCA.out.mono ?_; rintro e w4 ⟨rfl, b3⟩
        have HTO := HTO.below b3
        have T1 := T1.below b3 T1.lt
        have hbr := hbr.trans (b3.mono hbr.size)
        clear b3 HCA d0 d1 d2 d3 dl FX
        go_wp2_with fail
        refine (tell_any (!SN) 1 k FB (FB + 1) xs _ HTO (by omega)).mono ?_; rintro e w5 ⟨rfl, HTO, bx⟩
        have T1 := T1.below (bx.below (B' := w.heap.size + 1) (by omega) (by omega)) (by omega)
        have hbr := hbr.trans (bx.below (B' := w.heap.size) (by omega) (by omega))
        clear bx
        go_wp2_with fail
        refine (tell_any TB 2 k FB (FB + 1) _ _ HTO (by have := flA_le (!SN) ((1 : Nat) : Int) k; rw [List.length_append]; omega)).mono ?_; rintro e w6 ⟨rfl, HTO, bx⟩
        have T1 := T1.below (bx.below (B' := w.heap.size + 1) (by omega) (by omega)) (by omega)
        have hbr := hbr.trans (bx.below (B' := w.heap.size) (by omega) (by omega))
        clear bx
        obtain ⟨G, hG⟩ : ∃ G, gapAt rs p q k = G := ⟨_, rfl⟩
        have HG := Lib.hid hG
        have HCA := Lib.hid (HGB.out _ k hbr hk2)
        rw [hG] at HCA
        clear hG
        have k0 := T1.c0; have k1 := T1.c1; have kl := T1.lt
        go_wp2_with fail
        refine HCA.out.mono ?_; rintro e w7 ⟨rfl, b3⟩
        have HTO := HTO.below b3
        have T1 := T1.below b3 T1.lt
        have hbr := hbr.trans (b3.mono hbr.size)
        clear b3 HCA k0 k1 kl
        go_wp2_with fail
        refine (tell_any G 3 k FB (FB + 1) _ _ HTO (by have := flA_le (!SN) ((1 : Nat) : Int) k; have := flA_le TB ((2 : Nat) : Int) k; rw [List.length_append, List.length_append]; omega)).mono ?_; rintro e w8 ⟨rfl, HTO, bx⟩
        have T1 := T1.below (bx.below (B' := w.heap.size + 1) (by omega) (by omega)) (by omega)
        have hbr := hbr.trans (bx.below (B' := w.heap.size) (by omega) (by omega))
        clear bx
        have HN : Hid (flTo sen rs p q (k + 1) = xs ++ flA (!SN) 1 k ++ flA TB 2 k ++ flA G 3 k) := Lib.hid (by
          rw [flTo, HXS.out, HR.out, HSN.out, HTB.out, HG.out])
        go_wp2_with fail
        go_roundw
        case rel => exact ⟨k + 1, _, by omega, by go_num, HTO, HN, T1, hbr⟩
        case measure => simp [intOf]; omega
    · have hkn : k = n := by omega
      have HXE : Hid (xs = flTo sen rs p q n) := Lib.hid (by rw [← hkn]; exact HXS.out.symm)
      obtain ⟨v, v1, v2⟩ := HTO.row
      obtain ⟨a3, c3, rfl⟩ := fown_form v2
      have kD : decide ((k : Int) < (n : Int)) = false := by simp; omega
      have hfl : FB < wr.heap.size := Nat.lt_of_lt_of_le HTO.lt HTO.le
      have kD2 : decide (k < n) = false := by simp; omega
      clear hkn
      go_wp2_with fail
      go_ret2
      exact ⟨⟨_, _, rfl, by rw [← HXE.out]; exact v2⟩, hbr⟩

end Go.Proofs.Ytinckidkophobaa
