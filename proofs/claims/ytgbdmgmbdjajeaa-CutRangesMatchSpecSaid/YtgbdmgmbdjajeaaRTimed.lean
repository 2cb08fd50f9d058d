/- The reference's IsTime and checkTimed. -/
import Derived.Test.YtgbdmgmbdjajeaaTimes4
namespace Go.Proofs.Ytgbdmgmbdjajeaa
set_option linter.unusedVariables false
set_option linter.unusedSimpArgs false
open Go.RowKit Go.Deep

theorem ritime_any (n : Int) (w : World) :
    Calls Try.prog 41 #[.int .i64 n] w fun e w' => e = .returned (.bool (inB n (-1000000000000000) 1000000000000000)) ∧ w = w' := by
  by_cases h1 : -1000000000000000 ≤ n
  · by_cases h2 : n ≤ 1000000000000000
    · have E : Hid (inB n (-1000000000000000) 1000000000000000 = true) := Lib.hid (by simp [inB, h1, h2])
      go_enter Try.func41, Try.ntmps41
      go_wp2
      go_ret
      exact ⟨bret_bool (by rw [E.out]; try simp; try omega), rfl⟩
    · have E : Hid (inB n (-1000000000000000) 1000000000000000 = false) := Lib.hid (by simp [inB, h2])
      have d : decide (n ≤ 1000000000000000) = false := by simp only [decide_eq_false_iff_not]; exact h2
      go_enter Try.func41, Try.ntmps41
      go_wp2
      go_ret
      exact ⟨bret_bool (by rw [E.out]; try simp; try omega), rfl⟩
  · have E : Hid (inB n (-1000000000000000) 1000000000000000 = false) := Lib.hid (by simp [inB, h1])
    have d : decide (-1000000000000000 ≤ n) = false := by simp only [decide_eq_false_iff_not]; exact h1
    go_enter Try.func41, Try.ntmps41
    go_wp2
    go_ret
    exact ⟨bret_bool (by rw [E.out]; try simp; try omega), rfl⟩
/-- What is wrong with the times of a segment, case by case. -/
theorem timE_1 {ls : List Seg} {k : Nat} {s : Seg} (e : ls.getD k seg0 = s) (h : timB s = false) : timE ls k = 1 := by
  unfold timE; rw [e, h]; rfl
theorem timE_2 {ls : List Seg} {k : Nat} {s : Seg} (e : ls.getD k seg0 = s) (h : inB (endS s) (-1000000000000000) 1000000000000000 = false) : timE ls k = 1 := by
  unfold timE; rw [e, h]; simp [fIf, fstF]
theorem timE_3 {ls : List Seg} {k : Nat} {s : Seg} (e : ls.getD k seg0 = s) (h : timB s = true) (h2 : inB (endS s) (-1000000000000000) 1000000000000000 = true) (c : Bool) (hc : ((decide (0 < k) && decide (bndV s < bndV (ls.getD (k - 1) seg0))) || decide (s.ln < 0)) = c) :
    timE ls k = if c = true then 8 else 0 := by
  unfold timE; rw [e, h, h2, ← hc]
  cases decide (0 < k) && decide (bndV s < bndV (ls.getD (k - 1) seg0)) <;> cases decide (s.ln < 0) <;> rfl
theorem ends_in {s : Seg} (h : timB s = true) : bndV s = s.bg + s.ld ∧ endS s = s.bg + s.ld + s.ln ∧ (-1000000000000000 ≤ s.bg ∧ s.bg ≤ 1000000000000000) ∧ (-1000000000000000 ≤ s.ld ∧ s.ld ≤ 1000000000000000) ∧ (-1000000000000000 ≤ s.ln ∧ s.ln ≤ 1000000000000000) := by
  simp only [timB, Bool.and_eq_true, inB_iff] at h
  obtain ⟨⟨⟨a, b⟩, ⟨c, d⟩⟩, ⟨e, f⟩⟩ := h
  have hb : bndV s = s.bg + s.ld := IntWalk.i64_in _ ⟨by omega, by omega⟩
  refine ⟨hb, ?_, ⟨a, b⟩, ⟨c, d⟩, ⟨e, f⟩⟩
  unfold endS
  rw [hb]
  exact IntWalk.i64_in _ ⟨by omega, by omega⟩
set_option maxRecDepth 100000 in
set_option maxHeartbeats 8000000 in
theorem rtims_walk (b off n cap : Nat) (ls : List Seg) (w : World) (hz : ls.length = n) (hn0 : 0 < n) (hn : n ≤ 1000) (hlt : b < w.heap.size) (hS0 : Segs w (.slice (some ⟨b, off, none⟩) n cap) ls) :
    Calls Try.prog 40 #[.slice (some ⟨b, off, none⟩) n cap] w fun e w' => e = .returned (.int .i64 (timF ls)) ∧ Below w.heap.size w w' := by
  have HC := Lib.hid (fun j (hj : j < n) => hS0.cells j (by omega))
  have HR : Hid (timF ls = timsF ls) := Lib.hid (by unfold timF; rw [if_neg (by omega)])
  have HZ := Lib.hid hz
  have hn9 : (n : Int) ≤ 1000 := by omega
  clear hz hS0
  go_enter Try.func40, Try.ntmps40
  go_wp2_with fail
  go_loopw [3] (fun v wr => ∃ k : Nat, k ≤ n ∧ v = .int .i64 k ∧ Below w.heap.size w wr ∧ Hid (fstF (((List.range ls.length).map (timE ls)).drop k) = timsF ls ∧ ∀ i, i < k → timE ls i = 0)) (fun v _ => n - (intOf v).toNat)
  case atStart => exact ⟨0, Nat.zero_le _, rfl, Below.refl _ _, Lib.hid ⟨rfl, fun i hi => by omega⟩⟩
  case round =>
    obtain ⟨k, hk, rfl, hbel, HFV⟩ := hrel
    by_cases hlt2 : k < n
    · obtain ⟨s, hs⟩ : ∃ s, ls.getD k seg0 = s := ⟨_, rfl⟩
      obtain ⟨d0, d1, d2, d3, d4, d5, d6⟩ := HC.out k hlt2
      rw [hs] at d0 d1 d2 d3 d4 d5 d6
      have HSG := Lib.hid hs
      have HD : Hid (∀ f, timE ls k = f → (f ≠ 0 → timF ls = f) ∧ (f = 0 → fstF (((List.range ls.length).map (timE ls)).drop (k + 1)) = timsF ls ∧ ∀ i, i < k + 1 → timE ls i = 0)) := Lib.hid (by
        intro f hf
        have hd := timsF_drop ls k (by rw [HZ.out]; exact hlt2)
        rw [HFV.out.1, hf] at hd
        refine ⟨fun h => by rw [if_neg h] at hd; rw [HR.out]; exact hd, fun h => ⟨by rw [if_pos h] at hd; exact hd.symm, fun i hi => ?_⟩⟩
        by_cases e : i = k
        · subst e; rw [hf]; exact h
        · exact HFV.out.2 i (by omega))
      rw [← hbel.cell (p := ⟨b, off + k * 7, none⟩) hlt] at d0
      rw [← hbel.cell (p := ⟨b, off + k * 7 + 1, none⟩) hlt] at d1
      rw [← hbel.cell (p := ⟨b, off + k * 7 + 2, none⟩) hlt] at d2
      rw [← hbel.cell (p := ⟨b, off + k * 7 + 3, none⟩) hlt] at d3
      rw [← hbel.cell (p := ⟨b, off + k * 7 + 4, none⟩) hlt] at d4
      rw [← hbel.cell (p := ⟨b, off + k * 7 + 5, none⟩) hlt] at d5
      rw [← hbel.cell (p := ⟨b, off + k * 7 + 6, none⟩) hlt] at d6
      have HCL := Lib.hid (seg_cells s wr)
      clear hs
      obtain ⟨no, fr, te, bg, ln, by_, ld⟩ := s
      simp only at d0 d1 d2 d3 d4 d5 d6 HCL
      obtain ⟨e0, e1, e2, e3, e4, e5, e6⟩ := HCL.out
      clear HCL
      go_upto_region 7 with fail
      have hWb : Below w.heap.size w (wr.alloc (.cells #[.int .i64 no, .int .i64 fr, .int .i64 te, .int .i64 bg, .int .i64 ln, .int .i64 by_, .int .i64 ld] 45)) := hbel.alloc hbel.size _
      generalize wr.alloc (.cells #[.int .i64 no, .int .i64 fr, .int .i64 te, .int .i64 bg, .int .i64 ln, .int .i64 by_, .int .i64 ld] 45) = W at *
      generalize wr.heap.size = R at *
      clear d0 d1 d2 d3 d4 d5 d6
      by_cases h1 : inB bg (-1000000000000000) 1000000000000000 = true
      · have H1 := Lib.hid h1
        by_cases h2 : inB ld (-1000000000000000) 1000000000000000 = true
        · have H2 := Lib.hid h2
          by_cases h3 : inB ln (-1000000000000000) 1000000000000000 = true
          · have H3 := Lib.hid h3
            have hT : timB ⟨no, fr, te, bg, ln, by_, ld⟩ = true := by simp [timB, h1, h2, h3]
            obtain ⟨hb, hE, ⟨g1, g2⟩, ⟨g3, g4⟩, ⟨g5, g6⟩⟩ := ends_in hT
            have HT := Lib.hid hT; have HB := Lib.hid hb; have HEN := Lib.hid hE
            simp only at g1 g2 g3 g4 g5 g6
            clear h1 h2 h3 hT hb hE
            obtain ⟨c, hc⟩ : ∃ c, inB (bg + ld + ln) (-1000000000000000) 1000000000000000 = c := ⟨_, rfl⟩
            have HCC := Lib.hid hc
            clear hc
            go_wp2_with fail
            refine (ritime_any _ _).mono ?_; rintro e w' ⟨rfl, rfl⟩
            rw [H1.out]
            go_wp2_with fail
            refine (ritime_any _ _).mono ?_; rintro e w' ⟨rfl, rfl⟩
            rw [H2.out]
            go_wp2_with fail
            refine (ritime_any _ _).mono ?_; rintro e w' ⟨rfl, rfl⟩
            rw [H3.out]
            go_wp2_with fail
            refine (ritime_any _ _).mono ?_; rintro e w' ⟨rfl, rfl⟩
            rw [HCC.out]
            cases c
            · have HN : Hid (timF ls = 1) := Lib.hid ((HD.out 1 (timE_2 HSG.out (by rw [HEN.out]; exact HCC.out))).1 (by decide))
              go_wp2_with fail
              go_ret
              exact ⟨bret_int HN.out.symm, hWb⟩
            · have hE2 : inB (endS ⟨no, fr, te, bg, ln, by_, ld⟩) (-1000000000000000) 1000000000000000 = true := by rw [HEN.out]; exact HCC.out
              have H3E := Lib.hid (fun c hc => timE_3 HSG.out HT.out hE2 c hc)
              clear hE2
              by_cases hk0 : k < 1
              · have hgd : decide (0 < k) = false := by simp; omega
                have HG := Lib.hid hgd
                by_cases hln : ln < 0
                · have hd : decide (ln < 0) = true := by simp; omega
                  have HN : Hid (timF ls = 8) := Lib.hid ((HD.out 8 (by rw [H3E.out true (by rw [hgd, hd]; rfl)]; rfl)).1 (by decide))
                  clear hk0
                  go_upto_region 9 with fail
                  go_quiet (fail)
                  go_wp2_with fail
                  go_ret
                  exact ⟨bret_int HN.out.symm, below_drewN hWb _⟩
                · have hd : decide (ln < 0) = false := by simp; omega
                  have HN := Lib.hid ((HD.out 0 (by rw [H3E.out false (by rw [hgd, hd]; rfl)]; rfl)).2 rfl)
                  clear hk0
                  go_upto_region 9 with fail
                  go_quiet (fail)
                  go_wp2_with fail
                  go_roundw
                  case rel => exact ⟨k + 1, by omega, by go_num, below_drewN hWb _, HN⟩
                  case measure => simp [intOf]; omega
              · have hgd : decide (0 < k) = true := by simp; omega
                obtain ⟨q, hq⟩ : ∃ q, ls.getD (k - 1) seg0 = q := ⟨_, rfl⟩
                obtain ⟨-, -, -, q3, -, -, q6⟩ := HC.out (k - 1) (by omega)
                rw [hq] at q3 q6
                rw [← hWb.cell (p := ⟨b, off + (k - 1) * 7 + 3, none⟩) hlt] at q3
                rw [← hWb.cell (p := ⟨b, off + (k - 1) * 7 + 6, none⟩) hlt] at q6
                have hok := timE_ok ls (k - 1) (HFV.out.2 (k - 1) (by omega))
                rw [hq] at hok
                obtain ⟨v1, v2⟩ := hok.bg
                obtain ⟨v3, v4⟩ := hok.ld
                have HPB : Hid (bndV (ls.getD (k - 1) seg0) = q.bg + q.ld) := Lib.hid (by rw [hq, hok.bnd])
                obtain ⟨p0, hp0⟩ : ∃ p0, q.bg = p0 := ⟨_, rfl⟩
                obtain ⟨p1, hp1⟩ : ∃ p1, q.ld = p1 := ⟨_, rfl⟩
                rw [hp0] at q3 v1 v2 HPB
                rw [hp1] at q6 v3 v4 HPB
                have hgd2 : (0 : Int) < (k : Int) := by omega
                have i0 : (0 : Int) ≤ (k : Int) - 1 := by omega
                have i1 : (k : Int) - 1 < (n : Int) := by omega
                have i2 : ((k : Int) - 1).toNat = k - 1 := by omega
                have i3 : (1 : Int) ≤ (k : Int) := by omega
                have i4 : IntKind.i64.wrap ((k : Int) - 1) = (k : Int) - 1 := IntWalk.i64_in _ ⟨by omega, by omega⟩
                have w1 : IntKind.i64.wrap (bg + ld) = bg + ld := IntWalk.i64_in _ ⟨by omega, by omega⟩
                have w2 : IntKind.i64.wrap (p0 + p1) = p0 + p1 := IntWalk.i64_in _ ⟨by omega, by omega⟩
                have HG := Lib.hid hgd
                clear hq hok hp0 hp1 hk0
                by_cases hbd : bg + ld < p0 + p1
                · have hbb : decide (bg + ld < p0 + p1) = true := by simp; omega
                  have HN : Hid (timF ls = 8) := Lib.hid ((HD.out 8 (by rw [H3E.out true (by rw [HG.out, HB.out, HPB.out, hbb]; rfl)]; rfl)).1 (by decide))
                  go_upto_region 9 with fail
                  go_quiet (fail)
                  go_wp2_with fail
                  go_ret
                  exact ⟨bret_int HN.out.symm, below_drewN hWb _⟩
                · have hbb : decide (bg + ld < p0 + p1) = false := by simp; omega
                  by_cases hln : ln < 0
                  · have hd : decide (ln < 0) = true := by simp; omega
                    have HN : Hid (timF ls = 8) := Lib.hid ((HD.out 8 (by rw [H3E.out true (by rw [HG.out, HB.out, HPB.out, hbb, hd]; rfl)]; rfl)).1 (by decide))
                    go_upto_region 9 with fail
                    go_quiet (fail)
                    go_wp2_with fail
                    go_ret
                    exact ⟨bret_int HN.out.symm, below_drewN hWb _⟩
                  · have hd : decide (ln < 0) = false := by simp; omega
                    have HN := Lib.hid ((HD.out 0 (by rw [H3E.out false (by rw [HG.out, HB.out, HPB.out, hbb, hd]; rfl)]; rfl)).2 rfl)
                    go_upto_region 9 with fail
                    go_quiet (fail)
                    go_wp2_with fail
                    go_roundw
                    case rel => exact ⟨k + 1, by omega, by go_num, below_drewN hWb _, HN⟩
                    case measure => simp [intOf]; omega
          · have h3' : inB ln (-1000000000000000) 1000000000000000 = false := by simpa using h3
            have H3 := Lib.hid h3'
            have HN : Hid (timF ls = 1) := Lib.hid ((HD.out 1 (timE_1 HSG.out (by simp [timB, h1, h2, h3']))).1 (by decide))
            clear h1 h2 h3 h3'
            go_wp2_with fail
            refine (ritime_any _ _).mono ?_; rintro e w' ⟨rfl, rfl⟩
            rw [H1.out]
            go_wp2_with fail
            refine (ritime_any _ _).mono ?_; rintro e w' ⟨rfl, rfl⟩
            rw [H2.out]
            go_wp2_with fail
            refine (ritime_any _ _).mono ?_; rintro e w' ⟨rfl, rfl⟩
            rw [H3.out]
            go_wp2_with fail
            go_ret
            exact ⟨bret_int HN.out.symm, hWb⟩
        · have h2' : inB ld (-1000000000000000) 1000000000000000 = false := by simpa using h2
          have H2 := Lib.hid h2'
          have HN : Hid (timF ls = 1) := Lib.hid ((HD.out 1 (timE_1 HSG.out (by simp [timB, h1, h2']))).1 (by decide))
          clear h1 h2 h2'
          go_wp2_with fail
          refine (ritime_any _ _).mono ?_; rintro e w' ⟨rfl, rfl⟩
          rw [H1.out]
          go_wp2_with fail
          refine (ritime_any _ _).mono ?_; rintro e w' ⟨rfl, rfl⟩
          rw [H2.out]
          go_wp2_with fail
          go_ret
          exact ⟨bret_int HN.out.symm, hWb⟩
      · have h1' : inB bg (-1000000000000000) 1000000000000000 = false := by simpa using h1
        have H1 := Lib.hid h1'
        have HN : Hid (timF ls = 1) := Lib.hid ((HD.out 1 (timE_1 HSG.out (by simp [timB, h1']))).1 (by decide))
        clear h1 h1'
        go_wp2_with fail
        refine (ritime_any _ _).mono ?_; rintro e w' ⟨rfl, rfl⟩
        rw [H1.out]
        go_wp2_with fail
        go_ret
        exact ⟨bret_int HN.out.symm, hWb⟩
    · have hkn : k = n := by omega
      have hlt' : decide (k < n) = false := by simp only [decide_eq_false_iff_not]; exact hlt2
      have HE : Hid (timF ls = 0) := Lib.hid (by rw [HR.out, ← HFV.out.1, List.drop_of_length_le (by simp [HZ.out]; omega)]; rfl)
      clear hkn hlt2
      go_wp2_with fail
      go_ret
      exact ⟨bret_int HE.out.symm, hbel⟩
theorem rtims_any (v : Value) (ls : List Seg) (w : World) (h : Segs w v ls) :
    Calls Try.prog 40 #[v] w fun e w' => e = .returned (.int .i64 (timF ls)) ∧ Below w.heap.size w w' := by
  obtain ⟨a, cap, rfl⟩ := h.parts
  have hmx := h.max.2
  by_cases h0 : ls.length = 0
  · have he : ls = [] := List.length_eq_zero_iff.1 h0
    subst he
    have HE : Hid (timF [] = 0) := Lib.hid rfl
    clear h0 h hmx
    go_enter Try.func40, Try.ntmps40
    go_wp2_with fail
    refine wp_loop_rounds 1 ?_
    rw [rounds_succ]
    go_wp2_with fail
    go_ret
    exact ⟨bret_int HE.out.symm, Below.refl _ _⟩
  · by_cases h5 : ls.length ≤ 1000
    · rcases h with ⟨a', c', hv, h1⟩ | ⟨b, off, cap', hv, hne, hlt, hl, hm, hc⟩
      · exact absurd h1 h0
      · simp only [Value.slice.injEq] at hv
        obtain ⟨rfl, -, rfl⟩ := hv
        exact rtims_walk b off _ cap ls w rfl hne h5 hlt (.inr ⟨b, off, cap, rfl, hne, hlt, hl, hm, hc⟩)
    · obtain ⟨n, hn⟩ : ∃ n, ls.length = n := ⟨_, rfl⟩
      have HE : Hid (timF ls = 2) := Lib.hid (by unfold timF; rw [if_pos (by omega)])
      rw [hn] at h0 h5 hmx ⊢
      have z1 : (1000 : Int) < (n : Int) := by omega
      clear hn h
      go_enter Try.func40, Try.ntmps40
      go_wp2_with fail
      go_ret
      exact ⟨bret_int HE.out.symm, Below.refl _ _⟩

end Go.Proofs.Ytgbdmgmbdjajeaa
