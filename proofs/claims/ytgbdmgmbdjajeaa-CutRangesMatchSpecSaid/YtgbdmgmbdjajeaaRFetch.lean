/- The reference's Fetch. -/
import Derived.Test.YtgbdmgmbdjajeaaRSeek
import Derived.Test.YtgbdmgmbdjajeaaRRanges
import Derived.Test.YtgbdmgmbdjajeaaFetch
namespace Go.Proofs.Ytgbdmgmbdjajeaa
set_option linter.unusedVariables false
set_option linter.unusedSimpArgs false
open Go.RowKit Go.Deep

theorem fetch_bad {ls : List Seg} {f t start g : Int} (h : feG ls f t start = g) (h0 : g ≠ 0) : fetchF ls f t start = g ∧ fetchA ls f t start = 0 ∧ fetchB ls f t start = 0 := by
  have hF : fetchF ls f t start = g := by rw [fetchF, h, if_pos h0]
  exact ⟨hF, by rw [fetchA, hF, if_neg h0], by rw [fetchB, hF, if_neg h0]⟩
theorem fetch_good {ls : List Seg} {f t start : Int} (h : feG ls f t start = 0) {x y : Nat} {c : Bool} (hq : tchTo ls f t ls.length = (x, y, c)) :
    fetchF ls f t start = (if c = true then 0 else 9) ∧ fetchA ls f t start = (if c = true then rngS start ls x else 0) ∧ fetchB ls f t start = (if c = true then rngS start ls (y + 1) else 0) := by
  have hF : fetchF ls f t start = if c = true then 0 else 9 := by rw [fetchF, if_neg (by simp [h]), hq]
  refine ⟨hF, ?_, ?_⟩
  · rw [fetchA, hF, hq]; cases c <;> rfl
  · rw [fetchB, hF, hq]; cases c <;> rfl
theorem meets_sp {s : Seg} (h : OkT s) (f t : Int) : meets s f t ↔ max (s.bg + s.ld) f < min (s.bg + s.ld + s.ln) t := by
  unfold meets
  rw [h.bnd, h.endS]
set_option maxRecDepth 4000000 in
set_option maxHeartbeats 16000000 in
theorem rfetch_any (v : Value) (ls : List Seg) (f t start : Int) (w : World) (h : Segs w v ls) :
    Calls Try.prog 20 #[v, .agg #[.int .i64 f, .int .i64 t], .int .i64 start] w fun e w' => e = .returned (.tuple #[.agg #[.int .i64 (fetchA ls f t start), .int .i64 (fetchB ls f t start)], .int .i64 (fetchF ls f t start)]) ∧ Below w.heap.size w w' := by
  obtain ⟨a, cap, rfl⟩ := h.parts
  have HS := Lib.hid h
  obtain ⟨FF, hFF⟩ : ∃ FF, fetchF ls f t start = FF := ⟨_, rfl⟩
  obtain ⟨FA, hFA⟩ : ∃ FA, fetchA ls f t start = FA := ⟨_, rfl⟩
  obtain ⟨FB, hFB⟩ : ∃ FB, fetchB ls f t start = FB := ⟨_, rfl⟩
  have HFF := Lib.hid hFF; have HFA := Lib.hid hFA; have HFB := Lib.hid hFB
  rw [hFF, hFA, hFB]
  obtain ⟨r, hr⟩ : ∃ r, rngF ls start = r := ⟨_, rfl⟩
  obtain ⟨tm, htm⟩ : ∃ tm, timF ls = tm := ⟨_, rfl⟩
  have HR := Lib.hid hr; have HTM := Lib.hid htm
  obtain ⟨c1, hc1⟩ : ∃ c1, inB f (-1000000000000000) 1000000000000000 = c1 := ⟨_, rfl⟩
  obtain ⟨c2, hc2⟩ : ∃ c2, inB t (-1000000000000000) 1000000000000000 = c2 := ⟨_, rfl⟩
  have HC1 := Lib.hid hc1; have HC2 := Lib.hid hc2
  have HG : Hid (feG ls f t start = fstF [r, tm, fIf (!c1 || !c2) 1, fIf (decide (t ≤ f)) 8]) := Lib.hid (by rw [feG, hr, htm, hc1, hc2])
  have hmx := h.max.2
  obtain ⟨n, hn⟩ : ∃ n, ls.length = n := ⟨_, rfl⟩
  have HN := Lib.hid hn
  rw [hn] at HS hmx ⊢
  have q0 : ((w.alloc (.cells #[.int .i64 f, .int .i64 t] 33)).alloc (.cells #[.int .i64 0, .int .i64 0] 38)).cell? ⟨w.heap.size, 0, none⟩ = some (.int .i64 f) := by rw [World.cell?_alloc_past _ _ _ (by simp), World.cell?_alloc_at _ _ _ _ (by simp)]; rfl
  have q1 : ((w.alloc (.cells #[.int .i64 f, .int .i64 t] 33)).alloc (.cells #[.int .i64 0, .int .i64 0] 38)).cell? ⟨w.heap.size, 1, none⟩ = some (.int .i64 t) := by rw [World.cell?_alloc_past _ _ _ (by simp), World.cell?_alloc_at _ _ _ _ (by simp)]; rfl
  have r0 : ((w.alloc (.cells #[.int .i64 f, .int .i64 t] 33)).alloc (.cells #[.int .i64 0, .int .i64 0] 38)).cell? ⟨w.heap.size + 1, 0, none⟩ = some (.int .i64 0) := by simp
  have r1 : ((w.alloc (.cells #[.int .i64 f, .int .i64 t] 33)).alloc (.cells #[.int .i64 0, .int .i64 0] 38)).cell? ⟨w.heap.size + 1, 1, none⟩ = some (.int .i64 0) := by simp
  have rf0 : ((w.alloc (.cells #[.int .i64 f, .int .i64 t] 33)).alloc (.cells #[.int .i64 0, .int .i64 0] 38)).frozen? ⟨w.heap.size + 1, 0, none⟩ = false := by simp
  have rf1 : ((w.alloc (.cells #[.int .i64 f, .int .i64 t] 33)).alloc (.cells #[.int .i64 0, .int .i64 0] 38)).frozen? ⟨w.heap.size + 1, 1, none⟩ = false := by simp
  have b0 : Below w.heap.size w ((w.alloc (.cells #[.int .i64 f, .int .i64 t] 33)).alloc (.cells #[.int .i64 0, .int .i64 0] 38)) := ((Below.refl _ _).alloc (Nat.le_refl _) _).alloc (by simp) _
  have hz0 : w.heap.size + 1 < ((w.alloc (.cells #[.int .i64 f, .int .i64 t] 33)).alloc (.cells #[.int .i64 0, .int .i64 0] 38)).heap.size := by simp
  clear hr htm h hn hFF hFA hFB hc1 hc2
  go_enter Try.func20, Try.ntmps20
  go_upto_region 1 with fail
  generalize (w.alloc (.cells #[.int .i64 f, .int .i64 t] 33)).alloc (.cells #[.int .i64 0, .int .i64 0] 38) = w0 at *
  obtain ⟨B, hB⟩ : ∃ B, w.heap.size = B := ⟨_, rfl⟩
  rw [hB] at q0 q1 r0 r1 rf0 rf1 hz0
  simp only [hB]
  have hwB : w.heap.size ≤ B + 1 := by omega
  clear hB
  go_wp2_with fail
  refine (rranges_any _ ls start _ (HS.out.below b0 (Nat.le_refl _))).mono ?_; rintro e w1 ⟨⟨u, rfl, hP⟩, b1⟩
  rw [HR.out]
  have hB1 : B + 1 < w1.heap.size := by have := b1.size; omega
  have s0 : w1.cell? ⟨B, 0, none⟩ = some (.int .i64 f) := by rw [b1.cell (p := ⟨B, 0, none⟩) (by show B < _; omega)]; exact q0
  have s1 : w1.cell? ⟨B, 1, none⟩ = some (.int .i64 t) := by rw [b1.cell (p := ⟨B, 1, none⟩) (by show B < _; omega)]; exact q1
  have l0 : w1.cell? ⟨B + 1, 0, none⟩ = some (.int .i64 0) := by rw [b1.cell (p := ⟨B + 1, 0, none⟩) hz0]; exact r0
  have l1 : w1.cell? ⟨B + 1, 1, none⟩ = some (.int .i64 0) := by rw [b1.cell (p := ⟨B + 1, 1, none⟩) hz0]; exact r1
  have lf0 : w1.frozen? ⟨B + 1, 0, none⟩ = false := by rw [b1.frozen (p := ⟨B + 1, 0, none⟩) hz0]; exact rf0
  have lf1 : w1.frozen? ⟨B + 1, 1, none⟩ = false := by rw [b1.frozen (p := ⟨B + 1, 1, none⟩) hz0]; exact rf1
  have bw := b0.trans (b1.mono b0.size)
  have HP := Lib.hid hP
  obtain ⟨pa, pc, rfl, hpl⟩ := hP.parts
  clear q0 q1 r0 r1 rf0 rf1 hP
  by_cases hr0 : r = 0
  · subst hr0
    go_wp2_with fail
    refine (rtims_any _ ls _ (HS.out.below bw (Nat.le_refl _))).mono ?_; rintro e w3 ⟨rfl, b3⟩
    rw [HTM.out]
    have hB3 : B + 1 < w3.heap.size := Nat.lt_of_lt_of_le hB1 b3.size
    have s0 : w3.cell? ⟨B, 0, none⟩ = some (.int .i64 f) := by rw [b3.cell (p := ⟨B, 0, none⟩) (by show B < _; omega)]; exact s0
    have s1 : w3.cell? ⟨B, 1, none⟩ = some (.int .i64 t) := by rw [b3.cell (p := ⟨B, 1, none⟩) (by show B < _; omega)]; exact s1
    have l0 : w3.cell? ⟨B + 1, 0, none⟩ = some (.int .i64 0) := by rw [b3.cell (p := ⟨B + 1, 0, none⟩) hB1]; exact l0
    have l1 : w3.cell? ⟨B + 1, 1, none⟩ = some (.int .i64 0) := by rw [b3.cell (p := ⟨B + 1, 1, none⟩) hB1]; exact l1
    have lf0 : w3.frozen? ⟨B + 1, 0, none⟩ = false := by rw [b3.frozen (p := ⟨B + 1, 0, none⟩) hB1]; exact lf0
    have lf1 : w3.frozen? ⟨B + 1, 1, none⟩ = false := by rw [b3.frozen (p := ⟨B + 1, 1, none⟩) hB1]; exact lf1
    have HP := Lib.hid (HP.out.below b3 (Nat.le_refl _))
    have bw := bw.trans (b3.mono bw.size)
    clear b3
    by_cases ht0 : tm = 0
    · subst ht0
      cases c1
      · obtain ⟨e0, e1, e2⟩ := fetch_bad (g := 1) (HG.out.trans (by rfl)) (by decide)
        rw [HFF.out] at e0; rw [HFA.out] at e1; rw [HFB.out] at e2
        subst e0 e1 e2
        go_wp2_with fail
        refine (ritime_any _ _).mono ?_; rintro e w' ⟨rfl, rfl⟩
        rw [HC1.out]
        go_wp2_with fail
        refine bodyPost_ret (by simp [results, Try.results20, go_sem, l0, l1]; try rfl) rfl ?_
        exact ⟨rfl, (bw.setCell (p := ⟨B + 1, 0, none⟩) hwB _).setCell (p := ⟨B + 1, 1, none⟩) hwB _⟩
      · cases c2
        · obtain ⟨e0, e1, e2⟩ := fetch_bad (g := 1) (HG.out.trans (by rfl)) (by decide)
          rw [HFF.out] at e0; rw [HFA.out] at e1; rw [HFB.out] at e2
          subst e0 e1 e2
          go_wp2_with fail
          refine (ritime_any _ _).mono ?_; rintro e w' ⟨rfl, rfl⟩
          rw [HC1.out]
          go_wp2_with fail
          refine (ritime_any _ _).mono ?_; rintro e w' ⟨rfl, rfl⟩
          rw [HC2.out]
          go_wp2_with fail
          refine bodyPost_ret (by simp [results, Try.results20, go_sem, l0, l1]; try rfl) rfl ?_
          exact ⟨rfl, (bw.setCell (p := ⟨B + 1, 0, none⟩) hwB _).setCell (p := ⟨B + 1, 1, none⟩) hwB _⟩
        · by_cases hft : t ≤ f
          · obtain ⟨e0, e1, e2⟩ := fetch_bad (g := 8) (HG.out.trans (by rw [show decide (t ≤ f) = true from decide_eq_true hft]; rfl)) (by decide)
            rw [HFF.out] at e0; rw [HFA.out] at e1; rw [HFB.out] at e2
            subst e0 e1 e2
            go_wp2_with fail
            refine (ritime_any _ _).mono ?_; rintro e w' ⟨rfl, rfl⟩
            rw [HC1.out]
            go_wp2_with fail
            refine (ritime_any _ _).mono ?_; rintro e w' ⟨rfl, rfl⟩
            rw [HC2.out]
            go_wp2_with fail
            refine bodyPost_ret (by simp [results, Try.results20, go_sem, l0, l1]; try rfl) rfl ?_
            exact ⟨rfl, (bw.setCell (p := ⟨B + 1, 0, none⟩) hwB _).setCell (p := ⟨B + 1, 1, none⟩) hwB _⟩
          · have hd : decide (t ≤ f) = false := by simp; omega
            have HG0 : Hid (feG ls f t start = 0) := Lib.hid (HG.out.trans (by rw [hd]; rfl))
            have HFG := Lib.hid (fun (x y : Nat) (c : Bool) (hq : tchTo ls f t n = (x, y, c)) => fetch_good (x := x) (y := y) (c := c) HG0.out (by rw [HN.out]; exact hq))
            have HT := Lib.hid ((timF_zero ls).1 HTM.out)
            have hn9 : n ≤ 1000 := by have := HT.out.len; rw [HN.out] at this; exact this
            have HRL : Hid (rngR ls start = rngTo start ls n) := Lib.hid (by rw [rngR, if_pos HR.out, rngL_eq, HN.out])
            clear hft
            go_wp2_with fail
            refine (ritime_any _ _).mono ?_; rintro e w' ⟨rfl, rfl⟩
            rw [HC1.out]
            go_wp2_with fail
            refine (ritime_any _ _).mono ?_; rintro e w' ⟨rfl, rfl⟩
            rw [HC2.out]
            go_wp2_with fail
            go_loopw [11, 12, 13] (fun v11 v12 v13 wr => ∃ (k x y : Nat) (c : Bool) (fi la : Int), k ≤ n ∧ v13 = .int .i64 (k : Int) ∧ v11 = .int .i64 fi ∧ v12 = .int .i64 la ∧ (c = false ∧ fi = -1 ∧ la = -1 ∨ c = true ∧ fi = (x : Int) ∧ la = (y : Int)) ∧ Below w3.heap.size w3 wr ∧ Hid (tchTo ls f t k = (x, y, c))) (fun _ _ v13 _ => n - (intOf v13).toNat)
            case atStart => exact ⟨0, 0, 0, false, -1, -1, Nat.zero_le _, rfl, rfl, rfl, .inl ⟨rfl, rfl, rfl⟩, Below.refl _ _, Lib.hid rfl⟩
            case round =>
              obtain ⟨k, x, y, c, fi, la, hk, rfl, rfl, rfl, hcv, hbel, HQ⟩ := hrel
              have bwr := bw.trans (hbel.mono bw.size)
              by_cases hlt2 : k < n
              · rcases HS.out with ⟨a', c', hv, h1⟩ | ⟨b, off, cap', hv, hne, hlt, hl, hm, hcc⟩
                · have := HN.out; omega
                simp only [Value.slice.injEq] at hv
                obtain ⟨rfl, -, rfl⟩ := hv
                obtain ⟨-, -, -, d3, d4, -, d6⟩ := (HS.out.below bwr (Nat.le_refl _)).cells k (by rw [HN.out]; exact hlt2)
                obtain ⟨s, hs⟩ : ∃ s, ls.getD k seg0 = s := ⟨_, rfl⟩
                rw [hs] at d3 d4 d6
                have hok := HT.out.ok k (by rw [HN.out]; exact hlt2)
                rw [hs] at hok
                have HM := Lib.hid (meets_sp hok f t)
                have HST : Hid (tchTo ls f t (k + 1) = if meets s f t then (if c = true then x else k, k, true) else (x, y, c)) := Lib.hid (by rw [tchTo, hs, HQ.out])
                obtain ⟨g1, g2⟩ := hok.bg
                obtain ⟨g3, g4⟩ := hok.ld
                obtain ⟨g5, g6⟩ := hok.ln
                obtain ⟨g7, g8⟩ := hok.en
                have i1 : (k : Int) < (n : Int) := by omega
                have i0 : (0 : Int) ≤ (k : Int) := by omega
                have hw1 : IntKind.i64.wrap (s.bg + s.ld) = s.bg + s.ld := IntWalk.i64_in _ ⟨by omega, by omega⟩
                clear hs hok hcc hne hl hm
                obtain ⟨no, fr, te, bg, ln, by_, ld⟩ := s
                simp only at d3 d4 d6 g1 g2 g3 g4 g5 g6 g7 g8 hw1 HM
                have v0 : wr.cell? ⟨B, 0, none⟩ = some (.int .i64 f) := by rw [hbel.cell (p := ⟨B, 0, none⟩) (by show B < _; omega)]; exact s0
                have v1 : wr.cell? ⟨B, 1, none⟩ = some (.int .i64 t) := by rw [hbel.cell (p := ⟨B, 1, none⟩) (by show B < _; omega)]; exact s1
                go_upto_region 15 with fail
                go_quiet (fail)
                have hb2 := below_drewN hbel nq
                have v0 : (wr.drewN nq).cell? ⟨B, 0, none⟩ = some (.int .i64 f) := v0
                have v1 : (wr.drewN nq).cell? ⟨B, 1, none⟩ = some (.int .i64 t) := v1
                have d4 : (wr.drewN nq).cell? ⟨b, off + k * 7 + 4, none⟩ = some (.int .i64 ln) := d4
                clear d3 d6
                generalize wr.drewN nq = wq at *
                obtain ⟨bs, hbs⟩ : ∃ bs, bg + ld = bs := ⟨_, rfl⟩
                rw [hbs] at HM g7 g8 ⊢
                have hw2 : IntKind.i64.wrap (bs + ln) = bs + ln := IntWalk.i64_in _ ⟨by omega, by omega⟩
                clear hbs hw1
                go_upto_region 16 with fail
                go_cut [79] (fun s79 wx => s79 = .bool (decide (max bs f < min (bs + ln) t)) ∧ Below w3.heap.size w3 wx)
                case first =>
                  go_region_held3 (fun w' => w'.cell? ⟨B, 0, none⟩ = some (.int .i64 f) ∧ w'.cell? ⟨B, 1, none⟩ = some (.int .i64 t) ∧ w'.cell? ⟨b, off + k * 7 + 4, none⟩ = some (.int .i64 ln) ∧ Below w3.heap.size w3 w')
                    (first | (go_keep; done) | (exact ⟨v0, v1, d4, hb2⟩) | (exact ⟨v0, v1, d4, hb2.drew⟩))
                    (fail)
                  all_goals
                    go_wp2_with fail
                    go_meet
                    exact ⟨rfl, by first | exact hb2 | exact hb2.drew⟩
                case rest =>
                  obtain ⟨rfl, bc⟩ := hcut
                  generalize max bs f = Mx at *
                  generalize min (bs + ln) t = Mn at *
                  clear hw2
                  by_cases hm : Mx < Mn
                  · have hdm : decide (Mx < Mn) = true := by simp; omega
                    have HN2 := Lib.hid (HST.out.trans (if_pos (HM.out.2 hm)))
                    rcases hcv with ⟨rfl, rfl, rfl⟩ | ⟨rfl, rfl, rfl⟩
                    · go_wp2_with fail
                      go_roundw
                      case rel => exact ⟨k + 1, k, k, true, (k : Int), (k : Int), by omega, by go_num, rfl, rfl, .inr ⟨rfl, rfl, rfl⟩, bc, Lib.hid (by rw [HN2.out]; rfl)⟩
                      case measure => simp [intOf]; omega
                    · have x0 : decide ((x : Int) < 0) = false := by simp; try omega
                      go_wp2_with fail
                      go_roundw
                      case rel => exact ⟨k + 1, x, k, true, (x : Int), (k : Int), by omega, by go_num, rfl, rfl, .inr ⟨rfl, rfl, rfl⟩, bc, Lib.hid (by rw [HN2.out]; rfl)⟩
                      case measure => simp [intOf]; omega
                  · have hdm : decide (Mx < Mn) = false := by simp; omega
                    have HN2 := Lib.hid (HST.out.trans (if_neg (fun h => hm (HM.out.1 h))))
                    have hm2 : Mn ≤ Mx := by omega
                    clear hm
                    go_wp2_with fail
                    go_roundw
                    case rel => exact ⟨k + 1, x, y, c, fi, la, by omega, by go_num, rfl, rfl, hcv, bc, HN2⟩
                    case measure => simp [intOf]; omega
              · have hkn : k = n := by omega
                subst hkn
                have hdk : decide (k < k) = false := by simp
                obtain ⟨e0, e1, e2⟩ := HFG.out x y c HQ.out
                rw [HFF.out] at e0; rw [HFA.out] at e1; rw [HFB.out] at e2
                have l0 : wr.cell? ⟨B + 1, 0, none⟩ = some (.int .i64 0) := by rw [hbel.cell (p := ⟨B + 1, 0, none⟩) hB3]; exact l0
                have l1 : wr.cell? ⟨B + 1, 1, none⟩ = some (.int .i64 0) := by rw [hbel.cell (p := ⟨B + 1, 1, none⟩) hB3]; exact l1
                have lf0 : wr.frozen? ⟨B + 1, 0, none⟩ = false := by rw [hbel.frozen (p := ⟨B + 1, 0, none⟩) hB3]; exact lf0
                have lf1 : wr.frozen? ⟨B + 1, 1, none⟩ = false := by rw [hbel.frozen (p := ⟨B + 1, 1, none⟩) hB3]; exact lf1
                have hBr : B + 1 < wr.heap.size := Nat.lt_of_lt_of_le hB3 hbel.size
                have HP := Lib.hid (HP.out.below hbel (Nat.le_refl _))
                clear hlt2
                rcases hcv with ⟨rfl, rfl, rfl⟩ | ⟨rfl, rfl, rfl⟩
                · replace e0 : FF = 9 := e0
                  replace e1 : FA = 0 := e1
                  replace e2 : FB = 0 := e2
                  subst e0 e1 e2
                  go_wp2_with fail
                  refine bodyPost_ret (by simp [results, Try.results20, go_sem, l0, l1]; try rfl) rfl ?_
                  exact ⟨rfl, (bwr.setCell (p := ⟨B + 1, 0, none⟩) hwB _).setCell (p := ⟨B + 1, 1, none⟩) hwB _⟩
                · replace e0 : FF = 0 := e0
                  replace e1 : FA = rngS start ls x := e1
                  replace e2 : FB = rngS start ls (y + 1) := e2
                  obtain ⟨hxn, hyn, -, -, -⟩ := tchTo_some ls f t k (by rw [HQ.out])
                  rw [HQ.out] at hxn hyn
                  try simp only at hxn hyn
                  have HP3 := HP.out
                  rw [HRL.out] at HP3 ⊢
                  rcases HP3 with ⟨a', c', hv, h1⟩ | ⟨pb, po, pc', hv, hne, plt, pl, pm, pcell⟩
                  · have := rngTo_len start ls k; rw [h1] at this; simp at this; omega
                  rw [rngTo_len] at hv pl pcell ⊢
                  simp only [Value.slice.injEq] at hv
                  obtain ⟨rfl, -, rfl⟩ := hv
                  have p0 := (pcell x hxn).1
                  have p1 := (pcell y hyn).2
                  rw [rngTo_at _ _ _ _ hxn, ← e1] at p0
                  rw [rngTo_at _ _ _ _ hyn, ← e2] at p1
                  try simp only at p0 p1
                  have x0 : decide ((x : Int) < 0) = false := by simp; try omega
                  clear pcell hne e1 e2
                  subst e0
                  go_upto_region 22 with fail
                  go_region
                  all_goals
                    go_wp2_with fail
                    refine bodyPost_ret (by simp [results, Try.results20, go_sem, l0, l1]; try rfl) rfl ?_
                    exact ⟨rfl, ((bwr.setCell (p := ⟨B + 1, 0, none⟩) hwB _).setCell (p := ⟨B + 1, 1, none⟩) hwB _).drew⟩
    · obtain ⟨e0, e1, e2⟩ := fetch_bad (g := tm) (HG.out.trans (by simp [fstF, ht0])) ht0
      rw [HFF.out] at e0; rw [HFA.out] at e1; rw [HFB.out] at e2
      subst e0 e1 e2
      have hb : (FF == 0) = false := by simp [ht0]
      clear ht0
      go_wp2_with fail
      refine bodyPost_ret (by simp [results, Try.results20, go_sem, l0, l1]; try rfl) rfl ?_
      exact ⟨rfl, (bw.setCell (p := ⟨B + 1, 0, none⟩) hwB _).setCell (p := ⟨B + 1, 1, none⟩) hwB _⟩
  · obtain ⟨e0, e1, e2⟩ := fetch_bad (g := r) (HG.out.trans (by simp [fstF, hr0])) hr0
    rw [HFF.out] at e0; rw [HFA.out] at e1; rw [HFB.out] at e2
    subst e0 e1 e2
    have hb : (FF == 0) = false := by simp [hr0]
    clear hr0
    go_wp2_with fail
    refine bodyPost_ret (by simp [results, Try.results20, go_sem, l0, l1]; try rfl) rfl ?_
    exact ⟨rfl, (bw.setCell (p := ⟨B + 1, 0, none⟩) hwB _).setCell (p := ⟨B + 1, 1, none⟩) hwB _⟩

end Go.Proofs.Ytgbdmgmbdjajeaa
