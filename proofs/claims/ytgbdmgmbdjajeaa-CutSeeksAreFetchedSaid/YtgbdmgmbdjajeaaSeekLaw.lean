/- CutSeeksAreFetched: whatever the input, the law returns true. -/
import Derived.Test.YtgbdmgmbdjajeaaFetch
import Derived.Test.YtgbdmgmbdjajeaaGrid
namespace Go.Proofs.Ytgbdmgmbdjajeaa
set_option linter.unusedVariables false
set_option linter.unusedSimpArgs false
open Go.RowKit Go.Deep

theorem seek_fail {ls : List Seg} {time : Int} (h : seekF ls time ≠ 0) : seekI ls time = 0 ∧ seekD ls time = 0 := ⟨if_neg h, if_neg h⟩
/-- What Seek finds: a segment that meets the moment. -/
theorem seek_ok {ls : List Seg} {time : Int} (h : seekF ls time = 0) :
    Timed ls ∧ isT time ∧ seekI ls time < ls.length ∧ meets (ls.getD (seekI ls time) seg0) time (time + 1) ∧ seekD ls time = time - bndV (ls.getD (seekI ls time) seg0) := by
  have hg : skG ls time = 0 := by
    by_cases h0 : skG ls time = 0
    · exact h0
    · rw [seekF, if_pos h0] at h; exact absurd h h0
  have hc : (skT ls time).2.2 = true := by
    rw [seekF, if_neg (by simp [hg])] at h
    by_cases hc : (skT ls time).2.2 = true
    · exact hc
    · rw [if_neg hc] at h; omega
  obtain ⟨hT, ht⟩ := (skG_zero ls time).1 hg
  have e : seekI ls time = (skT ls time).2.1 := if_pos h
  obtain ⟨h1, h2, h3, h4, h5⟩ := tchTo_some ls time (time + 1) ls.length hc
  refine ⟨hT, ht, by rw [e]; exact h2, by rw [e]; exact h4, ?_⟩
  rw [seekD, if_pos h, e]
/-- What Fetch answers at a moment that Seek finds. -/
theorem fetch_seek {ls : List Seg} {time long start : Int} (h : seekF ls time = 0) (hl : 1 ≤ long ∧ long ≤ 1000000) :
    (rngF ls start ≠ 0 → fetchF ls time (time + long) start = rngF ls start) ∧
    (rngF ls start = 0 → fetchF ls time (time + long) start = 0 ∨ fetchF ls time (time + long) start = 1) ∧
    (fetchF ls time (time + long) start = 0 → rngF ls start = 0 ∧ fetchA ls time (time + long) start ≤ rngS start ls (seekI ls time) ∧ rngS start ls (seekI ls time + 1) ≤ fetchB ls time (time + long) start) := by
  obtain ⟨hT, ⟨t0, t1⟩, hi, hm, -⟩ := seek_ok h
  have htm := (timF_zero ls).2 hT
  have hit : inB time (-1000000000000000) 1000000000000000 = true := inB_yes t0 t1
  have hd : decide (time + long ≤ time) = false := by simp; omega
  have hG : feG ls time (time + long) start = if rngF ls start = 0 then fIf (!inB (time + long) (-1000000000000000) 1000000000000000) 1 else rngF ls start := by
    unfold feG
    rw [htm, hit, hd]
    simp only [Bool.not_true, Bool.false_or, fIf, fstF]
    by_cases hr : rngF ls start = 0
    · rw [if_pos hr, if_pos hr]
      simp only [if_true]
      by_cases hb : (!inB (time + long) (-1000000000000000) 1000000000000000) = true
      · rw [if_pos hb]; simp
      · rw [if_neg hb]; simp
    · rw [if_neg hr, if_neg hr]
  have hmi : meets (ls.getD (seekI ls time) seg0) time (time + long) := by
    unfold meets at hm ⊢
    omega
  have hfound : (tchTo ls time (time + long) ls.length).2.2 = true := by
    cases hc : (tchTo ls time (time + long) ls.length).2.2
    · exact absurd hmi (tchTo_none ls _ _ _ hc _ hi)
    · rfl
  refine ⟨fun hr => ?_, fun hr => ?_, fun hf => ?_⟩
  · rw [fetchF, hG, if_neg hr, if_pos hr]
  · rw [fetchF, hG, if_pos hr, hfound]
    cases inB (time + long) (-1000000000000000) 1000000000000000
    · right; rfl
    · left; rfl
  · have hr : rngF ls start = 0 := by
      by_cases hr : rngF ls start = 0
      · exact hr
      · rw [fetchF, hG, if_neg hr, if_pos hr] at hf; exact absurd hf hr
    refine ⟨hr, ?_⟩
    obtain ⟨-, -, -, -, hb⟩ := tchTo_some ls time (time + long) ls.length hfound
    obtain ⟨h1, h2⟩ := hb _ hi hmi
    rw [fetchA, fetchB, if_pos hf, if_pos hf]
    have hst : inB start 0 1000000000000000 = true := by
      by_cases hs : inB start 0 1000000000000000 = true
      · exact hs
      · rw [rngF, if_neg hs] at hr; omega
    rw [rngF, if_pos hst, if_neg (by have := hT.len; omega)] at hr
    obtain ⟨s0, s1⟩ := inB_iff.1 hst
    have hh := tchTo_some ls time (time + long) ls.length hfound
    have m1 := (rngE_ok start ls s0 s1 hr (seekI ls time) (by omega)).2.2.2 _ h1
    have m2 := (rngE_ok start ls s0 s1 hr ((tchTo ls time (time + long) ls.length).2.1 + 1) (by omega)).2.2.2 (seekI ls time + 1) (by omega)
    exact ⟨m1, m2⟩
set_option maxRecDepth 100000 in
set_option maxHeartbeats 8000000 in
theorem seeklaw (v : Value) (ls : List Seg) (start time long : Int) (w : World) (h : Segs w v ls) (hlw : (Lit.int .i64 long).wf = true) :
    Calls Try.prog 5 #[v, .int .i64 start, .int .i64 time, .int .i64 long] w fun e w' => e = .returned (.bool true) ∧ Below w.heap.size w w' := by
  obtain ⟨a, cap, rfl⟩ := h.parts
  have hmx := h.max.2
  have HS := Lib.hid h
  obtain ⟨F, hF⟩ : ∃ F, seekF ls time = F := ⟨_, rfl⟩
  obtain ⟨I, hI⟩ : ∃ I, seekI ls time = I := ⟨_, rfl⟩
  obtain ⟨D, hD⟩ : ∃ D, seekD ls time = D := ⟨_, rfl⟩
  have HF := Lib.hid hF; have HI := Lib.hid hI; have HD := Lib.hid hD
  obtain ⟨n, hn⟩ : ∃ n, ls.length = n := ⟨_, rfl⟩
  have HN := Lib.hid hn
  rw [hn] at HS hmx ⊢
  by_cases h0 : F = 0
  · subst h0
    obtain ⟨hT, ⟨t0, t1⟩, hi, -, hd⟩ := seek_ok hF
    rw [hI, hD] at hd
    rw [hI, hn] at hi
    have hHF := HF
    by_cases hl : 1 ≤ long ∧ long ≤ 1000000
    · obtain ⟨r, hr⟩ : ∃ r, rngF ls start = r := ⟨_, rfl⟩
      obtain ⟨G, hG⟩ : ∃ G, fetchF ls time (time + long) start = G := ⟨_, rfl⟩
      obtain ⟨X, hX⟩ : ∃ X, fetchA ls time (time + long) start = X := ⟨_, rfl⟩
      obtain ⟨Y, hY⟩ : ∃ Y, fetchB ls time (time + long) start = Y := ⟨_, rfl⟩
      have hfs := fetch_seek (start := start) hF hl
      rw [hr, hG, hX, hY, hI] at hfs
      have HFS := Lib.hid hfs
      have HR := Lib.hid hr; have HGG := Lib.hid hG; have HX := Lib.hid hX; have HY := Lib.hid hY
      obtain ⟨l1, l2⟩ := hl
      rcases HS.out with ⟨a', c', hv, h1⟩ | ⟨b, off, cap', hv, hne, hlt, hll, hm, hcc⟩
      · omega
      simp only [Value.slice.injEq] at hv
      obtain ⟨rfl, -, rfl⟩ := hv
      obtain ⟨s, hs⟩ : ∃ s, ls.getD I seg0 = s := ⟨_, rfl⟩
      have hok := hT.ok I (by omega)
      rw [hs] at hd hok
      rw [hok.bnd] at hd
      obtain ⟨g1, g2⟩ := hok.bg
      obtain ⟨g3, g4⟩ := hok.ld
      obtain rfl : D = time - s.bg - s.ld := by omega
      have hw1 : IntKind.i64.wrap (time - s.bg) = time - s.bg := IntWalk.i64_in _ ⟨by omega, by omega⟩
      have hw2 : IntKind.i64.wrap (time - s.bg - s.ld) = time - s.bg - s.ld := IntWalk.i64_in _ ⟨by omega, by omega⟩
      have hwl : IntKind.i64.wrap (time + long) = time + long := IntWalk.i64_in _ ⟨by omega, by omega⟩
      have hc := hcc I (by omega)
      have d3 : w.cell? ⟨b, off + I * 7 + 3, none⟩ = some (.int .i64 s.bg) := by rw [← hs]; exact hc 3 (by omega)
      have d6 : w.cell? ⟨b, off + I * 7 + 6, none⟩ = some (.int .i64 s.ld) := by rw [← hs]; exact hc 6 (by omega)
      obtain ⟨no, fr, te, bg, ln, by_, ld⟩ := s
      simp only at g1 g2 g3 g4 hw1 hw2 d3 d6 HD ⊢
      have hd1 : decide (long < 1) = false := by simp; omega
      have hd2 : decide (1000000 < long) = false := by simp; omega
      have hd3 : decide (n ≤ I) = false := by simp; omega
      have i1 : (I : Int) < (n : Int) := by omega
      have i0 : (0 : Int) ≤ (I : Int) := by omega
      clear hF hI hD h hn hT hd hr hG hX hY hfs hs hok hc hcc hll hm hne
      go_enter Try.func5, Try.ntmps5
      go_wp2_with fail
      refine (seek_any _ ls _ _ HS.out).mono ?_; rintro e w1 ⟨rfl, b1⟩
      rw [HF.out, HI.out, HD.out]
      have f3 : w1.cell? ⟨b, off + I * 7 + 3, none⟩ = some (.int .i64 bg) := by rw [b1.cell (p := ⟨b, off + I * 7 + 3, none⟩) hlt]; exact d3
      have f6 : w1.cell? ⟨b, off + I * 7 + 6, none⟩ = some (.int .i64 ld) := by rw [b1.cell (p := ⟨b, off + I * 7 + 6, none⟩) hlt]; exact d6
      have hlt1 : b < w1.heap.size := Nat.lt_of_lt_of_le hlt b1.size
      clear d3 d6
      go_upto_region 4 with fail
      go_quiet (fail)
      have b2 : Below w.heap.size w (w1.drewN nq) := below_drewN b1 nq
      generalize w1.drewN nq = w2 at *
      clear f3 f6 hw1 hw2
      go_wp2_with fail
      refine (ranges_any _ ls start _ (HS.out.below b2 (Nat.le_refl _))).mono ?_; rintro e w3 ⟨⟨u, rfl, hP⟩, b3⟩
      rw [HR.out]
      have b4 := b2.trans (b3.mono b2.size)
      have HP := Lib.hid hP
      obtain ⟨pa, pc, rfl, -⟩ := hP.parts
      clear hP
      go_wp2_with fail
      refine (fetch_any _ ls _ _ _ _ (HS.out.below b4 (Nat.le_refl _))).mono ?_; rintro e w5 ⟨rfl, b5⟩
      rw [HGG.out, HX.out, HY.out]
      have b6 := b4.trans (b5.mono b4.size)
      by_cases hr0 : r = 0
      · subst hr0
        by_cases hg0 : G = 0
        · subst hg0
          obtain ⟨-, hxa, hyb⟩ := HFS.out.2.2 rfl
          have hRL : rngR ls start = rngTo start ls n := by
            have hr := HR.out
            have hst : inB start 0 1000000000000000 = true := by
              by_cases hs : inB start 0 1000000000000000 = true
              · exact hs
              · rw [rngF, if_neg hs] at hr; omega
            rw [rngR, if_pos hr, rngL_eq, HN.out]
          have HP3 := HP.out.below b5 (Nat.le_refl _)
          rw [hRL] at HP3 ⊢
          rcases HP3 with ⟨a', c', hv, h1⟩ | ⟨pb, po, pc', hv, hne, plt, pl, pm, pcell⟩
          · have := rngTo_len start ls n; rw [h1] at this; simp at this; omega
          rw [rngTo_len] at hv pl pcell ⊢
          simp only [Value.slice.injEq] at hv
          obtain ⟨rfl, -, rfl⟩ := hv
          obtain ⟨p0, p1⟩ := pcell I hi
          rw [rngTo_at _ _ _ _ hi] at p0 p1
          simp only at p0 p1
          obtain ⟨x, hx⟩ : ∃ x, rngS start ls I = x := ⟨_, rfl⟩
          obtain ⟨y, hy⟩ : ∃ y, rngS start ls (I + 1) = y := ⟨_, rfl⟩
          rw [hx] at p0 hxa
          rw [hy] at p1 hyb
          clear hx hy hRL hne pcell pm
          have k0 : (w5.alloc (.cells #[.int .i64 X, .int .i64 Y] 38)).cell? ⟨w5.heap.size, 0, none⟩ = some (.int .i64 X) := by simp
          have k1 : (w5.alloc (.cells #[.int .i64 X, .int .i64 Y] 38)).cell? ⟨w5.heap.size, 1, none⟩ = some (.int .i64 Y) := by simp
          have k2 : (w5.alloc (.cells #[.int .i64 X, .int .i64 Y] 38)).cell? ⟨pb, po + I * 2, none⟩ = some (.int .i64 x) := by rw [World.cell?_alloc_past _ _ _ plt]; exact p0
          have k3 : (w5.alloc (.cells #[.int .i64 X, .int .i64 Y] 38)).cell? ⟨pb, po + I * 2 + 1, none⟩ = some (.int .i64 y) := by rw [World.cell?_alloc_past _ _ _ plt]; exact p1
          have k4 : Below w.heap.size w (w5.alloc (.cells #[.int .i64 X, .int .i64 Y] 38)) := b6.alloc b6.size _
          have k5 : w5.heap.size < (w5.alloc (.cells #[.int .i64 X, .int .i64 Y] 38)).heap.size := by simp
          have k6 : pb < (w5.alloc (.cells #[.int .i64 X, .int .i64 Y] 38)).heap.size := by simp; omega
          have hle1 : decide (X ≤ x) = true := by simp; omega
          have hle2 : decide (y ≤ Y) = true := by simp; omega
          go_upto_region 10 with fail
          generalize w5.alloc (.cells #[.int .i64 X, .int .i64 Y] 38) = W at *
          generalize w5.heap.size = R at *
          go_region_held3 (fun w' => w'.cell? ⟨R, 0, none⟩ = some (.int .i64 X) ∧ w'.cell? ⟨R, 1, none⟩ = some (.int .i64 Y) ∧ w'.cell? ⟨pb, po + I * 2, none⟩ = some (.int .i64 x) ∧ w'.cell? ⟨pb, po + I * 2 + 1, none⟩ = some (.int .i64 y) ∧ Below w.heap.size w w')
            (first | (go_keep; done) | (exact ⟨k0, k1, k2, k3, k4⟩) | (exact ⟨k0, k1, k2, k3, k4.drew⟩) | (exact ⟨m0, m1, m2, m3, m4⟩))
            (first | (go_at_call 12; refine (awake4_any _).mono ?_; rintro e w7 ⟨rfl, b7⟩; have m0 := (b7.cell (p := ⟨R, 0, none⟩) k5).trans k0; have m1 := (b7.cell (p := ⟨R, 1, none⟩) k5).trans k1; have m2 := (b7.cell (p := ⟨pb, po + I * 2, none⟩) k6).trans k2; have m3 := (b7.cell (p := ⟨pb, po + I * 2 + 1, none⟩) k6).trans k3; have m4 := k4.drew.trans (b7.mono k4.size)))
          all_goals
            go_wp2_with fail
            go_ret
            exact ⟨rfl, m4⟩
        · have hg1 : G = 1 := by
            rcases HFS.out.2.1 rfl with h | h
            · exact absurd h hg0
            · exact h
          subst hg1
          clear hg0
          go_wp2_with fail
          refine (awake4_any _).mono ?_; rintro e w7 ⟨rfl, b7⟩
          go_wp2_with fail
          go_ret
          exact ⟨rfl, (b6.alloc b6.size _).trans (b7.mono (b6.alloc b6.size _).size)⟩
      · have hg : G = r := HFS.out.1 hr0
        subst hg
        have hb : (G == 0) = false := by simp [hr0]
        have hb2 : (G != 0) = true := by simp [hr0]
        go_wp2_with fail
        refine (awake4_any _).mono ?_; rintro e w7 ⟨rfl, b7⟩
        go_wp2_with fail
        go_ret
        exact ⟨rfl, (b6.alloc b6.size _).trans (b7.mono (b6.alloc b6.size _).size)⟩
    · by_cases hl1 : long < 1
      · clear hF hI hD h hn hT hd hl
        go_enter Try.func5, Try.ntmps5
        go_wp2_with fail
        refine (seek_any _ ls _ _ HS.out).mono ?_; rintro e w1 ⟨rfl, b1⟩
        rw [HF.out, HI.out, HD.out]
        go_wp2_with fail
        refine (awake4_any _).mono ?_; rintro e w3 ⟨rfl, b3⟩
        go_wp2_with fail
        go_ret
        exact ⟨rfl, b1.trans (b3.mono b1.size)⟩
      · have hl2 : 1000000 < long := by omega
        have hd1 : decide (long < 1) = false := by simp; omega
        clear hF hI hD h hn hT hd hl
        go_enter Try.func5, Try.ntmps5
        go_wp2_with fail
        refine (seek_any _ ls _ _ HS.out).mono ?_; rintro e w1 ⟨rfl, b1⟩
        rw [HF.out, HI.out, HD.out]
        go_wp2_with fail
        refine (awake4_any _).mono ?_; rintro e w3 ⟨rfl, b3⟩
        go_wp2_with fail
        go_ret
        exact ⟨rfl, b1.trans (b3.mono b1.size)⟩
  · obtain ⟨z1, z2⟩ := seek_fail (ls := ls) (time := time) (by rw [hF]; exact h0)
    rw [hI] at z1; rw [hD] at z2
    subst z1 z2
    have hb : (F == 0) = false := by simp [h0]
    have hb2 : (F != 0) = true := by simp [h0]
    clear hF hI hD h hn
    go_enter Try.func5, Try.ntmps5
    go_wp2_with fail
    refine (seek_any _ ls _ _ HS.out).mono ?_; rintro e w1 ⟨rfl, b1⟩
    rw [HF.out, HI.out, HD.out]
    go_wp2_with fail
    refine (awake4_any _).mono ?_; rintro e w3 ⟨rfl, b3⟩
    go_wp2_with fail
    go_ret
    exact ⟨rfl, b1.trans (b3.mono b1.size)⟩

end Go.Proofs.Ytgbdmgmbdjajeaa
