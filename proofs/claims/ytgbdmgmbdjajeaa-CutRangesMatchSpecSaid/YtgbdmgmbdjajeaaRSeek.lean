/- The reference's Seek. -/
import Derived.Test.YtgbdmgmbdjajeaaRTimed
import Derived.Test.YtgbdmgmbdjajeaaSeek
namespace Go.Proofs.Ytgbdmgmbdjajeaa
set_option linter.unusedVariables false
set_option linter.unusedSimpArgs false
open Go.RowKit Go.Deep

theorem meets_at {s : Seg} (h : OkT s) (time : Int) : meets s time (time + 1) ↔ 0 ≤ time - s.bg - s.ld ∧ time - s.bg - s.ld < s.ln := by
  have a := h.bnd; have b := h.endS; have c := h.ln
  unfold meets
  constructor
  · intro h; omega
  · intro h; omega
theorem seek_found {ls : List Seg} {time : Int} {i : Nat} (hT : Timed ls) (ht : isT time) (hi : i < ls.length) (hm : meets (ls.getD i seg0) time (time + 1)) (hno : ∀ j, i < j → j < ls.length → ¬ meets (ls.getD j seg0) time (time + 1)) :
    seekF ls time = 0 ∧ seekI ls time = i ∧ seekD ls time = time - bndV (ls.getD i seg0) := by
  have hg : skG ls time = 0 := (skG_zero ls time).2 ⟨hT, ht⟩
  have hc : (skT ls time).2.2 = true := by
    cases h : (skT ls time).2.2
    · exact absurd hm (tchTo_none ls time (time + 1) ls.length h i hi)
    · rfl
  obtain ⟨h1, h2, h3, h4, h5⟩ := tchTo_some ls time (time + 1) ls.length hc
  have hl : (skT ls time).2.1 = i := by
    have a := (h5 i hi hm).2
    by_cases h : i < (tchTo ls time (time + 1) ls.length).2.1
    · exact absurd h4 (hno _ h h2)
    · show (tchTo ls time (time + 1) ls.length).2.1 = i
      omega
  have hF : seekF ls time = 0 := by rw [seekF, if_neg (by simp [hg]), if_pos hc]
  exact ⟨hF, by rw [seekI, if_pos hF, hl], by rw [seekD, if_pos hF, hl]⟩
theorem seek_none {ls : List Seg} {time : Int} (hT : Timed ls) (ht : isT time) (hno : ∀ j, j < ls.length → ¬ meets (ls.getD j seg0) time (time + 1)) :
    seekF ls time = 9 ∧ seekI ls time = 0 ∧ seekD ls time = 0 := by
  have hg : skG ls time = 0 := (skG_zero ls time).2 ⟨hT, ht⟩
  have hc : (skT ls time).2.2 = false := by
    cases h : (skT ls time).2.2
    · rfl
    · obtain ⟨h1, h2, h3, h4, h5⟩ := tchTo_some ls time (time + 1) ls.length h
      exact absurd h4 (hno _ h2)
  have hF : seekF ls time = 9 := by rw [seekF, if_neg (by simp [hg]), hc]; rfl
  exact ⟨hF, by rw [seekI, if_neg (by rw [hF]; decide)], by rw [seekD, if_neg (by rw [hF]; decide)]⟩
theorem seek_bad {ls : List Seg} {time g : Int} (h : skG ls time = g) (h0 : g ≠ 0) : seekF ls time = g ∧ seekI ls time = 0 ∧ seekD ls time = 0 := by
  have hF : seekF ls time = g := by rw [seekF, h, if_pos h0]
  exact ⟨hF, by rw [seekI, hF, if_neg h0], by rw [seekD, hF, if_neg h0]⟩
set_option maxRecDepth 100000 in
set_option maxHeartbeats 4000000 in
theorem rseek_any (v : Value) (ls : List Seg) (time : Int) (w : World) (h : Segs w v ls) :
    Calls Try.prog 18 #[v, .int .i64 time] w fun e w' => e = .returned (.tuple #[.int .i64 (seekI ls time : Nat), .int .i64 (seekD ls time), .int .i64 (seekF ls time)]) ∧ Below w.heap.size w w' := by
  obtain ⟨a, cap, rfl⟩ := h.parts
  have HS := Lib.hid h
  have hmx := h.max.2
  obtain ⟨I, hI⟩ : ∃ I, seekI ls time = I := ⟨_, rfl⟩
  obtain ⟨D, hD⟩ : ∃ D, seekD ls time = D := ⟨_, rfl⟩
  obtain ⟨F, hF⟩ : ∃ F, seekF ls time = F := ⟨_, rfl⟩
  rw [hI, hD, hF]
  have HI := Lib.hid hI; have HD := Lib.hid hD; have HF := Lib.hid hF
  obtain ⟨tm, htm⟩ : ∃ tm, timF ls = tm := ⟨_, rfl⟩
  have HTM := Lib.hid htm
  obtain ⟨c, hc⟩ : ∃ c, inB time (-1000000000000000) 1000000000000000 = c := ⟨_, rfl⟩
  have HCC := Lib.hid hc
  obtain ⟨n, hn⟩ : ∃ n, ls.length = n := ⟨_, rfl⟩
  have HN := Lib.hid hn
  rw [hn] at HS hmx ⊢
  have hg : skG ls time = fstF [tm, fIf (!c) 1] := by rw [skG, htm, hc]
  clear h hn hI hD hF
  by_cases h0 : tm = 0
  · subst h0
    have hT := (timF_zero ls).1 htm
    cases c
    · obtain ⟨e1, e2, e3⟩ := seek_bad (g := 1) (hg.trans rfl) (by decide)
      rw [HF.out] at e1; rw [HI.out] at e2; rw [HD.out] at e3
      subst e1 e2 e3
      clear htm hc hg hT
      go_enter Try.func18, Try.ntmps18
      go_wp2_with fail
      refine (rtims_any _ ls _ HS.out).mono ?_; rintro e w1 ⟨rfl, b1⟩
      rw [HTM.out]
      go_wp2_with fail
      refine (ritime_any _ _).mono ?_; rintro e w' ⟨rfl, rfl⟩
      rw [HCC.out]
      go_wp2_with fail
      go_ret3
      exact ⟨rfl, b1⟩
    · have ht : isT time := inB_iff.1 hc
      obtain ⟨t0, t1⟩ := ht
      have HTT := Lib.hid hT
      have hn9 : n ≤ 1000 := by have := hT.len; rw [HN.out] at this; exact this
      clear htm hc hg hT
      go_enter Try.func18, Try.ntmps18
      go_wp2_with fail
      refine (rtims_any _ ls _ HS.out).mono ?_; rintro e w1 ⟨rfl, b1⟩
      rw [HTM.out]
      go_wp2_with fail
      refine (ritime_any _ _).mono ?_; rintro e w' ⟨rfl, rfl⟩
      rw [HCC.out]
      go_wp2_with fail
      go_loopw [8] (fun v8 wr => ∃ d : Nat, d ≤ n ∧ v8 = .int .i64 ((d : Int) - 1) ∧ Below w1.heap.size w1 wr ∧ Hid (∀ j, d ≤ j → j < n → ¬ meets (ls.getD j seg0) time (time + 1))) (fun v8 _ => (intOf v8 + 1).toNat)
      case atStart => exact ⟨n, Nat.le_refl _, rfl, Below.refl _ _, Lib.hid (fun j h1 h2 => by omega)⟩
      case round =>
        obtain ⟨d, hd, rfl, hbel, HNO⟩ := hrel
        have hfin := b1.trans (hbel.mono b1.size)
        cases d with
        | zero =>
          obtain ⟨e1, e2, e3⟩ := seek_none HTT.out ⟨t0, t1⟩ (fun j hj => HNO.out j (Nat.zero_le _) (by rw [← HN.out]; exact hj))
          rw [HF.out] at e1; rw [HI.out] at e2; rw [HD.out] at e3
          subst e1 e2 e3
          have z0 : ((0 : Nat) : Int) - 1 = -1 := rfl
          rw [z0]
          clear z0
          go_wp2_with fail
          go_ret3
          exact ⟨rfl, hfin⟩
        | succ i =>
          have z0 : ((i + 1 : Nat) : Int) - 1 = (i : Int) := by omega
          rw [z0]
          clear z0
          have hin : i < n := by omega
          rcases HS.out with ⟨a', c', hv, h1⟩ | ⟨b, off, cap', hv, hne, hlt, hl, hm, hcc⟩
          · have := HN.out; omega
          simp only [Value.slice.injEq] at hv
          obtain ⟨rfl, -, rfl⟩ := hv
          obtain ⟨-, -, -, d3, d4, -, d6⟩ := (HS.out.below hfin (Nat.le_refl _)).cells i (by rw [HN.out]; exact hin)
          obtain ⟨s, hs⟩ : ∃ s, ls.getD i seg0 = s := ⟨_, rfl⟩
          rw [hs] at d3 d4 d6
          have hok := HTT.out.ok i (by rw [HN.out]; exact hin)
          rw [hs] at hok
          have HM := Lib.hid (meets_at hok time)
          obtain ⟨g1, g2⟩ := hok.bg
          obtain ⟨g3, g4⟩ := hok.ld
          have HBN := Lib.hid hok.bnd
          have HSG := Lib.hid hs
          have i1 : (i : Int) < (n : Int) := by omega
          have i0 : (0 : Int) ≤ (i : Int) := by omega
          have hw1 : IntKind.i64.wrap (time - s.bg) = time - s.bg := IntWalk.i64_in _ ⟨by omega, by omega⟩
          have hw2 : IntKind.i64.wrap (time - s.bg - s.ld) = time - s.bg - s.ld := IntWalk.i64_in _ ⟨by omega, by omega⟩
          clear hs hok hcc hne hl hm
          obtain ⟨no, fr, te, bg, ln, by_, ld⟩ := s
          simp only at d3 d4 d6 g1 g2 g3 g4 hw1 hw2 HM HBN
          by_cases hmt : 0 ≤ time - bg - ld ∧ time - bg - ld < ln
          · obtain ⟨m1, m2⟩ := hmt
            obtain ⟨e1, e2, e3⟩ := seek_found HTT.out ⟨t0, t1⟩ (by rw [HN.out]; exact hin) (by rw [HSG.out]; exact HM.out.2 ⟨m1, m2⟩) (fun j h1 h2 => HNO.out j (by omega) (by rw [← HN.out]; exact h2))
            rw [HF.out] at e1; rw [HI.out] at e2; rw [HD.out, HSG.out, HBN.out] at e3
            have e4 : D = time - bg - ld := by omega
            subst e1 e2 e4
            clear e3
            go_upto_region 9 with fail
            go_quiet (fail)
            go_wp2_with fail
            go_ret3
            exact ⟨rfl, below_drewN hfin _⟩
          · have HNN : Hid (∀ j, i ≤ j → j < n → ¬ meets (ls.getD j seg0) time (time + 1)) := Lib.hid (fun j h1 h2 => by
              by_cases e : j = i
              · rw [e, HSG.out]; exact fun h => hmt (HM.out.1 h)
              · exact HNO.out j (by omega) h2)
            by_cases hm1 : 0 ≤ time - bg - ld
            · have hm2 : decide (time - bg - ld < ln) = false := by simp; omega
              clear hmt
              go_upto_region 9 with fail
              go_quiet (fail)
              go_wp2_with fail
              go_roundw
              case rel => exact ⟨i, by omega, by go_num, below_drewN hbel _, HNN⟩
              case measure => simp [intOf]
            · have hm2 : decide (0 ≤ time - bg - ld) = false := by simp; omega
              clear hmt
              go_upto_region 9 with fail
              go_quiet (fail)
              go_wp2_with fail
              go_roundw
              case rel => exact ⟨i, by omega, by go_num, below_drewN hbel _, HNN⟩
              case measure => simp [intOf]
  · have hg2 : fstF [tm, fIf (!c) 1] = tm := by rw [fstF, if_neg h0]
    obtain ⟨e1, e2, e3⟩ := seek_bad (hg.trans hg2) h0
    rw [HF.out] at e1; rw [HI.out] at e2; rw [HD.out] at e3
    subst e1 e2 e3
    have hb : (F == 0) = false := by simp [h0]
    clear htm hc hg hg2 h0
    go_enter Try.func18, Try.ntmps18
    go_wp2_with fail
    refine (rtims_any _ ls _ HS.out).mono ?_; rintro e w1 ⟨rfl, b1⟩
    rw [HTM.out]
    go_wp2_with fail
    go_ret3
    exact ⟨rfl, b1⟩

end Go.Proofs.Ytgbdmgmbdjajeaa
