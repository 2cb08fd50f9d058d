/- cut.Seek. -/
import Derived.Test.YtgbdmgmbdjajeaaTouched
namespace Go.Proofs.Ytgbdmgmbdjajeaa
set_option linter.unusedVariables false
set_option linter.unusedSimpArgs false
open Go.RowKit Go.Deep

/-- What Seek returns. -/
def skT (ls : List Seg) (time : Int) : Nat × Nat × Bool := tchTo ls time (time + 1) ls.length
def skG (ls : List Seg) (time : Int) : Int := fstF [timF ls, fIf (!inB time (-1000000000000000) 1000000000000000) 1]
def seekF (ls : List Seg) (time : Int) : Int := if skG ls time ≠ 0 then skG ls time else if (skT ls time).2.2 = true then 0 else 9
def seekI (ls : List Seg) (time : Int) : Nat := if seekF ls time = 0 then (skT ls time).2.1 else 0
def seekD (ls : List Seg) (time : Int) : Int := if seekF ls time = 0 then time - bndV (ls.getD (skT ls time).2.1 seg0) else 0
theorem skG_zero (ls : List Seg) (time : Int) : skG ls time = 0 ↔ Timed ls ∧ isT time := by
  unfold skG isT
  rw [fstF_zero]
  simp only [List.mem_cons, List.not_mem_nil, or_false, forall_eq_or_imp, forall_eq]
  rw [fIf_zero (by decide), timF_zero]
  simp only [Bool.not_eq_false', inB_iff]
theorem ret3_nii {a b : Nat} {c d e f : Int} (h : a = b) (h2 : c = d) (h3 : e = f) : Ending.returned (.tuple #[.int .i64 (a : Int), .int .i64 c, .int .i64 e]) = .returned (.tuple #[.int .i64 (b : Int), .int .i64 d, .int .i64 f]) := by rw [h, h2, h3]
set_option maxRecDepth 100000 in
set_option maxHeartbeats 4000000 in
theorem seek_any (v : Value) (ls : List Seg) (time : Int) (w : World) (h : Segs w v ls) :
    Calls Try.prog 17 #[v, .int .i64 time] w fun e w' => e = .returned (.tuple #[.int .i64 (seekI ls time : Nat), .int .i64 (seekD ls time), .int .i64 (seekF ls time)]) ∧ Below w.heap.size w w' := by
  obtain ⟨a, cap, rfl⟩ := h.parts
  have HS := Lib.hid h
  obtain ⟨g, hg⟩ : ∃ g, skG ls time = g := ⟨_, rfl⟩
  have HG : Hid (fstF [timF ls, fIf (!inB time (-1000000000000000) 1000000000000000) 1] = g) := Lib.hid hg
  by_cases h0 : g = 0
  · subst h0
    obtain ⟨hT, t0, t1⟩ := (skG_zero ls time).1 hg
    obtain ⟨x, hx⟩ : ∃ x, (skT ls time).1 = x := ⟨_, rfl⟩
    obtain ⟨y, hy⟩ : ∃ y, (skT ls time).2.1 = y := ⟨_, rfl⟩
    obtain ⟨c, hc⟩ : ∃ c, (skT ls time).2.2 = c := ⟨_, rfl⟩
    have HT := Lib.hid (touched_any (.slice a ls.length cap) ls time (time + 1))
    have HX : Hid ((tchTo ls time (time + 1) ls.length).1 = x) := Lib.hid hx
    have HY : Hid ((tchTo ls time (time + 1) ls.length).2.1 = y) := Lib.hid hy
    have HC : Hid ((tchTo ls time (time + 1) ls.length).2.2 = c) := Lib.hid hc
    rw [HX.out, HY.out, HC.out] at HT
    have HF : Hid (seekF ls time = if c = true then 0 else 9) := Lib.hid (by rw [seekF, if_neg (by simp [hg]), hc])
    have HI : Hid (seekI ls time = if c = true then y else 0) := Lib.hid (by rw [seekI, HF.out, hy]; cases c <;> rfl)
    have HD : Hid (seekD ls time = if c = true then time - bndV (ls.getD y seg0) else 0) := Lib.hid (by rw [seekD, HF.out, hy]; cases c <;> rfl)
    have HYL : Hid (c = true → y < ls.length) := Lib.hid (fun h => by rw [← hy]; exact (tchTo_some ls time (time + 1) ls.length (by rw [← h, ← hc]; rfl)).2.1)
    have HLEN := Lib.hid hT.len
    have HTM := Lib.hid hT
    have hmx := h.max.2
    obtain ⟨n, hn⟩ : ∃ n, ls.length = n := ⟨_, rfl⟩
    rw [hn] at HLEN HYL hmx HT HS ⊢
    have HN := Lib.hid hn
    clear hg hT hx hy hc h hn
    go_enter Try.func17, Try.ntmps17
    go_wp2_with fail
    refine (tims_any _ ls _ HS.out).mono ?_; rintro e w1 ⟨rfl, b1⟩
    go_wp2_with fail
    refine (btime_any _ _).mono ?_; rintro e w' ⟨rfl, rfl⟩
    go_wp2_with fail
    refine (bfaultIf_any _ _ _).mono ?_; rintro e w' ⟨rfl, rfl⟩
    go_wp2_with fail
    refine (bfirst2 _ _ _).mono ?_; rintro e w' ⟨rfl, rfl⟩
    rw [HG.out]
    have b2 : Below w.heap.size w (w1.alloc (.cells #[.int .i64 (timF ls), .int .i64 (fIf (!inB time (-1000000000000000) 1000000000000000) 1)] 25)) := b1.alloc b1.size _
    generalize w1.alloc (.cells #[.int .i64 (timF ls), .int .i64 (fIf (!inB time (-1000000000000000) 1000000000000000) 1)] 25) = w2 at *
    go_wp2_with fail
    refine (HT.out _ HLEN.out (HS.out.below b2 (Nat.le_refl _))).mono ?_; rintro e w3 ⟨rfl, b3⟩
    have b4 := b2.trans (b3.mono b2.size)
    cases c
    · go_wp2_with fail
      go_ret3
      exact ⟨ret3_nii (a := 0) HI.out.symm HD.out.symm HF.out.symm, b4⟩
    · have hyl := HYL.out rfl
      rcases HS.out with ⟨a', c', hv, h1⟩ | ⟨b, off, cap', hv, hne, hlt, hl, hm, hcc⟩
      · have := HN.out; omega
      simp only [Value.slice.injEq] at hv
      obtain ⟨rfl, -, rfl⟩ := hv
      have hS3 : Segs w3 (.slice (some ⟨b, off, none⟩) n cap) ls := HS.out.below b4 (Nat.le_refl _)
      obtain ⟨d0, d1, d2, d3, d4, d5, d6⟩ := hS3.cells y (by rw [HN.out]; exact hyl)
      obtain ⟨s, hs⟩ : ∃ s, ls.getD y seg0 = s := ⟨_, rfl⟩
      rw [hs] at d0 d1 d2 d3 d4 d5 d6
      have hok := HTM.out.ok y (by rw [HN.out]; exact hyl)
      rw [hs] at hok
      obtain ⟨bs, hbs⟩ : ∃ bs, bndV s = bs := ⟨_, rfl⟩
      have hbb : -2000000000000000 ≤ bs ∧ bs ≤ 2000000000000000 := by
        rw [← hbs, hok.bnd]
        have q1 := hok.bg; have q2 := hok.ld
        unfold isT at q1 q2
        omega
      have HBS := Lib.hid (bound_any s)
      rw [hbs] at HBS
      have HSG := Lib.hid hs
      have HBB := Lib.hid hbs
      have hw : IntKind.i64.wrap (time - bs) = time - bs := IntWalk.i64_in _ ⟨by omega, by omega⟩
      have hlt3 : b < w3.heap.size := Nat.lt_of_lt_of_le hlt b4.size
      clear hs hbs hok hS3 hcc hl hm hne
      go_wp2_with fail
      refine (HBS.out _).mono ?_; rintro e w5 ⟨rfl, b5⟩
      go_wp2_with fail
      go_ret3
      exact ⟨ret3_nii HI.out.symm (by rw [HD.out, HSG.out, HBB.out]; simp; try omega) HF.out.symm, b4.trans (b5.mono b4.size)⟩
  · have HF : Hid (seekF ls time = g) := Lib.hid (by rw [seekF, hg, if_pos h0])
    have HI : Hid (seekI ls time = 0) := Lib.hid (by rw [seekI, HF.out, if_neg h0])
    have HD : Hid (seekD ls time = 0) := Lib.hid (by rw [seekD, HF.out, if_neg h0])
    have hb : (g == 0) = false := by simp [h0]
    clear hg h0 h
    go_enter Try.func17, Try.ntmps17
    go_wp2_with fail
    refine (tims_any _ ls _ HS.out).mono ?_; rintro e w1 ⟨rfl, b1⟩
    go_wp2_with fail
    refine (btime_any _ _).mono ?_; rintro e w' ⟨rfl, rfl⟩
    go_wp2_with fail
    refine (bfaultIf_any _ _ _).mono ?_; rintro e w' ⟨rfl, rfl⟩
    go_wp2_with fail
    refine (bfirst2 _ _ _).mono ?_; rintro e w' ⟨rfl, rfl⟩
    rw [HG.out]
    go_wp2_with fail
    go_ret3
    exact ⟨ret3_nii (a := 0) HI.out.symm HD.out.symm HF.out.symm, b1.alloc b1.size _⟩

end Go.Proofs.Ytgbdmgmbdjajeaa
