/- LadderPeaksAreNotLess: whatever the input, the law returns true: the walk. -/
import Derived.Test.YtcidpggcanjoiaaPeak5
import Derived.Test.YtcidpggcanjoiaaLess5
import Derived.Test.YtcidpggcanjoiaaIntsC
namespace Go.Proofs.Ytcidpggcanjoiaa
set_option linter.unusedVariables false
set_option linter.unusedSimpArgs false
open Go.RowKit Go.Deep

theorem wf_bd {n : Int} (h : (Lit.int .i64 n).wf = true) : -9223372036854775808 ≤ n ∧ n ≤ 9223372036854775807 := by
  have h1 : IntKind.i64.min = -9223372036854775808 := by decide
  have h2 : IntKind.i64.max = 9223372036854775807 := by decide
  simpa only [Lit.wf, Bool.and_eq_true, decide_eq_true_eq, h1, h2] using h
theorem rtF_bit (b t s : Int) : rtF b t s = 0 ∨ rtF b t s = 1 := by unfold rtF; split <;> simp
theorem rtF_zero {b t s : Int} (h : rtF b t s = 0) : rtN b t s ≤ 9223372036854775807 := by
  unfold rtF at h
  split at h
  · assumption
  · omega
theorem mn_zero {F G : List Int} {s : Int} (h : mnF F G s = 0) : segF F G s = 0 ∧ rtF (psum (fun j => F.getD j 0) F.length) (psum (fun j => G.getD j 0) F.length) s = 0 := by
  unfold mnF at h
  split at h
  · exact ⟨by assumption, h⟩
  · rename_i hn; exact absurd h hn
structure PeakOk (F G : List Int) (s r : Int) : Prop where
  all0 : 0 < psum (fun j => G.getD j 0) F.length
  all1 : psum (fun j => G.getD j 0) F.length ≤ 500000000000
  bit : peF F G s (1 + r) (psum (fun j => G.getD j 0) F.length) = 0 ∨ peF F G s (1 + r) (psum (fun j => G.getD j 0) F.length) = 1
  ok : peF F G s (1 + r) (psum (fun j => G.getD j 0) F.length) = 0 → peB F G s (1 + r) (psum (fun j => G.getD j 0) F.length) = true
  x0 : peF F G s (1 + r) (psum (fun j => G.getD j 0) F.length) = 0 → 0 ≤ peX F G s (1 + r) (psum (fun j => G.getD j 0) F.length) ∧ peX F G s (1 + r) (psum (fun j => G.getD j 0) F.length) ≤ 9223372036854775807
  y0 : peF F G s (1 + r) (psum (fun j => G.getD j 0) F.length) = 0 → 0 < peY F G s (1 + r) (psum (fun j => G.getD j 0) F.length) ∧ peY F G s (1 + r) (psum (fun j => G.getD j 0) F.length) ≤ 9223372036854775807
  m0 : 0 ≤ mnX F G s ∧ mnX F G s ≤ 9223372036854775807
  n0 : 0 < mnY F G s ∧ mnY F G s ≤ 9223372036854775807
  les : peF F G s (1 + r) (psum (fun j => G.getD j 0) F.length) = 0 → decide (peX F G s (1 + r) (psum (fun j => G.getD j 0) F.length) * mnY F G s < mnX F G s * peY F G s (1 + r) (psum (fun j => G.getD j 0) F.length)) = false
theorem peaks_all {F G : List Int} {s : Int} (h : mnF F G s = 0) : 0 < psum (fun j => G.getD j 0) F.length ∧ psum (fun j => G.getD j 0) F.length ≤ 500000000000 := by
  obtain ⟨hs, -⟩ := mn_zero h
  obtain ⟨l0, lg, hok, s0, s1⟩ := segF_zero hs
  have := hok.lg 0 F.length (by omega) (Nat.le_refl _)
  simp only [psum, Int.sub_zero, Nat.sub_zero] at this
  omega
theorem peaks_plain {F G : List Int} {s r : Int} (h : mnF F G s = 0) (r0 : 0 ≤ r) (r1 : r < psum (fun j => G.getD j 0) F.length) : PeakOk F G s r := by
  obtain ⟨hs, hr⟩ := mn_zero h
  obtain ⟨l0, lg, hok, s0, s1⟩ := segF_zero hs
  obtain ⟨ha0, ha1⟩ := peaks_all h
  have hb := hok.sz 0 F.length (by omega) (Nat.le_refl _)
  simp only [psum, Int.sub_zero] at hb
  have hX : mnX F G s = rtN (psum (fun j => F.getD j 0) F.length) (psum (fun j => G.getD j 0) F.length) s := by rw [mnX, if_pos h]
  have hY : mnY F G s = rtD (psum (fun j => F.getD j 0) F.length) (psum (fun j => G.getD j 0) F.length) s := by rw [mnY, if_pos h]
  obtain ⟨B, hB⟩ : ∃ B, psum (fun j => F.getD j 0) F.length = B := ⟨_, rfl⟩
  obtain ⟨T, hT⟩ : ∃ T, psum (fun j => G.getD j 0) F.length = T := ⟨_, rfl⟩
  have hG : pkG F G s (1 + r) T = 0 := by
    unfold pkG
    rw [fstF_zero]
    simp only [List.mem_cons, List.not_mem_nil, or_false, forall_eq_or_imp, forall_eq]
    rw [fIf_zero (by decide), fIf_zero (by decide)]
    simp only [Bool.not_eq_false', inB_iff, decide_eq_false_iff_not]
    rw [← hT]
    exact ⟨hs, ⟨by omega, by omega⟩, by omega⟩
  obtain ⟨pb, pt, hp, p0, p1⟩ := pkAll_whole (lo := 1 + r) (hi := T) hok l0 (by omega) (by omega)
  have hpo := pkAll_ok (lo := 1 + r) (hi := T) hok F.length 0 none (by omega) (.inl rfl)
  rw [hp] at hpo
  have hq : 0 ≤ pb ∧ pb ≤ 500000000000 ∧ 1 ≤ pt ∧ pt ≤ 500000000000 := by
    rcases hpo with h | ⟨b1, t1, h, h1, h2, h3, h4⟩
    · simp at h
    · simp only [Option.some.injEq, Prod.mk.injEq] at h
      omega
  obtain ⟨e1, e2, e3, e4⟩ := pe_some hG hp
  rw [hB, hT] at hX hY hr p1
  rw [hB] at hb
  rw [hT] at ha0 ha1
  have f1 := rt_facts (b := pb) (t := pt) (s := s) hq.1 p0 (by omega)
  have f2 := rt_facts (b := B) (t := T) (s := s) hb.1 ha0 (by omega)
  have hl := rt_less f1 f2 (by omega) p0 ha0 p1
  have hbit := rtF_bit pb pt s
  have q1 : 0 ≤ rtN pb pt s := Int.mul_nonneg f1.n0 (Int.le_of_lt f1.s0)
  have q2 : 0 ≤ rtN B T s := Int.mul_nonneg f2.n0 (Int.le_of_lt f2.s0)
  have k2 := rtF_zero hr
  have d1 := f1.d1; have d2 := f2.d1; have d3 := f1.d0; have d4 := f2.d0
  refine ⟨by rw [hT]; exact ha0, by rw [hT]; exact ha1, ?_, ?_, ?_, ?_, ?_, ?_, ?_⟩
  · rw [hT, e1]; exact hbit
  · rw [hT, e1, e2]; intro h; simp [h]
  · rw [hT, e1, e3]; intro h; rw [rtX, if_pos h]; have := rtF_zero h; omega
  · rw [hT, e1, e4]; intro h; rw [rtY, if_pos h]; omega
  · rw [hX]; omega
  · rw [hY]; omega
  · rw [hT, e1, e3, e4, hX, hY]; intro h; rw [rtX, rtY, if_pos h, if_pos h]; exact decide_eq_false hl
set_option maxRecDepth 100000 in
set_option maxHeartbeats 4000000 in
theorem peakslaw (u v : Value) (F G : List Int) (s lo : Int) (w : World) (hu : Nums w u F) (hv : Nums w v G) (lw : (Lit.int .i64 lo).wf = true) :
    Calls Try.prog 3 #[u, v, .int .i64 s, .int .i64 lo] w fun e w' => e = .returned (.bool true) ∧ Below w.heap.size w w' := by
  have lb : -9223372036854775808 ≤ lo ∧ lo ≤ 9223372036854775807 := wf_bd lw
  obtain ⟨lb0, lb1⟩ := lb
  have HM := Lib.hid (mean_any u v F G s w hu hv)
  obtain ⟨MF, hMF⟩ : ∃ MF, mnF F G s = MF := ⟨_, rfl⟩
  by_cases h0 : MF = 0
  · subst h0
    have HQ := Lib.hid (fun r a b => peaks_plain (r := r) hMF a b)
    obtain ⟨T0, T1⟩ := peaks_all hMF
    obtain ⟨hs, -⟩ := mn_zero hMF
    obtain ⟨l0, lg, hok, s0, s1⟩ := segF_zero hs
    have HSO : Hid (∀ w, Nums w v G → Calls Try.prog 17 #[v] w fun e w' => e = .returned (.int .i64 (psum (fun j => G.getD j 0) F.length)) ∧ w = w') := Lib.hid (fun w h => by
      rw [← lg]
      exact sumof_any v G w h (by rw [lg]; exact hok.len) (fun j hj => by have := hok.long j (by omega); omega))
    rw [hMF] at HM
    obtain ⟨T, hT⟩ : ∃ T, psum (fun j => G.getD j 0) F.length = T := ⟨_, rfl⟩
    rw [hT] at T0 T1 HSO
    have HT := Lib.hid hT
    obtain ⟨MX, hMX⟩ : ∃ MX, mnX F G s = MX := ⟨_, rfl⟩
    obtain ⟨MY, hMY⟩ : ∃ MY, mnY F G s = MY := ⟨_, rfl⟩
    rw [hMX, hMY] at HM
    have HMX := Lib.hid hMX; have HMY := Lib.hid hMY
    have HU := Lib.hid hu; have HV := Lib.hid hv
    clear hT hMX hMY hMF hs hok lg lw hu hv
    go_enter Try.func3, Try.ntmps3
    go_wp2_with fail
    refine HM.out.mono ?_; rintro e w1 ⟨rfl, b1⟩
    go_upto_region 2 with fail
    have TX := Two.new w1 MX MY 24
    have b2 := b1.alloc (o := .cells #[.int .i64 MX, .int .i64 MY] 24) b1.size
    have hX := b1.size
    generalize w1.alloc (.cells #[.int .i64 MX, .int .i64 MY] 24) = W at *
    generalize w1.heap.size = X at *
    go_wp2_with fail
    refine (HSO.out _ (HV.out.below b2 (Nat.le_refl _))).mono ?_; rintro e w' ⟨rfl, rfl⟩
    go_wp2_with fail
    refine (below5_any lo T _ lb0 lb1 T0 (by omega)).mono ?_; rintro e w' ⟨⟨r, rfl, r0, r1⟩, rfl⟩
    have wr1 : IntKind.i64.wrap (1 + r) = 1 + r := IntWalk.i64_in _ ⟨by omega, by omega⟩
    have hq := HQ.out r r0 (by rw [HT.out]; exact r1)
    have hpk := peak_any u v F G s (1 + r) T W (HU.out.below b2 (Nat.le_refl _)) (HV.out.below b2 (Nat.le_refl _))
    obtain ⟨-, -, q1, q2, q3, q4, q5, q6, q7⟩ := hq
    rw [HT.out] at q1 q2 q3 q4 q7
    rw [HMX.out] at q5 q7
    rw [HMY.out] at q6 q7
    obtain ⟨PX, hPX⟩ : ∃ PX, peX F G s (1 + r) T = PX := ⟨_, rfl⟩
    obtain ⟨PY, hPY⟩ : ∃ PY, peY F G s (1 + r) T = PY := ⟨_, rfl⟩
    obtain ⟨PB, hPB⟩ : ∃ PB, peB F G s (1 + r) T = PB := ⟨_, rfl⟩
    obtain ⟨PF, hPF⟩ : ∃ PF, peF F G s (1 + r) T = PF := ⟨_, rfl⟩
    rw [hPX, hPY, hPB, hPF] at hpk
    rw [hPF] at q1 q2 q3 q4 q7
    rw [hPB] at q2
    rw [hPX] at q3 q7
    rw [hPY] at q4 q7
    have HPK := Lib.hid hpk
    have H7 := Lib.hid q7
    have H2 := Lib.hid q2
    have H3 := Lib.hid q3
    have H4 := Lib.hid q4
    clear hPX hPY hPB hPF hpk q2 q3 q4 q7
    go_wp2_with fail
    refine HPK.out.mono ?_; rintro e w3 ⟨rfl, b3⟩
    go_upto_region 6 with fail
    have TX := TX.below b3 TX.lt
    have b4 := b2.trans (b3.mono b2.size)
    have TX := TX.alloc (.cells #[.int .i64 PX, .int .i64 PY] 24)
    have TY := Two.new w3 PX PY 24
    have b5 := b4.alloc (o := .cells #[.int .i64 PX, .int .i64 PY] 24) b4.size
    generalize w3.alloc (.cells #[.int .i64 PX, .int .i64 PY] 24) = W5 at *
    generalize w3.heap.size = Y at *
    have x0 := TX.c0; have x1 := TX.c1; have y0 := TY.c0; have y1 := TY.c1
    rcases q1 with rfl | rfl
    · have hb := H2.out rfl
      subst hb
      obtain ⟨a0, a1⟩ := H3.out rfl
      obtain ⟨c0, c1⟩ := H4.out rfl
      obtain ⟨d0, d1⟩ := q5
      obtain ⟨f0, f1⟩ := q6
      have hl := less_any PX PY MX MY W5 a0 a1 c0 c1 d0 d1 f0 f1
      rw [H7.out rfl] at hl
      have HL := Lib.hid hl
      clear hl
      go_wp2_with fail
      refine HL.out.mono ?_; rintro e w6 ⟨rfl, b6⟩
      go_wp2_with fail
      refine (awake5_any _).mono ?_; rintro e w7 ⟨rfl, b7⟩
      have b8 := b5.trans (b6.mono b5.size)
      go_wp2_with fail
      go_ret
      exact ⟨rfl, b8.trans (b7.mono b8.size)⟩
    · go_wp2_with fail
      refine (awake5_any _).mono ?_; rintro e w7 ⟨rfl, b7⟩
      go_wp2_with fail
      go_ret
      exact ⟨rfl, b5.trans (b7.mono b5.size)⟩
  · have hX : mnX F G s = 0 := by rw [mnX, hMF, if_neg h0]
    rw [hMF, hX] at HM
    obtain ⟨MY, hMY⟩ : ∃ MY, mnY F G s = MY := ⟨_, rfl⟩
    rw [hMY] at HM
    have hb0 : (MF == 0) = false := by simp [h0]
    clear hX hMY hMF h0 hu hv lw
    go_enter Try.func3, Try.ntmps3
    go_wp2_with fail
    refine HM.out.mono ?_; rintro e w1 ⟨rfl, b1⟩
    go_upto_region 2 with fail
    have TX := Two.new w1 0 MY 24
    have b2 := b1.alloc (o := .cells #[.int .i64 0, .int .i64 MY] 24) b1.size
    generalize w1.alloc (.cells #[.int .i64 0, .int .i64 MY] 24) = W at *
    generalize w1.heap.size = X at *
    have x0 := TX.c0
    go_wp2_with fail
    refine (awake5_any _).mono ?_; rintro e w7 ⟨rfl, b7⟩
    go_wp2_with fail
    go_ret
    exact ⟨rfl, b2.trans (b7.mono b2.size)⟩

end Go.Proofs.Ytcidpggcanjoiaa
