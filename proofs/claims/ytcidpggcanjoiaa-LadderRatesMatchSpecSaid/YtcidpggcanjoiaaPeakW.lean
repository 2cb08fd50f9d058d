/- Peak (program). -/
import Derived.Test.YtcidpggcanjoiaaPeak0
namespace Go.Proofs.Ytcidpggcanjoiaa
set_option linter.unusedVariables false
set_option linter.unusedSimpArgs false
open Go.RowKit Go.Deep

set_option maxRecDepth 100000 in
set_option maxHeartbeats 100000000 in
theorem peak_walk (b off n cap c off2 cap2 : Nat) (F G : List Int) (s lo hi : Int) (w : World) (hF : F.length = n) (hG : G.length = n) (h0 : 0 < n) (hg : pkG F G s lo hi = 0)
    (hb : b < w.heap.size) (hb2 : c < w.heap.size) (hc : ∀ j, j < n → w.cell? ⟨b, off + j, none⟩ = some (.int .i64 (F.getD j 0))) (hd : ∀ j, j < n → w.cell? ⟨c, off2 + j, none⟩ = some (.int .i64 (G.getD j 0))) :
    Calls Try.prog 18 #[.slice (some ⟨b, off, none⟩) n cap, .slice (some ⟨c, off2, none⟩) n cap2, .int .i64 s, .int .i64 lo, .int .i64 hi] w
      fun e w' => e = .returned (.tuple #[.agg #[.int .i64 (peX F G s lo hi), .int .i64 (peY F G s lo hi)], .bool (peB F G s lo hi), .int .i64 (peF F G s lo hi)]) ∧ Below w.heap.size w w' := by
  obtain ⟨hs, lo0, lo1, hi1⟩ := pkG_zero hg
  obtain ⟨-, -, hok0, s0, s1⟩ := segF_zero hs
  obtain ⟨f, hf⟩ : ∃ f : Nat → Int, (fun j => F.getD j 0) = f := ⟨_, rfl⟩
  obtain ⟨g, hgg⟩ : ∃ g : Nat → Int, (fun j => G.getD j 0) = g := ⟨_, rfl⟩
  rw [hf, hgg, hF] at hok0
  have hOK := Lib.hid hok0
  have hn : n ≤ 500 := hok0.len
  have HNN : Hid (pkR F G lo hi = none → peF F G s lo hi = 0 ∧ peB F G s lo hi = false ∧ peX F G s lo hi = 0 ∧ peY F G s lo hi = 0) := Lib.hid (pe_none hg)
  have HSS : Hid (∀ x y, pkR F G lo hi = some (x, y) → peF F G s lo hi = rtF x y s ∧ peB F G s lo hi = decide (rtF x y s = 0) ∧ peX F G s lo hi = rtX x y s ∧ peY F G s lo hi = rtY x y s) := Lib.hid (fun x y h => pe_some hg h)
  have HRR : Hid (pkR F G lo hi = pkAll f g lo hi n n 0 none) := Lib.hid (by rw [pkR, hf, hgg, hF])
  have HPO := Lib.hid (pkAll_ok (lo := lo) (hi := hi) hok0 n 0 none (by omega) (.inl rfl))
  obtain ⟨RR, hRR⟩ : ∃ RR, pkR F G lo hi = RR := ⟨_, rfl⟩
  rw [hRR] at HNN HSS HRR
  rw [← HRR.out] at HPO
  have HC : Hid (∀ j, j < n → w.cell? ⟨b, off + j, none⟩ = some (.int .i64 (f j))) := Lib.hid (fun j hj => by rw [← hf]; exact hc j hj)
  have HD : Hid (∀ j, j < n → w.cell? ⟨c, off2 + j, none⟩ = some (.int .i64 (g j))) := Lib.hid (fun j hj => by rw [← hgg]; exact hd j hj)
  have HU : Hid (Nums w (.slice (some ⟨b, off, none⟩) n cap) F) := Lib.hid (.inr ⟨b, off, cap, by rw [hF], (fun h => by rw [h] at hF; simp at hF; omega), hb, (by unfold maxLen; omega), (fun j hj => hc j (by omega))⟩)
  have HV : Hid (Nums w (.slice (some ⟨c, off2, none⟩) n cap2) G) := Lib.hid (.inr ⟨c, off2, cap2, by rw [hG], (fun h => by rw [h] at hG; simp at hG; omega), hb2, (by unfold maxLen; omega), (fun j hj => hd j (by omega))⟩)
  have HS := Lib.hid hs
  have HLO := inB_yes lo0 lo1
  have HG' : Hid (fstF [(0 : Int), fIf false 1, fIf (decide (1000000000000000 < hi)) 1] = 0) := Lib.hid (by
    have : decide (1000000000000000 < hi) = false := by simp; omega
    rw [this]; rfl)
  have HLOO := Lib.hid HLO
  obtain ⟨PX, hPX⟩ : ∃ PX, peX F G s lo hi = PX := ⟨_, rfl⟩
  obtain ⟨PY, hPY⟩ : ∃ PY, peY F G s lo hi = PY := ⟨_, rfl⟩
  obtain ⟨PB, hPB⟩ : ∃ PB, peB F G s lo hi = PB := ⟨_, rfl⟩
  obtain ⟨PF, hPF⟩ : ∃ PF, peF F G s lo hi = PF := ⟨_, rfl⟩
  rw [hPX, hPY, hPB, hPF] at HNN HSS
  rw [hPX, hPY, hPB, hPF]
  clear hc hd hF hG hg hs hok0 hf hgg hRR HLO hPX hPY hPB hPF
  go_enter Try.func18, Try.ntmps18
  go_wp2_with fail
  have hbw : Below w.heap.size w (w.alloc (.cells #[.int .i64 0, .int .i64 0] 24)) := (Below.refl _ w).alloc (Nat.le_refl _) _
  refine (chkseg_any _ _ F G s _ (HU.out.below hbw (Nat.le_refl _)) (HV.out.below hbw (Nat.le_refl _))).mono ?_; rintro e w' ⟨rfl, rfl⟩
  rw [HS.out]
  go_wp2_with fail
  refine (bwithin_any _ _ _ _).mono ?_; rintro e w' ⟨rfl, rfl⟩
  rw [HLOO.out]
  go_wp2_with fail
  refine (bfaultIf_any _ _ _).mono ?_; rintro e w' ⟨rfl, rfl⟩
  go_wp2_with fail
  refine (bfaultIf_any _ _ _).mono ?_; rintro e w' ⟨rfl, rfl⟩
  go_wp2_with fail
  have hz : (w.alloc (.cells #[.int .i64 0, .int .i64 0] 24)).heap.size = w.heap.size + 1 := by simp
  have hb3 := bfirst3 0 (fIf false 1) (fIf (decide (1000000000000000 < hi)) 1) (w.alloc (.cells #[.int .i64 0, .int .i64 0] 24))
  rw [HG'.out, hz] at hb3
  refine hb3.mono ?_; rintro e w' ⟨rfl, rfl⟩
  clear hb3
  go_upto_region 4 with fail
  have T0 := (Two.new w 0 0 24).alloc (.cells #[.int .i64 0, .int .i64 (fIf false 1), .int .i64 (fIf (decide (1000000000000000 < hi)) 1)] 25)
  have hbA := hbw.alloc (o := .cells #[.int .i64 0, .int .i64 (fIf false 1), .int .i64 (fIf (decide (1000000000000000 < hi)) 1)] 25) (by rw [hz]; omega)
  have hszA : ((w.alloc (.cells #[.int .i64 0, .int .i64 0] 24)).alloc (.cells #[.int .i64 0, .int .i64 (fIf false 1), .int .i64 (fIf (decide (1000000000000000 < hi)) 1)] 25)).heap.size = w.heap.size + 2 := by simp
  have hPlt : w.heap.size + 1 < ((w.alloc (.cells #[.int .i64 0, .int .i64 0] 24)).alloc (.cells #[.int .i64 0, .int .i64 (fIf false 1), .int .i64 (fIf (decide (1000000000000000 < hi)) 1)] 25)).heap.size := by rw [hszA]; omega
  clear hz hbw hszA
  generalize (w.alloc (.cells #[.int .i64 0, .int .i64 0] 24)).alloc (.cells #[.int .i64 0, .int .i64 (fIf false 1), .int .i64 (fIf (decide (1000000000000000 < hi)) 1)] 25) = A at *
  go_wp2_with fail
  have PT := Two.new A 0 0 80
  have hbP : Below A.heap.size A (A.alloc (.cells #[.int .i64 0, .int .i64 0] 80)) := (Below.refl _ A).alloc (Nat.le_refl _) _
  go_loopw [15, 41] (fun v15 v wr => ∃ (k : Nat) (fnd : Bool) (pb pt : Int), k ≤ n ∧ v = .int .i64 k ∧ v15 = .bool fnd ∧ Below A.heap.size A wr ∧ Two wr A.heap.size pb pt ∧ Hid (pkAll f g lo hi n (n - k) k (stO fnd pb pt) = RR) ∧ pkOk 500000000000 500000000000 (stO fnd pb pt)) (fun _ v _ => n - (intOf v).toNat)
  case atStart => exact ⟨0, false, 0, 0, by omega, rfl, rfl, hbP, PT, Lib.hid HRR.out.symm, .inl rfl⟩
  case round =>
    obtain ⟨k, fnd, pb, pt, hk, rfl, rfl, hbel, TP, HK, hpo⟩ := hrel
    by_cases hlt : k < n
    rotate_left
    · have hkn : k = n := by omega
      subst hkn
      have hRR : stO fnd pb pt = RR := by have h := HK.out; rw [Nat.sub_self, pkAll] at h; exact h
      have TR := T0.below hbel (by omega)
      have r0 := TR.c0
      have r1 := TR.c1
      have rf0 := TR.f0
      have rf1 := TR.f1
      have rl := TR.lt
      have p0 := TP.c0
      have p1 := TP.c1
      have pl := TP.lt
      have hbw := hbA.trans (hbel.mono (by omega))
      have hdk : decide (k < k) = false := by simp
      clear hlt
      cases fnd
      · obtain ⟨rfl, rfl, rfl, rfl⟩ := HNN.out (by rw [← hRR]; rfl)
        clear hRR
        go_wp2_with fail
        refine bodyPost_ret (by simp [results, Try.results18, go_sem, r0, r1]; try rfl) rfl ?_
        exact ⟨rfl, (hbw.setCell (p := ⟨w.heap.size, 0, none⟩) (Nat.le_refl _) _).setCell (p := ⟨w.heap.size, 1, none⟩) (Nat.le_refl _) _⟩
      · obtain ⟨e1, e2, e3, e4⟩ := HSS.out pb pt (by rw [← hRR]; rfl)
        have hq : 0 ≤ pb ∧ pb ≤ 500000000000 ∧ 1 ≤ pt ∧ pt ≤ 500000000000 := by
          rcases hpo with h | ⟨b1, t1, h, h1, h2, h3, h4⟩
          · simp [stO] at h
          · simp only [stO, if_true, Option.some.injEq, Prod.mk.injEq] at h
            omega
        obtain ⟨q0, q1, q2, q3⟩ := hq
        have hra := rate_any pb pt s wr (by omega) (by omega) (by omega) (by omega) (by omega) (by omega)
        rw [← e1, ← e3, ← e4] at hra
        rw [← e1] at e2
        have HRA := Lib.hid hra
        have HPB := Lib.hid e2
        clear e1 e2 e3 e4 hra hRR
        go_wp2_with fail
        refine HRA.out.mono ?_; rintro e w6 ⟨rfl, b6⟩
        have TR := TR.below b6 rl
        have hb6 := hbw.trans (b6.mono hbw.size)
        have TR2 := TR.alloc (.cells #[.int .i64 PX, .int .i64 PY] 24)
        have hb7 := hb6.alloc (o := .cells #[.int .i64 PX, .int .i64 PY] 24) hb6.size
        have TN := Two.new w6 PX PY 24
        have nl := TN.lt
        go_upto_region 19 with fail
        generalize w6.alloc (.cells #[.int .i64 PX, .int .i64 PY] 24) = W7 at *
        have r0 := TR2.c0
        have r1 := TR2.c1
        have rf0 := TR2.f0
        have rf1 := TR2.f1
        have rl := TR2.lt
        have n0 := TN.c0
        have n1 := TN.c1
        go_wp2_with fail
        refine bodyPost_ret (by simp [results, Try.results18, go_sem, r0, r1]; try rfl) rfl ?_
        refine ⟨?_, (hb7.setCell (p := ⟨w.heap.size, 0, none⟩) (Nat.le_refl _) _).setCell (p := ⟨w.heap.size, 1, none⟩) (Nat.le_refl _) _⟩
        rw [HPB.out, ← beq_dec]
    · obtain ⟨E, hE⟩ : ∃ E, pkIn f g lo hi k (n - k) k (stO fnd pb pt) = E := ⟨_, rfl⟩
      have HE : Hid (pkAll f g lo hi n (n - (k + 1)) (k + 1) E = RR) := Lib.hid (by
        have h := HK.out
        rw [show n - k = (n - (k + 1)) + 1 by omega, pkAll, hE] at h
        exact h)
      have HI := Lib.hid hE
      have TX0 := Two.new wr 0 0 80
      have TP0 := TP.alloc (.cells #[.int .i64 0, .int .i64 0] 80)
      have hb0 := hbel.alloc (o := .cells #[.int .i64 0, .int .i64 0] 80) hbel.size
      have hPX := TP.lt
      clear hE TP hbP PT HK
      go_wp2_with fail
      generalize wr.alloc (.cells #[.int .i64 0, .int .i64 0] 80) = W5 at *
      generalize wr.heap.size = X at *
      clear hbel wr
      go_loopw [15, 18] (fun v15 v wr => ∃ (i : Nat) (fnd' : Bool) (pb' pt' : Int), k ≤ i ∧ i ≤ n ∧ v = .int .i64 i ∧ v15 = .bool fnd' ∧ Below A.heap.size A wr ∧ Two wr A.heap.size pb' pt' ∧ Two wr X (psum f i - psum f k) (psum g i - psum g k) ∧ Hid (pkIn f g lo hi k (n - i) i (stO fnd' pb' pt') = E) ∧ pkOk 500000000000 500000000000 (stO fnd' pb' pt')) (fun _ v _ => n - (intOf v).toNat)
      case atStart => exact ⟨k, fnd, pb, pt, Nat.le_refl _, hk, rfl, rfl, hb0, TP0, by simpa using TX0, HI, hpo⟩
      case round =>
        obtain ⟨i, fnd', pb', pt', hki, hin, rfl, rfl, hbel, TP, TX, HII, hpi⟩ := hrel
        obtain ⟨B, hB⟩ : ∃ B, psum f i - psum f k = B := ⟨_, rfl⟩
        obtain ⟨T, hT⟩ : ∃ T, psum g i - psum g k = T := ⟨_, rfl⟩
        have hsB := hOK.out.sz k i hki hin
        have hsT := hOK.out.lg k i hki hin
        rw [hB] at hsB TX
        rw [hT] at hsT TX
        have HBB := Lib.hid hB
        have HTT := Lib.hid hT
        clear hB hT
        have x0 := TX.c0
        have x1 := TX.c1
        have hbw := hbA.trans (hbel.mono (by omega))
        by_cases hi2 : i < n
        · obtain ⟨y, hy⟩ : ∃ y, g i = y := ⟨_, rfl⟩
          have d1 : wr.cell? ⟨c, off2 + i, none⟩ = some (.int .i64 y) := by rw [hbw.cell (p := ⟨c, off2 + i, none⟩) hb2, ← hy]; exact HD.out i hi2
          have hy2 := hOK.out.long i hi2
          rw [hy] at hy2
          have hT1 : Hid (psum g (i + 1) - psum g k = T + y) := Lib.hid (by rw [psum, hy]; have := HTT.out; omega)
          have wT : IntKind.i64.wrap (T + y) = T + y := IntWalk.i64_in _ ⟨by omega, by omega⟩
          clear hy
          by_cases hhi : T + y ≤ hi
          · obtain ⟨x, hx⟩ : ∃ x, f i = x := ⟨_, rfl⟩
            have d0 : wr.cell? ⟨b, off + i, none⟩ = some (.int .i64 x) := by rw [hbw.cell (p := ⟨b, off + i, none⟩) hb, ← hx]; exact HC.out i hi2
            have hx2 := hOK.out.size i hi2
            rw [hx] at hx2
            have hB1 : Hid (psum f (i + 1) - psum f k = B + x) := Lib.hid (by rw [psum, hx]; have := HBB.out; omega)
            have wB : IntKind.i64.wrap (B + x) = B + x := IntWalk.i64_in _ ⟨by omega, by omega⟩
            clear hx
            go_upto_region 10 with fail
            go_quiet (fail)
            have TX := TX.drewN nq
            have TP := TP.drewN nq
            have hbel := below_drewN hbel nq
            have d0 : (wr.drewN nq).cell? ⟨b, off + i, none⟩ = some (.int .i64 x) := d0
            have d1 : (wr.drewN nq).cell? ⟨c, off2 + i, none⟩ = some (.int .i64 y) := d1
            clear hbw
            generalize wr.drewN nq = W at *
            have x0 := TX.c0
            have x1 := TX.c1
            have xf0 := TX.f0
            have xf1 := TX.f1
            go_upto_region 12 with fail
            go_region
            have TX := (TX.set (x' := B + x) (y' := T + y)).drew
            have TP := ((TP.other (Y := X) (i := 0) (v := .int .i64 (B + x)) (by omega)).other (Y := X) (i := 1) (v := .int .i64 (T + y)) (by omega)).drew
            have hbel := ((hbel.setCell (p := ⟨X, 0, none⟩) (by show A.heap.size ≤ X; omega) (.int .i64 (B + x))).setCell (p := ⟨X, 1, none⟩) (by show A.heap.size ≤ X; omega) (.int .i64 (T + y))).drew
            clear d0 d1 x0 x1 xf0 xf1
            generalize ((W.setCell ⟨X, 0, none⟩ (.int .i64 (B + x))).setCell ⟨X, 1, none⟩ (.int .i64 (T + y))).drew = W2 at *
            obtain ⟨B', hB'⟩ : ∃ B', B + x = B' := ⟨_, rfl⟩
            obtain ⟨T', hT'⟩ : ∃ T', T + y = T' := ⟨_, rfl⟩
            have hBr : 0 ≤ B' ∧ B' ≤ 500000000000 := by have := hOK.out.sz k (i + 1) (by omega) (by omega); have := hB1.out; omega
            have hTr : 1 ≤ T' ∧ T' ≤ 500000000000 := by have := hOK.out.lg k (i + 1) (by omega) (by omega); have := hT1.out; omega
            rw [hB'] at hB1 TX
            rw [hT'] at hT1 TX hhi
            have hN : pkIn f g lo hi k (n - (i + 1)) (i + 1) (pkStep lo hi B' T' (stO fnd' pb' pt')) = E := by
              have h := HII.out
              rw [show n - i = (n - (i + 1)) + 1 by omega, pkIn, hB1.out, hT1.out] at h
              exact h
            have hO := hpi.step (lo := lo) (hi := hi) hBr hTr
            rw [stO_step fnd' pb' pt' lo hi B' T' hhi] at hN hO
            have HN := Lib.hid hN
            have HO := Lib.hid hO
            have hwI : IntKind.i64.wrap ((i : Int) + 1) = (i : Int) + 1 := IntWalk.i64_in _ ⟨by omega, by omega⟩
            clear hB' hT' hN hO wB wT HII
            have x0 := TX.c0
            have x1 := TX.c1
            have xl := TX.lt
            have p0 := TP.c0
            have p1 := TP.c1
            have pf0 := TP.f0
            have pf1 := TP.f1
            have pl := TP.lt
            by_cases hlo : lo ≤ T'
            · cases fnd'
              · have HN2 : Hid (pkIn f g lo hi k (n - (i + 1)) (i + 1) (stO true B' T') = E) := Lib.hid (by have h := HN.out; rw [if_pos ⟨hlo, .inl rfl⟩] at h; exact h)
                have HO2 : Hid (pkOk 500000000000 500000000000 (stO true B' T')) := Lib.hid (by have h := HO.out; rw [if_pos ⟨hlo, .inl rfl⟩] at h; exact h)
                have TPn := TP.set (x' := B') (y' := T')
                have TXn := (TX.other (Y := A.heap.size) (i := 0) (v := .int .i64 B') (by omega)).other (Y := A.heap.size) (i := 1) (v := .int .i64 T') (by omega)
                have hbn := (hbel.setCell (p := ⟨A.heap.size, 0, none⟩) (Nat.le_refl _) (.int .i64 B')).setCell (p := ⟨A.heap.size, 1, none⟩) (Nat.le_refl _) (.int .i64 T')
                go_wp2_with fail
                go_roundw
                case rel => exact ⟨i + 1, true, B', T', by omega, by omega, by go_num, rfl, hbn, TPn, by rw [hB1.out, hT1.out]; exact TXn, HN2, HO2.out⟩
                case measure => simp [intOf]; omega
              · have hq : 0 ≤ pb' ∧ pb' ≤ 500000000000 ∧ 1 ≤ pt' ∧ pt' ≤ 500000000000 := by
                  rcases hpi with h | ⟨b1, t1, h, h1, h2, h3, h4⟩
                  · simp [stO] at h
                  · simp only [stO, if_true, Option.some.injEq, Prod.mk.injEq] at h
                    omega
                obtain ⟨q0, q1, q2, q3⟩ := hq
                obtain ⟨r, hr⟩ : ∃ r, decide (pb' * T' < B' * pt') = r := ⟨_, rfl⟩
                have hfa := faster_any B' T' pb' pt' W2
                rw [hr] at hfa
                have HFA := Lib.hid hfa
                have HR := Lib.hid hr
                clear hr hfa
                go_wp2_with fail
                refine (HFA.out (by omega) (by omega) (by omega) (by omega) (by omega) (by omega) (by omega) (by omega)).mono ?_; rintro e w6 ⟨rfl, b6⟩
                have TX := TX.below b6 xl
                have TP := TP.below b6 pl
                have hbel := hbel.trans (b6.mono (by omega))
                have x0 := TX.c0
                have x1 := TX.c1
                have xl := TX.lt
                have p0 := TP.c0
                have p1 := TP.c1
                have pf0 := TP.f0
                have pf1 := TP.f1
                have pl := TP.lt
                cases r
                · have HN2 : Hid (pkIn f g lo hi k (n - (i + 1)) (i + 1) (stO true pb' pt') = E) := Lib.hid (by have h := HN.out; rw [if_neg (by rintro ⟨-, h | h⟩; cases h; exact absurd h (of_decide_eq_false HR.out))] at h; exact h)
                  go_wp2_with fail
                  go_roundw
                  case rel => exact ⟨i + 1, true, pb', pt', by omega, by omega, by go_num, rfl, hbel, TP, by rw [hB1.out, hT1.out]; exact TX, HN2, hpi⟩
                  case measure => simp [intOf]; omega
                · have hlt3 : pb' * T' < B' * pt' := of_decide_eq_true HR.out
                  have HN2 : Hid (pkIn f g lo hi k (n - (i + 1)) (i + 1) (stO true B' T') = E) := Lib.hid (by have h := HN.out; rw [if_pos ⟨hlo, .inr hlt3⟩] at h; exact h)
                  have HO2 : Hid (pkOk 500000000000 500000000000 (stO true B' T')) := Lib.hid (by have h := HO.out; rw [if_pos ⟨hlo, .inr hlt3⟩] at h; exact h)
                  have TPn := TP.set (x' := B') (y' := T')
                  have TXn := (TX.other (Y := A.heap.size) (i := 0) (v := .int .i64 B') (by omega)).other (Y := A.heap.size) (i := 1) (v := .int .i64 T') (by omega)
                  have hbn := (hbel.setCell (p := ⟨A.heap.size, 0, none⟩) (Nat.le_refl _) (.int .i64 B')).setCell (p := ⟨A.heap.size, 1, none⟩) (Nat.le_refl _) (.int .i64 T')
                  clear hlt3
                  go_wp2_with fail
                  go_roundw
                  case rel => exact ⟨i + 1, true, B', T', by omega, by omega, by go_num, rfl, hbn, TPn, by rw [hB1.out, hT1.out]; exact TXn, HN2, HO2.out⟩
                  case measure => simp [intOf]; omega
            · have HN2 : Hid (pkIn f g lo hi k (n - (i + 1)) (i + 1) (stO fnd' pb' pt') = E) := Lib.hid (by have h := HN.out; rw [if_neg (by omega)] at h; exact h)
              have hdl : decide (lo ≤ T') = false := by simp; omega
              go_wp2_with fail
              go_roundw
              case rel => exact ⟨i + 1, fnd', pb', pt', by omega, by omega, by go_num, rfl, hbel, TP, by rw [hB1.out, hT1.out]; exact TX, HN2, hpi⟩
              case measure => simp [intOf]; omega
          · have HEND : Hid (stO fnd' pb' pt' = E) := Lib.hid (by
              rw [← HII.out]
              refine (pkIn_far _ _ _ fun j h1 h2 => ?_).symm
              have := hOK.out.grow k (i + 1) j (by omega) (by omega)
              have := hT1.out
              omega)
            have hdh : decide (T + y ≤ hi) = false := by simp; omega
            clear hhi
            go_upto_region 10 with fail
            go_quiet (fail)
            go_wp2_with fail
            go_roundw
            case rel => exact ⟨k + 1, fnd', pb', pt', by omega, by go_num, rfl, below_drewN hbel nq, TP.drewN nq, Lib.hid (by rw [HEND.out]; exact HE.out), hpi⟩
            case measure => simp [intOf]; omega
        · have hin2 : i = n := by omega
          subst hin2
          have HEND : Hid (stO fnd' pb' pt' = E) := Lib.hid (by have h := HII.out; rw [Nat.sub_self, pkIn] at h; exact h)
          have hdi : decide ((i : Int) < (i : Int)) = false := by simp
          have hdi2 : decide (i < i) = false := by simp
          clear hi2
          go_upto_region 10 with fail
          go_quiet (fail)
          go_wp2_with fail
          go_roundw
          case rel => exact ⟨k + 1, fnd', pb', pt', by omega, by go_num, rfl, below_drewN hbel nq, TP.drewN nq, Lib.hid (by rw [HEND.out]; exact HE.out), hpi⟩
          case measure => simp [intOf]; omega

end Go.Proofs.Ytcidpggcanjoiaa
