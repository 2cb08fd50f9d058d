/- The reference's Mean and Peak. -/
import Derived.Test.YtcidpggcanjoiaaRBits
import Derived.Test.YtcidpggcanjoiaaPeak0
import Derived.Test.YtcidpggcanjoiaaLess5
import Derived.Test.YtcidpggcanjoiaaIntsC
namespace Go.Proofs.Ytcidpggcanjoiaa
set_option linter.unusedVariables false
set_option linter.unusedSimpArgs false
open Go.RowKit Go.Deep

set_option maxRecDepth 100000 in
set_option maxHeartbeats 4000000 in
theorem rmean_any (u v : Value) (F G : List Int) (s : Int) (w : World) (hu : Nums w u F) (hv : Nums w v G) :
    Calls Try.prog 21 #[u, v, .int .i64 s] w fun e w' => e = .returned (.tuple #[.agg #[.int .i64 (mnX F G s), .int .i64 (mnY F G s)], .int .i64 (mnF F G s)]) ∧ Below w.heap.size w w' := by
  obtain ⟨RX, hRX⟩ : ∃ RX, mnX F G s = RX := ⟨_, rfl⟩
  obtain ⟨RY, hRY⟩ : ∃ RY, mnY F G s = RY := ⟨_, rfl⟩
  obtain ⟨RF, hRF⟩ : ∃ RF, mnF F G s = RF := ⟨_, rfl⟩
  rw [hRX, hRY, hRF]
  obtain ⟨SF, hSF⟩ : ∃ SF, segF F G s = SF := ⟨_, rfl⟩
  have HSF := Lib.hid hSF
  have HU := Lib.hid hu
  have HV := Lib.hid hv
  have hbw : Below w.heap.size w (w.alloc (.cells #[.int .i64 0, .int .i64 0] 24)) := (Below.refl _ w).alloc (Nat.le_refl _) _
  have HUB := Lib.hid (hu.below hbw (Nat.le_refl _))
  have HVB := Lib.hid (hv.below hbw (Nat.le_refl _))
  by_cases h0 : SF = 0
  · subst h0
    obtain ⟨l0, lg, hok, s0, s1⟩ := segF_zero hSF
    obtain ⟨B, hB⟩ : ∃ B, psum (fun j => F.getD j 0) F.length = B := ⟨_, rfl⟩
    obtain ⟨T, hT⟩ : ∃ T, psum (fun j => G.getD j 0) F.length = T := ⟨_, rfl⟩
    have hs := hok.sz 0 F.length (by omega) (Nat.le_refl _)
    have hg := hok.lg 0 F.length (by omega) (Nat.le_refl _)
    simp only [psum, Int.sub_zero, Nat.sub_zero] at hs hg
    rw [hB] at hs
    rw [hT] at hg
    have HA : Hid (∀ w, Nums w u F → Calls Try.prog 57 #[u] w fun e w' => e = .returned (.int .i64 B) ∧ w = w') := Lib.hid (fun w h => by rw [← hB]; exact rsum_any u F w h hok.len hok.size)
    have HA' : Hid (∀ w, Nums w v G → Calls Try.prog 57 #[v] w fun e w' => e = .returned (.int .i64 T) ∧ w = w') := Lib.hid (fun w h => by
      rw [← hT, ← lg]
      exact rsum_any v G w h (by rw [lg]; exact hok.len) (fun j hj => by have := hok.long j (by omega); omega))
    have eF : rtF B T s = RF := by rw [← hRF, mnF, hSF, if_pos rfl, hB, hT]
    have eX : rtX B T s = RX := by rw [← hRX, mnX, hRF, ← eF, hB, hT]; rfl
    have eY : rtY B T s = RY := by rw [← hRY, mnY, hRF, ← eF, hB, hT]; rfl
    have hR := rbits_any B T s
    rw [eF, eX, eY] at hR
    have HR := Lib.hid hR
    clear hR eF eX eY hRX hRY hRF hSF hB hT hok lg hu hv hbw
    go_enter Try.func21, Try.ntmps21
    go_wp2_with fail
    refine (rchkseg_any _ _ F G s _ HUB.out HVB.out).mono ?_; rintro e w' ⟨rfl, rfl⟩
    rw [HSF.out]
    go_wp2_with fail
    refine (HA.out _ HUB.out).mono ?_; rintro e w' ⟨rfl, rfl⟩
    go_wp2_with fail
    refine (HA'.out _ HVB.out).mono ?_; rintro e w' ⟨rfl, rfl⟩
    go_wp2_with fail
    refine (HR.out _ (by omega) (by omega) (by omega) (by omega) (by omega) (by omega)).mono ?_; rintro e w1 ⟨rfl, b1⟩
    rw [show (w.alloc (.cells #[.int .i64 0, .int .i64 0] 24)).heap.size = w.heap.size + 1 by simp] at b1
    obtain ⟨k0, k1, f0, f1, hb⟩ := ratio_cells b1
    go_wp2_with fail
    refine bodyPost_ret (by simp [results, Try.results21, go_sem, k0, k1]; try rfl) rfl ?_
    exact ⟨rfl, (hb.setCell (p := ⟨w.heap.size, 0, none⟩) (Nat.le_refl _) _).setCell (p := ⟨w.heap.size, 1, none⟩) (Nat.le_refl _) _⟩
  · have eF : RF = SF := by rw [← hRF, mnF, hSF, if_neg h0]
    have eX : RX = 0 := by rw [← hRX, mnX, hRF, eF, if_neg h0]
    have eY : RY = 0 := by rw [← hRY, mnY, hRF, eF, if_neg h0]
    subst eF eX eY
    have hb0 : (RF == 0) = false := by simp [h0]
    obtain ⟨k0, k1, f0, f1, hb⟩ := ratio_cells (w := w) (Below.refl _ (w.alloc (.cells #[.int .i64 0, .int .i64 0] 24)))
    clear hRX hRY hRF hSF h0 hu hv hbw
    go_enter Try.func21, Try.ntmps21
    go_wp2_with fail
    refine (rchkseg_any _ _ F G s _ HUB.out HVB.out).mono ?_; rintro e w' ⟨rfl, rfl⟩
    rw [HSF.out]
    go_wp2_with fail
    refine bodyPost_ret (by simp [results, Try.results21, go_sem, k0, k1]; try rfl) rfl ?_
    exact ⟨rfl, hb⟩
/-- What has been found so far, as the reference keeps it. -/
def stR (pb pt : Int) : Option (Int × Int) := if pb < 0 then none else some (pb, pt)
theorem stR_step (pb pt lo hi b t : Int) (hb : 0 ≤ b) : pkStep lo hi b t (stR pb pt) = if (lo ≤ t ∧ t ≤ hi) ∧ (pb < 0 ∨ pb * t < b * pt) then stR b t else stR pb pt := by
  unfold pkStep stR
  rw [if_neg (show ¬ b < 0 by omega)]
  by_cases h : pb < 0
  · simp [h, and_assoc]
  · simp [h, and_assoc]
theorem rsub_any (b off i k cap : Nat) (f : Nat → Int) (n : Nat) (w : World) (hik : i ≤ k) (hk : k ≤ n) (hn : n ≤ 500) (hf : ∀ j, j < n → 0 ≤ f j ∧ f j ≤ 1000000000) (hc : ∀ j, j < n → w.cell? ⟨b, off + j, none⟩ = some (.int .i64 (f j))) :
    Calls Try.prog 57 #[.slice (some ⟨b, off + i, none⟩) (k - i) cap] w fun e w' => e = .returned (.int .i64 (psum f k - psum f i)) ∧ w' = w := by
  have h := rsum_walk b (off + i) (k - i) cap (fun j => f (i + j)) w (by omega) (fun j hj => hf (i + j) (by omega)) (fun j hj => by rw [Nat.add_assoc]; exact hc (i + j) (by omega))
  rw [psum_shift, show i + (k - i) = k by omega] at h
  exact h.mono fun e w' ⟨h1, h2⟩ => ⟨h1, h2.symm⟩
set_option maxRecDepth 100000 in
set_option maxHeartbeats 8000000 in
theorem rpeak_walk (b off n cap c off2 cap2 : Nat) (F G : List Int) (s lo hi : Int) (w : World) (hF : F.length = n) (hG : G.length = n) (h0 : 0 < n) (hg : pkG F G s lo hi = 0)
    (hb : b < w.heap.size) (hb2 : c < w.heap.size) (hcap : n ≤ cap) (hcap2 : n ≤ cap2) (hm : cap ≤ maxLen) (hm2 : cap2 ≤ maxLen) (hc : ∀ j, j < n → w.cell? ⟨b, off + j, none⟩ = some (.int .i64 (F.getD j 0))) (hd : ∀ j, j < n → w.cell? ⟨c, off2 + j, none⟩ = some (.int .i64 (G.getD j 0))) :
    Calls Try.prog 22 #[.slice (some ⟨b, off, none⟩) n cap, .slice (some ⟨c, off2, none⟩) n cap2, .int .i64 s, .int .i64 lo, .int .i64 hi] w
      fun e w' => e = .returned (.tuple #[.agg #[.int .i64 (peX F G s lo hi), .int .i64 (peY F G s lo hi)], .bool (peB F G s lo hi), .int .i64 (peF F G s lo hi)]) ∧ Below w.heap.size w w' := by
  obtain ⟨hs, lo0, lo1, hi1⟩ := pkG_zero hg
  obtain ⟨-, -, hok0, s0, s1⟩ := segF_zero hs
  obtain ⟨f, hf⟩ : ∃ f : Nat → Int, (fun j => F.getD j 0) = f := ⟨_, rfl⟩
  obtain ⟨g, hgg⟩ : ∃ g : Nat → Int, (fun j => G.getD j 0) = g := ⟨_, rfl⟩
  rw [hf, hgg, hF] at hok0
  have hOK := Lib.hid hok0
  have hn : n ≤ 500 := hok0.len
  have HNN : Hid (pkR F G lo hi = none → peF F G s lo hi = 0 ∧ peB F G s lo hi = false ∧ peX F G s lo hi = 0 ∧ peY F G s lo hi = 0) := Lib.hid (pe_none hg)
  have HSS : Hid (∀ x y, pkR F G lo hi = some (x, y) → peF F G s lo hi = rtF x y s ∧ peB F G s lo hi = decide (rtF x y s = 0) ∧ peX F G s lo hi = rtX x y s ∧ peY F G s lo hi = rtY x y s) := Lib.hid (fun x y h => pe_some hg h)
  have HRR : Hid (pkR F G lo hi = pkAll f g lo hi n n 0 none) := Lib.hid (by rw [pkR, hf, hgg, hF])
  obtain ⟨RR, hRR⟩ : ∃ RR, pkR F G lo hi = RR := ⟨_, rfl⟩
  rw [hRR] at HNN HSS HRR
  have HC : Hid (∀ j, j < n → w.cell? ⟨b, off + j, none⟩ = some (.int .i64 (f j))) := Lib.hid (fun j hj => by rw [← hf]; exact hc j hj)
  have HD : Hid (∀ j, j < n → w.cell? ⟨c, off2 + j, none⟩ = some (.int .i64 (g j))) := Lib.hid (fun j hj => by rw [← hgg]; exact hd j hj)
  have HU : Hid (Nums w (.slice (some ⟨b, off, none⟩) n cap) F) := Lib.hid (.inr ⟨b, off, cap, by rw [hF], (fun h => by rw [h] at hF; simp at hF; omega), hb, (by unfold maxLen; omega), (fun j hj => hc j (by omega))⟩)
  have HV : Hid (Nums w (.slice (some ⟨c, off2, none⟩) n cap2) G) := Lib.hid (.inr ⟨c, off2, cap2, by rw [hG], (fun h => by rw [h] at hG; simp at hG; omega), hb2, (by unfold maxLen; omega), (fun j hj => hd j (by omega))⟩)
  have HS := Lib.hid hs
  have HLOO := Lib.hid (inB_yes lo0 lo1)
  obtain ⟨PX, hPX⟩ : ∃ PX, peX F G s lo hi = PX := ⟨_, rfl⟩
  obtain ⟨PY, hPY⟩ : ∃ PY, peY F G s lo hi = PY := ⟨_, rfl⟩
  obtain ⟨PB, hPB⟩ : ∃ PB, peB F G s lo hi = PB := ⟨_, rfl⟩
  obtain ⟨PF, hPF⟩ : ∃ PF, peF F G s lo hi = PF := ⟨_, rfl⟩
  rw [hPX, hPY, hPB, hPF] at HNN HSS
  rw [hPX, hPY, hPB, hPF]
  have hdh : decide (1000000000000000 < hi) = false := by simp; omega
  unfold maxLen at hm hm2
  clear hc hd hF hG hg hs hok0 hf hgg hRR hPX hPY hPB hPF
  go_enter Try.func22, Try.ntmps22
  go_wp2_with fail
  have hbw : Below w.heap.size w (w.alloc (.cells #[.int .i64 0, .int .i64 0] 24)) := (Below.refl _ w).alloc (Nat.le_refl _) _
  refine (rchkseg_any _ _ F G s _ (HU.out.below hbw (Nat.le_refl _)) (HV.out.below hbw (Nat.le_refl _))).mono ?_; rintro e w' ⟨rfl, rfl⟩
  rw [HS.out]
  go_wp2_with fail
  refine (rwithin5_any _ _ _ _).mono ?_; rintro e w' ⟨rfl, rfl⟩
  rw [HLOO.out]
  go_wp2_with fail
  have T0 := Two.new w 0 0 24
  have hsA : (w.alloc (.cells #[.int .i64 0, .int .i64 0] 24)).heap.size = w.heap.size + 1 := by simp
  generalize w.alloc (.cells #[.int .i64 0, .int .i64 0] 24) = A at *
  have hAl : w.heap.size < A.heap.size := by omega
  have hbwA := Lib.hid hbw
  clear hsA
  go_loopw [14, 15, 41] (fun v14 v15 v wr => ∃ (k : Nat) (pb pt : Int), k ≤ n ∧ v = .int .i64 k ∧ v14 = .int .i64 pb ∧ v15 = .int .i64 pt ∧ -1 ≤ pb ∧ pb ≤ 500000000000 ∧ 1 ≤ pt ∧ pt ≤ 500000000000 ∧ Below A.heap.size A wr ∧ Hid (pkAll f g lo hi n (n - k) k (stR pb pt) = RR)) (fun _ _ v _ => n - (intOf v).toNat)
  case atStart => exact ⟨0, -1, 1, by omega, rfl, rfl, rfl, by omega, by omega, by omega, by omega, Below.refl _ _, Lib.hid HRR.out.symm⟩
  case round =>
    obtain ⟨k, pb, pt, hk, rfl, rfl, rfl, q0, q1, q2, q3, hbel, HK⟩ := hrel
    by_cases hlt : k < n
    · obtain ⟨E, hE⟩ : ∃ E, pkIn f g lo hi k (n - k) k (stR pb pt) = E := ⟨_, rfl⟩
      have HE : Hid (pkAll f g lo hi n (n - (k + 1)) (k + 1) E = RR) := Lib.hid (by
        have h := HK.out
        rw [show n - k = (n - (k + 1)) + 1 by omega, pkAll, hE] at h
        exact h)
      have HI : Hid (pkIn f g lo hi k (n + 1 - (k + 1)) (k + 1 - 1) (stR pb pt) = E) := Lib.hid (by rw [show n + 1 - (k + 1) = n - k by omega, Nat.add_sub_cancel]; exact hE)
      have hw1 : IntKind.i64.wrap ((k : Int) + 1) = ((k + 1 : Nat) : Int) := by rw [show ((k + 1 : Nat) : Int) = (k : Int) + 1 by omega]; exact IntWalk.i64_in _ ⟨by omega, by omega⟩
      clear hE HK
      go_wp2_with fail
      go_loopw [14, 15, 17] (fun v14 v15 v wi => ∃ (i : Nat) (pb pt : Int), k + 1 ≤ i ∧ i ≤ n + 1 ∧ v = .int .i64 i ∧ v14 = .int .i64 pb ∧ v15 = .int .i64 pt ∧ -1 ≤ pb ∧ pb ≤ 500000000000 ∧ 1 ≤ pt ∧ pt ≤ 500000000000 ∧ Below A.heap.size A wi ∧ Hid (pkIn f g lo hi k (n + 1 - i) (i - 1) (stR pb pt) = E)) (fun _ _ v _ => n + 1 - (intOf v).toNat)
      case atStart => exact ⟨k + 1, pb, pt, Nat.le_refl _, by omega, rfl, rfl, rfl, q0, q1, q2, q3, hbel, HI⟩
      case round =>
        clear q0 q1 q2 q3 HI hbel hw1
        obtain ⟨i, x, y, hki, hin, rfl, rfl, rfl, q0, q1, q2, q3, hbel, HII⟩ := hrel
        have hbw := hbw.trans (hbel.mono (by omega))
        by_cases hi2 : i ≤ n
        · obtain ⟨B, hB⟩ : ∃ B, psum f i - psum f k = B := ⟨_, rfl⟩
          obtain ⟨T, hT⟩ : ∃ T, psum g i - psum g k = T := ⟨_, rfl⟩
          have hBr := hOK.out.sz k i (by omega) hi2
          have hTr := hOK.out.lg k i (by omega) hi2
          rw [hB] at hBr
          rw [hT] at hTr
          have HS1 : Hid (∀ (w2 : World), Below A.heap.size A w2 → Calls Try.prog 57 #[.slice (some ⟨b, off + k, none⟩) (i - k) (cap - k)] w2 fun e w' => e = .returned (.int .i64 B) ∧ w' = w2) := Lib.hid (fun w2 h2 => by
            have h3 := hbwA.out.trans (h2.mono (by omega))
            rw [← hB]
            exact rsub_any b off k i (cap - k) f n w2 (by omega) hi2 hn hOK.out.size (fun j hj => by rw [h3.cell (p := ⟨b, off + j, none⟩) hb]; exact HC.out j hj))
          have HS2 : Hid (∀ (w2 : World), Below A.heap.size A w2 → Calls Try.prog 57 #[.slice (some ⟨c, off2 + k, none⟩) (i - k) (cap2 - k)] w2 fun e w' => e = .returned (.int .i64 T) ∧ w' = w2) := Lib.hid (fun w2 h2 => by
            have h3 := hbwA.out.trans (h2.mono (by omega))
            rw [← hT]
            exact rsub_any c off2 k i (cap2 - k) g n w2 (by omega) hi2 hn (fun j hj => by have := hOK.out.long j hj; omega) (fun j hj => by rw [h3.cell (p := ⟨c, off2 + j, none⟩) hb2]; exact HD.out j hj))
          have hN : pkIn f g lo hi k (n + 1 - (i + 1)) (i + 1 - 1) (pkStep lo hi B T (stR x y)) = E := by
            have h := HII.out
            rw [show n + 1 - i = (n - i) + 1 by omega, pkIn, show i - 1 + 1 = i by omega, hB, hT] at h
            rw [show n + 1 - (i + 1) = n - i by omega, Nat.add_sub_cancel]
            exact h
          rw [stR_step x y lo hi B T hBr.1] at hN
          have HN := Lib.hid hN
          have i1 : (0 : Int) ≤ (k : Int) := by omega
          have i2 : (k : Int) ≤ (i : Int) := by omega
          have i3 : (i : Int) ≤ (cap : Int) := by omega
          have i4 : (i : Int) ≤ (cap2 : Int) := by omega
          have hwI : IntKind.i64.wrap ((i : Int) + 1) = ((i + 1 : Nat) : Int) := by rw [show ((i + 1 : Nat) : Int) = (i : Int) + 1 by omega]; exact IntWalk.i64_in _ ⟨by omega, by omega⟩
          clear hB hT hN HII
          go_upto_region 13 with fail
          go_quiet ((first | (go_at_call_of 57 (off + k); exact Calls.quiet_of_same (HS1.out _ (below_drewN hbel _))) | (go_at_call_of 57 (off2 + k); exact Calls.quiet_of_same (HS2.out _ (below_drewN hbel _)))))
          have hbel := below_drewN hbel nq
          generalize wr.drewN nq = W at *
          clear HS1 HS2 i1 i2 i3 i4
          obtain ⟨p, hp⟩ : ∃ p, inB T lo hi = p := ⟨_, rfl⟩
          have HP := Lib.hid hp
          cases p
          · have HN2 : Hid (pkIn f g lo hi k (n + 1 - (i + 1)) (i + 1 - 1) (stR x y) = E) := Lib.hid (by
              have h := HN.out
              rw [if_neg (fun h => by have := inB_iff.2 h.1; rw [hp] at this; cases this)] at h
              exact h)
            clear hp
            go_wp2_with fail
            refine (rwithin5_any _ _ _ _).mono ?_; rintro e w' ⟨rfl, rfl⟩
            rw [HP.out]
            go_wp2_with fail
            go_roundw
            case rel => exact ⟨i + 1, x, y, by omega, by omega, by go_num, rfl, rfl, q0, q1, q2, q3, hbel, HN2⟩
            case measure => simp [intOf]; omega
          · have hin := inB_iff.1 hp
            clear hp
            by_cases hx : x < 0
            · have HN2 : Hid (pkIn f g lo hi k (n + 1 - (i + 1)) (i + 1 - 1) (stR B T) = E) := Lib.hid (by have h := HN.out; rw [if_pos ⟨hin, .inl hx⟩] at h; exact h)
              go_wp2_with fail
              refine (rwithin5_any _ _ _ _).mono ?_; rintro e w' ⟨rfl, rfl⟩
              rw [HP.out]
              go_wp2_with fail
              go_roundw
              case rel => exact ⟨i + 1, B, T, by omega, by omega, by go_num, rfl, rfl, by omega, by omega, by omega, by omega, hbel, HN2⟩
              case measure => simp [intOf]; omega
            · have hdx : decide (x < 0) = false := by simp; omega
              obtain ⟨r, hr⟩ : ∃ r, decide (x * T < B * y) = r := ⟨_, rfl⟩
              have HR := Lib.hid hr
              have hla := less_any x y B T W (by omega) (by omega) (by omega) (by omega) (by omega) (by omega) (by omega) (by omega)
              rw [hr] at hla
              have HLA := Lib.hid hla
              clear hr hla
              cases r
              · have HN2 : Hid (pkIn f g lo hi k (n + 1 - (i + 1)) (i + 1 - 1) (stR x y) = E) := Lib.hid (by
                  have h := HN.out
                  rw [if_neg (by rintro ⟨-, h | h⟩; omega; exact absurd h (of_decide_eq_false HR.out))] at h
                  exact h)
                clear hx
                go_wp2_with fail
                refine (rwithin5_any _ _ _ _).mono ?_; rintro e w' ⟨rfl, rfl⟩
                rw [HP.out]
                go_wp2_with fail
                refine HLA.out.mono ?_; rintro e w6 ⟨rfl, b6⟩
                have hbel := hbel.trans (b6.mono hbel.size)
                go_wp2_with fail
                go_roundw
                case rel => exact ⟨i + 1, x, y, by omega, by omega, by go_num, rfl, rfl, q0, q1, q2, q3, hbel, HN2⟩
                case measure => simp [intOf]; omega
              · have HN2 : Hid (pkIn f g lo hi k (n + 1 - (i + 1)) (i + 1 - 1) (stR B T) = E) := Lib.hid (by have h := HN.out; rw [if_pos ⟨hin, .inr (of_decide_eq_true HR.out)⟩] at h; exact h)
                clear hx
                go_wp2_with fail
                refine (rwithin5_any _ _ _ _).mono ?_; rintro e w' ⟨rfl, rfl⟩
                rw [HP.out]
                go_wp2_with fail
                refine HLA.out.mono ?_; rintro e w6 ⟨rfl, b6⟩
                have hbel := hbel.trans (b6.mono hbel.size)
                go_wp2_with fail
                go_roundw
                case rel => exact ⟨i + 1, B, T, by omega, by omega, by go_num, rfl, rfl, by omega, by omega, by omega, by omega, hbel, HN2⟩
                case measure => simp [intOf]; omega
        · have hin2 : i = n + 1 := by omega
          subst hin2
          have HEND : Hid (stR x y = E) := Lib.hid (by have h := HII.out; rw [Nat.sub_self, pkIn] at h; exact h)
          have hdi : decide (((n + 1 : Nat) : Int) ≤ (n : Int)) = false := by simp; omega
          have hdi2 : decide (n + 1 ≤ n) = false := by simp
          clear hi2 HII
          go_wp2_with fail
          go_roundw
          case rel => exact ⟨k + 1, x, y, by omega, by go_num, rfl, rfl, q0, q1, q2, q3, hbel, Lib.hid (by rw [HEND.out]; exact HE.out)⟩
          case measure => simp [intOf]; omega
    · have hkn : k = n := by omega
      subst hkn
      have hRR : stR pb pt = RR := by have h := HK.out; rw [Nat.sub_self, pkAll] at h; exact h
      have TR := T0.below hbel hAl
      have r0 := TR.c0
      have r1 := TR.c1
      have rf0 := TR.f0
      have rf1 := TR.f1
      have rl := TR.lt
      have hbw := hbw.trans (hbel.mono (by omega))
      have hdk : decide (k < k) = false := by simp
      clear hlt
      by_cases hx : pb < 0
      · obtain ⟨rfl, rfl, rfl, rfl⟩ := HNN.out (by rw [← hRR, stR, if_pos hx])
        clear hRR
        go_wp2_with fail
        refine bodyPost_ret (by simp [results, Try.results22, go_sem, r0, r1]; try rfl) rfl ?_
        exact ⟨rfl, (hbw.setCell (p := ⟨w.heap.size, 0, none⟩) (Nat.le_refl _) _).setCell (p := ⟨w.heap.size, 1, none⟩) (Nat.le_refl _) _⟩
      · obtain ⟨e1, e2, e3, e4⟩ := HSS.out pb pt (by rw [← hRR, stR, if_neg hx])
        have hra := rbits_any pb pt s wr (by omega) (by omega) (by omega) (by omega) (by omega) (by omega)
        rw [← e1, ← e3, ← e4] at hra
        rw [← e1] at e2
        have HRA := Lib.hid hra
        have HPB := Lib.hid e2
        have hdx : decide (pb < 0) = false := by simp; omega
        clear e1 e2 e3 e4 hra hRR hx
        go_wp2_with fail
        refine HRA.out.mono ?_; rintro e w6 ⟨rfl, b6⟩
        have TR := TR.below b6 rl
        have hb6 := hbw.trans (b6.mono hbw.size)
        have TR2 := TR.alloc (.cells #[.int .i64 PX, .int .i64 PY] 24)
        have hb7 := hb6.alloc (o := .cells #[.int .i64 PX, .int .i64 PY] 24) hb6.size
        have TN := Two.new w6 PX PY 24
        have nl := TN.lt
        go_upto_region 20 with fail
        generalize w6.alloc (.cells #[.int .i64 PX, .int .i64 PY] 24) = W7 at *
        have r0 := TR2.c0
        have r1 := TR2.c1
        have rf0 := TR2.f0
        have rf1 := TR2.f1
        have rl := TR2.lt
        have n0 := TN.c0
        have n1 := TN.c1
        go_wp2_with fail
        refine bodyPost_ret (by simp [results, Try.results22, go_sem, r0, r1]; try rfl) rfl ?_
        refine ⟨?_, (hb7.setCell (p := ⟨w.heap.size, 0, none⟩) (Nat.le_refl _) _).setCell (p := ⟨w.heap.size, 1, none⟩) (Nat.le_refl _) _⟩
        rw [HPB.out, ← beq_dec]
theorem pk_seg {F G : List Int} {s lo hi : Int} (h : segF F G s ≠ 0) : pkG F G s lo hi = segF F G s := by rw [pkG, fstF, if_neg h]
theorem pk_rng {F G : List Int} {s lo hi : Int} (h : segF F G s = 0) (h2 : pkG F G s lo hi ≠ 0) : pkG F G s lo hi = 1 ∧ (inB lo 1 hi = false ∨ (inB lo 1 hi = true ∧ decide (1000000000000000 < hi) = true)) := by
  rw [pkG, fstF, if_pos h] at h2 ⊢
  cases h3 : inB lo 1 hi
  · exact ⟨rfl, .inl rfl⟩
  · rw [h3] at h2
    cases h4 : decide (1000000000000000 < hi)
    · rw [h4] at h2; exact absurd rfl h2
    · exact ⟨rfl, .inr ⟨rfl, rfl⟩⟩
set_option maxRecDepth 100000 in
set_option maxHeartbeats 4000000 in
theorem rpeak_fault (u v : Value) (F G : List Int) (s lo hi : Int) (w : World) (hu : Nums w u F) (hv : Nums w v G) (hg : pkG F G s lo hi ≠ 0) :
    Calls Try.prog 22 #[u, v, .int .i64 s, .int .i64 lo, .int .i64 hi] w
      fun e w' => e = .returned (.tuple #[.agg #[.int .i64 (peX F G s lo hi), .int .i64 (peY F G s lo hi)], .bool (peB F G s lo hi), .int .i64 (peF F G s lo hi)]) ∧ Below w.heap.size w w' := by
  obtain ⟨e1, e2, e3, e4⟩ := pe_fault hg
  rw [e1, e2, e3, e4]
  have hbw : Below w.heap.size w (w.alloc (.cells #[.int .i64 0, .int .i64 0] 24)) := (Below.refl _ w).alloc (Nat.le_refl _) _
  have HU := Lib.hid (hu.below hbw (Nat.le_refl _))
  have HV := Lib.hid (hv.below hbw (Nat.le_refl _))
  have HT := Lib.hid (Two.new w 0 0 24)
  have HB := Lib.hid hbw
  by_cases hs : segF F G s = 0
  · obtain ⟨h1, h2⟩ := pk_rng hs hg
    rw [h1]
    have HS := Lib.hid hs
    rcases h2 with h2 | ⟨h2, h3⟩
    · have H2 := Lib.hid h2
      clear e1 e2 e3 e4 hg hs hu hv h1 h2 hbw
      go_enter Try.func22, Try.ntmps22
      go_wp2_with fail
      refine (rchkseg_any _ _ F G s _ HU.out HV.out).mono ?_; rintro e w' ⟨rfl, rfl⟩
      rw [HS.out]
      go_wp2_with fail
      refine (rwithin5_any _ _ _ _).mono ?_; rintro e w' ⟨rfl, rfl⟩
      rw [H2.out]
      have T := HT.out
      have B := HB.out
      generalize w.alloc (.cells #[.int .i64 0, .int .i64 0] 24) = A at *
      have r0 := T.c0; have r1 := T.c1; have f0 := T.f0; have f1 := T.f1; have rl := T.lt
      go_wp2_with fail
      refine bodyPost_ret (by simp [results, Try.results22, go_sem, r0, r1]; try rfl) rfl ?_
      exact ⟨rfl, (B.setCell (p := ⟨w.heap.size, 0, none⟩) (Nat.le_refl _) _).setCell (p := ⟨w.heap.size, 1, none⟩) (Nat.le_refl _) _⟩
    · have H2 := Lib.hid h2
      clear e1 e2 e3 e4 hg hs hu hv h1 h2 hbw
      go_enter Try.func22, Try.ntmps22
      go_wp2_with fail
      refine (rchkseg_any _ _ F G s _ HU.out HV.out).mono ?_; rintro e w' ⟨rfl, rfl⟩
      rw [HS.out]
      go_wp2_with fail
      refine (rwithin5_any _ _ _ _).mono ?_; rintro e w' ⟨rfl, rfl⟩
      rw [H2.out]
      have T := HT.out
      have B := HB.out
      generalize w.alloc (.cells #[.int .i64 0, .int .i64 0] 24) = A at *
      have r0 := T.c0; have r1 := T.c1; have f0 := T.f0; have f1 := T.f1; have rl := T.lt
      go_wp2_with fail
      refine bodyPost_ret (by simp [results, Try.results22, go_sem, r0, r1]; try rfl) rfl ?_
      exact ⟨rfl, (B.setCell (p := ⟨w.heap.size, 0, none⟩) (Nat.le_refl _) _).setCell (p := ⟨w.heap.size, 1, none⟩) (Nat.le_refl _) _⟩
  · rw [pk_seg hs]
    obtain ⟨R, hR⟩ : ∃ R, segF F G s = R := ⟨_, rfl⟩
    rw [hR] at hs ⊢
    have HS := Lib.hid hR
    have hb0 : (R == 0) = false := by simp [hs]
    clear e1 e2 e3 e4 hg hs hu hv hR hbw
    go_enter Try.func22, Try.ntmps22
    go_wp2_with fail
    refine (rchkseg_any _ _ F G s _ HU.out HV.out).mono ?_; rintro e w' ⟨rfl, rfl⟩
    rw [HS.out]
    have T := HT.out
    have B := HB.out
    generalize w.alloc (.cells #[.int .i64 0, .int .i64 0] 24) = A at *
    have r0 := T.c0; have r1 := T.c1; have f0 := T.f0; have f1 := T.f1; have rl := T.lt
    go_wp2_with fail
    refine bodyPost_ret (by simp [results, Try.results22, go_sem, r0, r1]; try rfl) rfl ?_
    exact ⟨rfl, (B.setCell (p := ⟨w.heap.size, 0, none⟩) (Nat.le_refl _) _).setCell (p := ⟨w.heap.size, 1, none⟩) (Nat.le_refl _) _⟩
theorem rpeak_any (u v : Value) (F G : List Int) (s lo hi : Int) (w : World) (hu : NumsC w u F) (hv : NumsC w v G) :
    Calls Try.prog 22 #[u, v, .int .i64 s, .int .i64 lo, .int .i64 hi] w
      fun e w' => e = .returned (.tuple #[.agg #[.int .i64 (peX F G s lo hi), .int .i64 (peY F G s lo hi)], .bool (peB F G s lo hi), .int .i64 (peF F G s lo hi)]) ∧ Below w.heap.size w w' := by
  by_cases hg : pkG F G s lo hi = 0
  · obtain ⟨hs, -⟩ := pkG_zero hg
    obtain ⟨l0, lg, -⟩ := segF_zero hs
    rcases hu with ⟨a, c, rfl, rfl⟩ | ⟨b, o, c, rfl, hne, hb, hl, hm, hc⟩
    · simp at l0
    · rcases hv with ⟨a', c', rfl, rfl⟩ | ⟨b', o', c', rfl, hne', hb', hl', hm', hc'⟩
      · simp at lg; omega
      · rw [lg] at hc' hl' ⊢
        exact rpeak_walk b o F.length c b' o' c' F G s lo hi w rfl lg l0 hg hb hb' hl hl' hm hm' hc hc'
  · exact rpeak_fault u v F G s lo hi w hu.nums hv.nums hg

end Go.Proofs.Ytcidpggcanjoiaa
