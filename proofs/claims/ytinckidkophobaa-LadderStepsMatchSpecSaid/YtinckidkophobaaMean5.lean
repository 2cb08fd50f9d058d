/- The rate of a row, Mean, and the law's own awake (program). -/
import Derived.Test.YtinckidkophobaaRate5
namespace Go.Proofs.Ytinckidkophobaa
set_option linter.unusedVariables false
set_option linter.unusedSimpArgs false
open Go.RowKit Go.Deep

def rtX (b t s : Int) : Int := if rtF b t s = 0 then rtN b t s else 0
def rtY (b t s : Int) : Int := if rtF b t s = 0 then rtD b t s else 0
theorem rt_tm (b t s : Int) : tmN (8 * b / gcdI (8 * b) t) (t / gcdI (8 * b) t) s = rtN b t s ∧ tmD (t / gcdI (8 * b) t) s = rtD b t s := ⟨rfl, rfl⟩
set_option maxRecDepth 100000 in
set_option maxHeartbeats 4000000 in
theorem rate_any (b t s : Int) (w : World) (b0 : 0 ≤ b) (b1 : b ≤ 500000000000) (t0 : 0 < t) (t1 : t ≤ 500000000000) (s0 : 0 < s) (s1 : s ≤ 1000000000) :
    Calls Try.prog 64 #[.agg #[.int .i64 b, .int .i64 t], .int .i64 s] w fun e w' => e = .returned (.tuple #[.agg #[.int .i64 (rtX b t s), .int .i64 (rtY b t s)], .int .i64 (rtF b t s)]) ∧ Below w.heap.size w w' := by
  have hf := rt_facts b0 t0 s0
  have n0 := hf.n0
  have n1 := hf.n1
  have y0 := hf.t0
  have y1 := hf.t1
  obtain ⟨eN, eD⟩ := rt_tm b t s
  have hL := low_any (8 * b) t
  obtain ⟨x, hx⟩ : ∃ x, 8 * b / gcdI (8 * b) t = x := ⟨_, rfl⟩
  obtain ⟨y, hy⟩ : ∃ y, t / gcdI (8 * b) t = y := ⟨_, rfl⟩
  rw [hx] at n0 n1
  rw [hy] at y0 y1
  rw [hx, hy] at hL eN
  rw [hy] at eD
  have hT := times_any x y s
  rw [eN, eD] at hT
  obtain ⟨RX, hRX⟩ : ∃ RX, rtX b t s = RX := ⟨_, rfl⟩
  obtain ⟨RY, hRY⟩ : ∃ RY, rtY b t s = RY := ⟨_, rfl⟩
  obtain ⟨RF, hRF⟩ : ∃ RF, rtF b t s = RF := ⟨_, rfl⟩
  obtain ⟨TX, hTX⟩ : ∃ TX : Int, (if rtN b t s ≤ 9223372036854775807 then rtN b t s else 0) = TX := ⟨_, rfl⟩
  obtain ⟨TY, hTY⟩ : ∃ TY : Int, (if rtN b t s ≤ 9223372036854775807 then rtD b t s else 0) = TY := ⟨_, rfl⟩
  obtain ⟨TB, hTB⟩ : ∃ TB : Bool, decide (rtN b t s ≤ 9223372036854775807) = TB := ⟨_, rfl⟩
  rw [hTX, hTY, hTB] at hT
  rw [hRX, hRY, hRF]
  have HH : Hid ((TB = true → RX = TX ∧ RY = TY ∧ RF = 0) ∧ (TB = false → RX = 0 ∧ RY = 0 ∧ RF = 1)) := Lib.hid (by
    rw [← hTB, ← hTX, ← hTY, ← hRX, ← hRY, ← hRF]
    constructor
    · intro h
      have h' : rtN b t s ≤ 9223372036854775807 := of_decide_eq_true h
      have e : rtF b t s = 0 := if_pos h'
      simp only [rtX, rtY, e, h', if_true]
      exact ⟨trivial, trivial, trivial⟩
    · intro h
      have h' : ¬ rtN b t s ≤ 9223372036854775807 := of_decide_eq_false h
      have e : rtF b t s = 1 := if_neg h'
      refine ⟨?_, ?_, e⟩
      · rw [rtX, e]; rfl
      · rw [rtY, e]; rfl)
  have HL := Lib.hid hL
  have HT := Lib.hid hT
  have w8 : IntKind.i64.wrap (8 * b) = 8 * b := IntWalk.i64_in _ ⟨by omega, by omega⟩
  clear hf hx hy eN eD hL hT hRX hRY hRF hTX hTY hTB
  go_enter Try.func64, Try.ntmps64
  go_wp2_with fail
  refine (HL.out _ (by omega) (by omega) (by omega) (by omega)).mono ?_; rintro e w1 ⟨rfl, b1⟩
  have hs : ((w.alloc (.cells #[.int .i64 b, .int .i64 t] 94)).alloc (.cells #[.int .i64 0, .int .i64 0] 24)).heap.size = w.heap.size + 2 := by simp
  rw [hs] at b1
  go_wp2_with fail
  refine (HT.out _ (by omega) (by omega) (by omega) (by omega) (by omega) (by omega)).mono ?_; rintro e w2 ⟨rfl, b2⟩
  have h12 := b1.size
  rw [hs] at h12
  have b3 := b1.trans (b2.mono h12)
  have h3 := b3.size
  rw [hs] at h3
  have bW := b3.alloc (o := .cells #[.int .i64 TX, .int .i64 TY] 24) h3
  go_upto_region 2 with fail
  have u0 : (w2.alloc (.cells #[.int .i64 TX, .int .i64 TY] 24)).cell? ⟨w2.heap.size, 0, none⟩ = some (.int .i64 TX) := by rw [World.cell?_alloc_at _ _ _ _ rfl]; rfl
  have u1 : (w2.alloc (.cells #[.int .i64 TX, .int .i64 TY] 24)).cell? ⟨w2.heap.size, 1, none⟩ = some (.int .i64 TY) := by rw [World.cell?_alloc_at _ _ _ _ rfl]; rfl
  have hlt : w2.heap.size < (w2.alloc (.cells #[.int .i64 TX, .int .i64 TY] 24)).heap.size := by simp
  obtain ⟨m0, m1, r0, r1, f0, f1, hb⟩ := two_blocks bW
  clear b1 b2 b3 bW hs h12 h3
  generalize w2.alloc (.cells #[.int .i64 TX, .int .i64 TY] 24) = W at *
  cases TB
  · obtain ⟨rfl, rfl, rfl⟩ := HH.out.2 rfl
    go_wp2_with fail
    refine bodyPost_ret (by simp [results, Try.results64, go_sem, r0, r1]; try rfl) rfl ?_
    exact ⟨rfl, (hb.setCell (p := ⟨w.heap.size + 1, 0, none⟩) (Nat.le_succ _) _).setCell (p := ⟨w.heap.size + 1, 1, none⟩) (Nat.le_succ _) _⟩
  · obtain ⟨rfl, rfl, rfl⟩ := HH.out.1 rfl
    go_wp2_with fail
    refine bodyPost_ret (by simp [results, Try.results64, go_sem, r0, r1]; try rfl) rfl ?_
    exact ⟨rfl, (hb.setCell (p := ⟨w.heap.size + 1, 0, none⟩) (Nat.le_succ _) _).setCell (p := ⟨w.heap.size + 1, 1, none⟩) (Nat.le_succ _) _⟩

/-- What Mean answers. -/
def mnF (F G : List Int) (s : Int) : Int := if segF F G s = 0 then rtF (psum (fun j => F.getD j 0) F.length) (psum (fun j => G.getD j 0) F.length) s else segF F G s
def mnX (F G : List Int) (s : Int) : Int := if mnF F G s = 0 then rtN (psum (fun j => F.getD j 0) F.length) (psum (fun j => G.getD j 0) F.length) s else 0
def mnY (F G : List Int) (s : Int) : Int := if mnF F G s = 0 then rtD (psum (fun j => F.getD j 0) F.length) (psum (fun j => G.getD j 0) F.length) s else 0
theorem ratio_ret {a b c a' b' c' : Int} (h : a = a') (h2 : b = b') (h3 : c = c') : Ending.returned (.tuple #[.agg #[.int .i64 a, .int .i64 b], .int .i64 c]) = .returned (.tuple #[.agg #[.int .i64 a', .int .i64 b'], .int .i64 c']) := by rw [h, h2, h3]
set_option maxRecDepth 100000 in
set_option maxHeartbeats 4000000 in
theorem mean_any (u v : Value) (F G : List Int) (s : Int) (w : World) (hu : Nums w u F) (hv : Nums w v G) :
    Calls Try.prog 40 #[u, v, .int .i64 s] w fun e w' => e = .returned (.tuple #[.agg #[.int .i64 (mnX F G s), .int .i64 (mnY F G s)], .int .i64 (mnF F G s)]) ∧ Below w.heap.size w w' := by
  obtain ⟨RX, hRX⟩ : ∃ RX, mnX F G s = RX := ⟨_, rfl⟩
  obtain ⟨RY, hRY⟩ : ∃ RY, mnY F G s = RY := ⟨_, rfl⟩
  obtain ⟨RF, hRF⟩ : ∃ RF, mnF F G s = RF := ⟨_, rfl⟩
  rw [hRX, hRY, hRF]
  obtain ⟨SF, hSF⟩ : ∃ SF, segF F G s = SF := ⟨_, rfl⟩
  have HSF := Lib.hid hSF
  have HU := Lib.hid hu
  have HV := Lib.hid hv
  have hbw : Below w.heap.size w (w.alloc (.cells #[.int .i64 0, .int .i64 0] 24)) := (Below.refl _ w).alloc (Nat.le_refl _) _
  have HUB := Lib.hid (hu.below hbw (Nat.le_refl _))
  have HVB := Lib.hid (hv.below hbw (Nat.le_refl _))
  by_cases h0 : SF = 0
  · subst h0
    obtain ⟨l0, lg, hok, s0, s1⟩ := segF_zero hSF
    obtain ⟨B, hB⟩ : ∃ B, psum (fun j => F.getD j 0) F.length = B := ⟨_, rfl⟩
    obtain ⟨T, hT⟩ : ∃ T, psum (fun j => G.getD j 0) F.length = T := ⟨_, rfl⟩
    have hs := hok.sz 0 F.length (by omega) (Nat.le_refl _)
    have hg := hok.lg 0 F.length (by omega) (Nat.le_refl _)
    simp only [psum, Int.sub_zero, Nat.sub_zero] at hs hg
    rw [hB] at hs
    rw [hT] at hg
    have HA : Hid (∀ w, Nums w u F → Calls Try.prog 63 #[u] w fun e w' => e = .returned (.int .i64 B) ∧ w = w') := Lib.hid (fun w h => by rw [← hB]; exact sum_any u F w h hok.len hok.size)
    have HA' : Hid (∀ w, Nums w v G → Calls Try.prog 63 #[v] w fun e w' => e = .returned (.int .i64 T) ∧ w = w') := Lib.hid (fun w h => by
      rw [← hT, ← lg]
      exact sum_any v G w h (by rw [lg]; exact hok.len) (fun j hj => by have := hok.long j (by omega); omega))
    have eF : rtF B T s = RF := by rw [← hRF, mnF, hSF, if_pos rfl, hB, hT]
    have eX : rtX B T s = RX := by rw [← hRX, mnX, hRF, ← eF, hB, hT]; rfl
    have eY : rtY B T s = RY := by rw [← hRY, mnY, hRF, ← eF, hB, hT]; rfl
    have hR := rate_any B T s
    rw [eF, eX, eY] at hR
    have HR := Lib.hid hR
    clear hR eF eX eY hRX hRY hRF hSF hB hT hok lg hu hv hbw
    go_enter Try.func40, Try.ntmps40
    go_wp2_with fail
    refine (chkseg_any _ _ F G s _ HUB.out HVB.out).mono ?_; rintro e w' ⟨rfl, rfl⟩
    rw [HSF.out]
    go_wp2_with fail
    refine (HA.out _ HUB.out).mono ?_; rintro e w' ⟨rfl, rfl⟩
    go_wp2_with fail
    refine (HA'.out _ HVB.out).mono ?_; rintro e w' ⟨rfl, rfl⟩
    go_wp2_with fail
    refine (HR.out _ (by omega) (by omega) (by omega) (by omega) (by omega) (by omega)).mono ?_; rintro e w1 ⟨rfl, b1⟩
    rw [show (w.alloc (.cells #[.int .i64 0, .int .i64 0] 24)).heap.size = w.heap.size + 1 by simp] at b1
    obtain ⟨k0, k1, f0, f1, hb⟩ := ratio_cells b1
    go_wp2_with fail
    refine bodyPost_ret (by simp [results, Try.results40, go_sem, k0, k1]; try rfl) rfl ?_
    exact ⟨rfl, (hb.setCell (p := ⟨w.heap.size, 0, none⟩) (Nat.le_refl _) _).setCell (p := ⟨w.heap.size, 1, none⟩) (Nat.le_refl _) _⟩
  · have eF : RF = SF := by rw [← hRF, mnF, hSF, if_neg h0]
    have eX : RX = 0 := by rw [← hRX, mnX, hRF, eF, if_neg h0]
    have eY : RY = 0 := by rw [← hRY, mnY, hRF, eF, if_neg h0]
    subst eF eX eY
    have hb0 : (RF == 0) = false := by simp [h0]
    obtain ⟨k0, k1, f0, f1, hb⟩ := ratio_cells (w := w) (Below.refl _ (w.alloc (.cells #[.int .i64 0, .int .i64 0] 24)))
    clear hRX hRY hRF hSF h0 hu hv hbw
    go_enter Try.func40, Try.ntmps40
    go_wp2_with fail
    refine (chkseg_any _ _ F G s _ HUB.out HVB.out).mono ?_; rintro e w' ⟨rfl, rfl⟩
    rw [HSF.out]
    go_wp2_with fail
    refine bodyPost_ret (by simp [results, Try.results40, go_sem, k0, k1]; try rfl) rfl ?_
    exact ⟨rfl, hb⟩
theorem nums_one {w W : World} {B : Nat} {x : Int} {T : TypeId} (h : Below (w.heap.size + 1) (w.alloc (.cells #[.int .i64 x] T)) W) : Nums W (.slice (some ⟨w.heap.size, 0, none⟩) 1 1) [x] := by
  have hs := h.size
  simp at hs
  refine .inr ⟨w.heap.size, 0, 1, rfl, by simp, by omega, by simp [maxLen], fun j hj => ?_⟩
  have : j = 0 := by simp at hj; omega
  subst this
  rw [h.cell (p := ⟨w.heap.size, 0 + 0, none⟩) (by show w.heap.size < w.heap.size + 1; omega), World.cell?_alloc_at _ _ _ _ (by simp)]
  rfl
theorem awake_plain : mnF [3] [2] 1 = 0 ∧ mnX [3] [2] 1 = 12 ∧ mnY [3] [2] 1 = 1 := by decide
set_option maxRecDepth 100000 in
set_option maxHeartbeats 4000000 in
theorem awake5_any (w : World) : Calls Try.prog 14 #[] w fun e w' => e = .returned (.bool true) ∧ Below w.heap.size w w' := by
  have hm := mean_any (.slice (some ⟨w.heap.size, 0, none⟩) 1 1) (.slice (some ⟨w.heap.size + 1, 0, none⟩) 1 1) [3] [2] 1 ((w.alloc (.cells #[.int .i64 3] 3)).alloc (.cells #[.int .i64 2] 3))
  obtain ⟨e1, e2, e3⟩ := awake_plain
  rw [e1, e2, e3] at hm
  have hs : (w.alloc (.cells #[.int .i64 3] 3)).heap.size = w.heap.size + 1 := by simp
  have HM := Lib.hid (hm (nums_one (B := 0) ((Below.refl _ (w.alloc (.cells #[.int .i64 3] 3))).alloc (by rw [hs]; omega) _)) (by
    have := nums_one (B := 0) (w := w.alloc (.cells #[.int .i64 3] 3)) (x := 2) (T := 3) (Below.refl _ _)
    rwa [hs] at this))
  have hb0 : Below w.heap.size w ((w.alloc (.cells #[.int .i64 3] 3)).alloc (.cells #[.int .i64 2] 3)) := ((Below.refl _ w).alloc (Nat.le_refl _) _).alloc (by simp) _
  clear hm e1 e2 e3
  go_enter Try.func14, Try.ntmps14
  go_wp2_with fail
  refine HM.out.mono ?_; rintro e w1 ⟨rfl, b1⟩
  have b2 := hb0.trans (b1.mono hb0.size)
  have hsz := b2.size
  have b3 := b2.alloc (o := .cells #[.int .i64 12, .int .i64 1] 24) hsz
  have u0 : (w1.alloc (.cells #[.int .i64 12, .int .i64 1] 24)).cell? ⟨w1.heap.size, 0, none⟩ = some (.int .i64 12) := by rw [World.cell?_alloc_at _ _ _ _ rfl]; rfl
  have u1 : (w1.alloc (.cells #[.int .i64 12, .int .i64 1] 24)).cell? ⟨w1.heap.size, 1, none⟩ = some (.int .i64 1) := by rw [World.cell?_alloc_at _ _ _ _ rfl]; rfl
  go_wp2_with fail
  go_ret
  exact ⟨rfl, b3⟩

end Go.Proofs.Ytinckidkophobaa
