/- LadderHullsAreSensible: whatever the input, the law returns true: the walk. -/
import Derived.Test.YtfjgpafcdkodmaaHullPlain2
import Derived.Test.YtfjgpafcdkodmaaMean5
namespace Go.Proofs.Ytfjgpafcdkodmaa
set_option linter.unusedVariables false
set_option linter.unusedSimpArgs false
open Go.RowKit Go.Shelf Go.Deep

/-- The line from the second to the third one is at least as steep as that from the first to the second one. -/
def riseB (r lo hi : Rung) : Bool := decide ((lo.qu - r.qu) * (hi.ra - lo.ra) ≤ (hi.qu - lo.qu) * (lo.ra - r.ra))
theorem rise_flat {a b c : Rung} (h : aboveB b a c = true) : riseB a b c = false := above_rises h
set_option maxRecDepth 100000 in
set_option maxHeartbeats 4000000 in
theorem rises_any (r lo hi : Rung) (w : World) (hr : OkR r) (hl : OkR lo) (hh : OkR hi) :
    Calls Try.prog 31 #[.agg #[.string r.nm, .int .i64 r.ra, .int .i64 r.he, .int .i64 r.qu], .agg #[.string lo.nm, .int .i64 lo.ra, .int .i64 lo.he, .int .i64 lo.qu], .agg #[.string hi.nm, .int .i64 hi.ra, .int .i64 hi.he, .int .i64 hi.qu]] w fun e w' => e = .returned (.bool (riseB r lo hi)) ∧ Below w.heap.size w w' := by
  obtain ⟨-, ⟨ra0, ra1⟩, -, ⟨rq0, rq1⟩⟩ := hr
  obtain ⟨-, ⟨la0, la1⟩, -, ⟨lq0, lq1⟩⟩ := hl
  obtain ⟨-, ⟨ha0, ha1⟩, -, ⟨hq0, hq1⟩⟩ := hh
  obtain ⟨M1, hM1⟩ : ∃ M1, (hi.qu - lo.qu) * (lo.ra - r.ra) = M1 := ⟨_, rfl⟩
  obtain ⟨M2, hM2⟩ : ∃ M2, (lo.qu - r.qu) * (hi.ra - lo.ra) = M2 := ⟨_, rfl⟩
  have b1 := mul_bd (x := hi.qu - lo.qu) (y := lo.ra - r.ra) (by omega) (by omega) (by omega) (by omega)
  have b2 := mul_bd (x := lo.qu - r.qu) (y := hi.ra - lo.ra) (by omega) (by omega) (by omega) (by omega)
  rw [hM1] at b1
  rw [hM2] at b2
  obtain ⟨m0, m1⟩ := b1
  obtain ⟨m2, m3⟩ := b2
  have w1 : IntKind.i64.wrap ((hi.qu - lo.qu) * (lo.ra - r.ra)) = M1 := by rw [hM1]; exact IntWalk.i64_in _ ⟨by omega, by omega⟩
  have w2 : IntKind.i64.wrap ((lo.qu - r.qu) * (hi.ra - lo.ra)) = M2 := by rw [hM2]; exact IntWalk.i64_in _ ⟨by omega, by omega⟩
  have HA : Hid (decide (M2 ≤ M1) = riseB r lo hi) := Lib.hid (by rw [← hM1, ← hM2]; rfl)
  obtain ⟨R, hR⟩ : ∃ R, riseB r lo hi = R := ⟨_, rfl⟩
  rw [hR] at HA ⊢
  have A0 := ((Four.new w r 37).alloc (.cells #[.string lo.nm, .int .i64 lo.ra, .int .i64 lo.he, .int .i64 lo.qu] 37)).alloc (.cells #[.string hi.nm, .int .i64 hi.ra, .int .i64 hi.he, .int .i64 hi.qu] 37)
  have B0 := (Four.new (w.alloc (.cells #[.string r.nm, .int .i64 r.ra, .int .i64 r.he, .int .i64 r.qu] 37)) lo 37).alloc (.cells #[.string hi.nm, .int .i64 hi.ra, .int .i64 hi.he, .int .i64 hi.qu] 37)
  have C0 := Four.new ((w.alloc (.cells #[.string r.nm, .int .i64 r.ra, .int .i64 r.he, .int .i64 r.qu] 37)).alloc (.cells #[.string lo.nm, .int .i64 lo.ra, .int .i64 lo.he, .int .i64 lo.qu] 37)) hi 37
  have hb : Below w.heap.size w (((w.alloc (.cells #[.string r.nm, .int .i64 r.ra, .int .i64 r.he, .int .i64 r.qu] 37)).alloc (.cells #[.string lo.nm, .int .i64 lo.ra, .int .i64 lo.he, .int .i64 lo.qu] 37)).alloc (.cells #[.string hi.nm, .int .i64 hi.ra, .int .i64 hi.he, .int .i64 hi.qu] 37)) := (((Below.refl _ w).alloc (Nat.le_refl _) _).alloc (by simp) _).alloc (by simp; omega) _
  have hs : (w.alloc (.cells #[.string r.nm, .int .i64 r.ra, .int .i64 r.he, .int .i64 r.qu] 37)).heap.size = w.heap.size + 1 := by simp
  have hs2 : ((w.alloc (.cells #[.string r.nm, .int .i64 r.ra, .int .i64 r.he, .int .i64 r.qu] 37)).alloc (.cells #[.string lo.nm, .int .i64 lo.ra, .int .i64 lo.he, .int .i64 lo.qu] 37)).heap.size = w.heap.size + 2 := by simp
  rw [hs] at B0
  rw [hs2] at C0
  clear hR hM1 hM2
  go_enter Try.func31, Try.ntmps31
  go_upto_region 1 with fail
  clear hs hs2
  generalize ((w.alloc (.cells #[.string r.nm, .int .i64 r.ra, .int .i64 r.he, .int .i64 r.qu] 37)).alloc (.cells #[.string lo.nm, .int .i64 lo.ra, .int .i64 lo.he, .int .i64 lo.qu] 37)).alloc (.cells #[.string hi.nm, .int .i64 hi.ra, .int .i64 hi.he, .int .i64 hi.qu] 37) = W at *
  have x1 := A0.c1; have x3 := A0.c3; have y1 := B0.c1; have y3 := B0.c3; have z1 := C0.c1; have z3 := C0.c3
  clear A0 B0 C0
  go_wp2_with fail
  go_ret
  exact ⟨bret_bool HA.out, hb⟩

set_option maxRecDepth 100000 in
set_option maxHeartbeats 16000000 in
theorem hulls_walk (b off n cap : Nat) (rs : List Rung) (w : World) (hz : rs.length = n) (hn0 : 0 < n) (hlt : b < w.heap.size) (hS : Rungs w (.slice (some ⟨b, off, none⟩) n cap) rs) (hwf : ∀ y ∈ rs, y.nm.size ≤ maxLen) (h0 : rgF rs = 0) :
    Calls Try.prog 6 #[.slice (some ⟨b, off, none⟩) n cap] w fun e w' => e = .returned (.bool true) ∧ Below w.heap.size w w' := by
  have hok := (rgF_zero rs).1 h0
  have hn : n ≤ 100 := by rw [← hz]; exact hok.len
  have HH := Lib.hid (Hull_any _ rs w hS hwf)
  have HSE : Hid (∀ W, Below w.heap.size w W → Calls Try.prog 23 #[.slice (some ⟨b, off, none⟩) n cap] W fun e w' => (∃ v, e = .returned (.tuple #[v, .int .i64 (rgF rs)]) ∧ NumsC w' v (senL rs)) ∧ Below W.heap.size W w') := Lib.hid (fun W hb => sensible_any _ rs W (hS.below hb (Nat.le_refl _)) hwf)
  have hat := hull_at hok
  rw [hullL, if_pos h0, h0] at HH
  rw [senL, if_pos h0, h0] at HSE
  have HIA := Lib.hid (hI_at rs)
  obtain ⟨m, hm⟩ : ∃ m, (hullTo rs rs.length).length = m := ⟨_, rfl⟩
  rw [hm] at hat HIA
  rw [hz] at hat HSE
  have hcl : (cornI (hullTo rs rs.length)).length = m := by rw [cornI_len, hm]
  obtain ⟨H, hH⟩ : ∃ H, cornI (hullTo rs rs.length) = H := ⟨_, rfl⟩
  obtain ⟨SL, hSL⟩ : ∃ SL, pickI (senB rs) rs n = SL := ⟨_, rfl⟩
  rw [hH] at HH HIA hcl
  rw [hSL] at HSE
  have HAT := Lib.hid hat
  have hsen : ∀ i, i < m → SL.contains (hI rs i : Int) = true := by rw [← hSL]; exact hat.sen
  have hsll : SL.length ≤ 100 := by rw [← hSL]; have := pickI_len (senB rs) rs n; omega
  have hsl0 : 0 < SL.length := by
    have h1 := hsen 0 (hat.some hn0)
    cases SL with
    | nil => simp at h1
    | cons x l => simp
  have HSEN := Lib.hid hsen
  have hm0 := hat.some hn0
  have hmn : m ≤ 100 := by
    have h1 : (hullTo rs rs.length).length ≤ rs.length := by
      have : ∀ k, (hullTo rs k).length ≤ k := by
        intro k
        induction k with
        | zero => simp [hullTo]
        | succ k ih =>
          rw [hullTo_step rfl rfl]
          split
          · omega
          · have := popTo_len rs (rs.getD k rung0) (hullTo rs k); rw [List.length_cons]; omega
      exact this _
    omega
  have HC := Lib.hid (fun j (hj : j < n) => hS.cells j (by omega))
  have HOK : Hid (∀ j, j < n → OkR (rs.getD j rung0)) := Lib.hid (fun j hj => hok.ok j (by omega))
  have HCL := Lib.hid hcl
  have hSLl : SL.length = SL.length := rfl
  clear hS hok hz h0 hwf hat hm hH hSL hsen hcl
  go_enter Try.func6, Try.ntmps6
  go_wp2_with fail
  refine HH.out.mono ?_; rintro e w1 ⟨⟨u1, rfl, n1⟩, b1⟩
  rcases n1 with ⟨_, _, _, hx⟩ | ⟨g, o, cp, rfl, hne, hg, hl, hcm, hcc⟩
  · have := HCL.out; rw [hx] at this; simp at this; omega
  · rw [HCL.out] at hl hcc ⊢
    have HCC := Lib.hid hcc
    clear hcc hne
    go_wp2_with fail
    refine (HSE.out _ b1).mono ?_; rintro e w2 ⟨⟨u2, rfl, n2⟩, b2⟩
    rcases n2 with ⟨_, _, _, hx⟩ | ⟨g2, o2, cp2, rfl, hne2, hg2, hl2, hcm2, hcc2⟩
    · rw [hx] at hsl0; simp at hsl0
    · obtain ⟨sl, hsl⟩ : ∃ sl, SL.length = sl := ⟨_, rfl⟩
      rw [hsl] at hl2 hsll hsl0 hcc2 ⊢
      have HCC2 := Lib.hid hcc2
      have HSL := Lib.hid hsl
      have bb := b1.trans (b2.mono b1.size)
      have hg2' : g < w2.heap.size := Nat.lt_of_lt_of_le hg b2.size
      have HG : Hid (∀ j, j < m → w2.cell? ⟨g, o + j, none⟩ = some (.int .i64 (hI rs j : Int))) := Lib.hid (fun j hj => by rw [b2.cell (p := ⟨g, o + j, none⟩) hg, ← HIA.out j hj]; exact HCC.out j hj)
      clear hcc2 hne2 hsl b2
      go_wp2_with fail
      refine (awake5_any _).mono ?_; rintro e w3 ⟨rfl, b3⟩
      have hbel := bb.trans (b3.mono bb.size)
      have HG3 : Hid (∀ j, j < m → w3.cell? ⟨g, o + j, none⟩ = some (.int .i64 (hI rs j : Int))) := Lib.hid (fun j hj => by rw [b3.cell (p := ⟨g, o + j, none⟩) hg2']; exact HG.out j hj)
      have HS3 : Hid (∀ j, j < SL.length → w3.cell? ⟨g2, o2 + j, none⟩ = some (.int .i64 (SL.getD j 0))) := Lib.hid (fun j hj => by rw [b3.cell (p := ⟨g2, o2 + j, none⟩) hg2]; exact HCC2.out j (by rw [← HSL.out]; exact hj))
      have hg3 : g < w3.heap.size := Nat.lt_of_lt_of_le hg2' b3.size
      have hg23 : g2 < w3.heap.size := Nat.lt_of_lt_of_le hg2 b3.size
      have hlt3 : b < w3.heap.size := Nat.lt_of_lt_of_le hlt hbel.size
      have HC3 : Hid (∀ j, j < n → w3.cell? ⟨b, off + j * 4, none⟩ = some (.string (rs.getD j rung0).nm) ∧ w3.cell? ⟨b, off + j * 4 + 1, none⟩ = some (.int .i64 (rs.getD j rung0).ra) ∧ w3.cell? ⟨b, off + j * 4 + 2, none⟩ = some (.int .i64 (rs.getD j rung0).he) ∧ w3.cell? ⟨b, off + j * 4 + 3, none⟩ = some (.int .i64 (rs.getD j rung0).qu)) := Lib.hid (fun j hj => by
        rw [hbel.cell (p := ⟨b, off + j * 4, none⟩) hlt, hbel.cell (p := ⟨b, off + j * 4 + 1, none⟩) hlt, hbel.cell (p := ⟨b, off + j * 4 + 2, none⟩) hlt, hbel.cell (p := ⟨b, off + j * 4 + 3, none⟩) hlt]
        exact HC.out j hj)
      clear HCC HCC2 HG b1 b3 bb hg hg2 hg2' HH HSE
      go_wp2_with fail
      go_loopw [33] (fun v wr => ∃ k : Nat, k ≤ m ∧ v = .int .i64 k ∧ Below w3.heap.size w3 wr) (fun v _ => m - (intOf v).toNat)
      case atStart => exact ⟨0, by omega, rfl, Below.refl _ _⟩
      case round =>
        obtain ⟨k, hk, rfl, hb4⟩ := hrel
        by_cases hlt2 : k < m
        rotate_left
        · have hkm : k = m := by omega
          have hlt' : decide (k < m) = false := by simp; omega
          have g1 : 0 < m := hm0
          have g2 : decide ((0 : Int) < (m : Int)) = true := by simp; omega
          clear hlt2 hkm
          go_wp2_with fail
          go_ret
          exact ⟨rfl, hbel.trans (hb4.mono hbel.size)⟩
        · obtain ⟨c, hc⟩ : ∃ c, hI rs k = c := ⟨_, rfl⟩
          have e0 := HG3.out k hlt2
          have hcn := HAT.out.lt k hlt2
          have hct := HSEN.out k hlt2
          have hup := HAT.out.up k
          have hfl := HAT.out.flat k
          rw [hc] at e0 hcn hct hup hfl
          rw [← hb4.cell (p := ⟨g, o + k, none⟩) hg3] at e0
          have HCT : Hid (∀ W, Below w3.heap.size w3 W → Calls Try.prog 30 #[.slice (some ⟨g2, o2, none⟩) sl cp2, .int .i64 (c : Int)] W fun e w' => e = .returned (.bool true) ∧ W = w') := Lib.hid (fun W hW => by
            have h5 := Try.slices_Contains_int g2 o2 sl cp2 SL (c : Int) W (by rw [HSL.out]; exact Nat.le_refl _) (by omega) (fun j hj => by rw [hW.cell (p := ⟨g2, o2 + j, none⟩) hg23]; exact HS3.out j hj)
            rw [← HSL.out, List.take_length, hct, HSL.out] at h5
            exact h5.mono (fun e w' ⟨h1, h2⟩ => ⟨h1, h2.symm⟩))
          have HUP := Lib.hid hup
          have HFL := Lib.hid hfl
          have i0' : (0 : Int) ≤ (c : Int) := by omega
          have i1' : (c : Int) < (n : Int) := by omega
          have hkI : IntKind.i64.wrap ((k : Int) + 1) = (k : Int) + 1 := IntWalk.i64_in _ ⟨by omega, by omega⟩
          have HCE := Lib.hid hc
          obtain ⟨rc, hrc⟩ : ∃ rc, rs.getD c rung0 = rc := ⟨_, rfl⟩
          obtain ⟨x0, x1, x2, x3⟩ := HC3.out c hcn
          have okc := HOK.out c hcn
          rw [hrc] at x0 x1 x2 x3 HUP HFL okc
          rw [← hb4.cell (p := ⟨b, off + c * 4, none⟩) hlt3] at x0
          rw [← hb4.cell (p := ⟨b, off + c * 4 + 1, none⟩) hlt3] at x1
          rw [← hb4.cell (p := ⟨b, off + c * 4 + 2, none⟩) hlt3] at x2
          rw [← hb4.cell (p := ⟨b, off + c * 4 + 3, none⟩) hlt3] at x3
          have OKC := Lib.hid okc
          clear hct hup hfl hc hrc okc
          go_wp2_with fail
          refine (HCT.out _ hb4).mono ?_; rintro e w' ⟨rfl, rfl⟩
          clear HCT
          go_upto_region 12 with fail
          by_cases hk0 : k = 0
          · subst hk0
            have g1 : decide ((0 : Int) < ((0 : Nat) : Int)) = false := by simp
            have g3 : decide (0 < 0) = false := by simp
            have g4 : decide ((1 : Int) < ((0 : Nat) : Int)) = false := by simp
            have g5 : decide (1 < 0) = false := by simp
            go_quiet (fail)
            go_upto_region 14 with fail
            have hb5 := below_drewN hb4 nq
            generalize wr.drewN nq = wr2 at *
            clear nq
            go_quiet (fail)
            go_wp2_with fail
            go_roundw
            case rel => exact ⟨1, by omega, by first | rfl | go_num, below_drewN hb5 nq⟩
            case measure => simp [intOf]; omega
          · have g1 : 0 < k := by omega
            have g2 : decide ((0 : Int) < (k : Int)) = true := by simp; omega
            obtain ⟨d, hd⟩ : ∃ d, hI rs (k - 1) = d := ⟨_, rfl⟩
            have e1 := HG3.out (k - 1) (by omega)
            have hdn := HAT.out.lt (k - 1) (by omega)
            obtain ⟨u1, u2⟩ := HUP.out g1 hlt2
            rw [hd] at e1 hdn u1 u2 HFL
            rw [← hb4.cell (p := ⟨g, o + (k - 1), none⟩) hg3] at e1
            obtain ⟨rd, hrd⟩ : ∃ rd, rs.getD d rung0 = rd := ⟨_, rfl⟩
            obtain ⟨y0, y1, y2, y3⟩ := HC3.out d hdn
            have okd := HOK.out d hdn
            rw [hrd] at y0 y1 y2 y3 u1 u2 HFL okd
            rw [← hb4.cell (p := ⟨b, off + d * 4, none⟩) hlt3] at y0
            rw [← hb4.cell (p := ⟨b, off + d * 4 + 1, none⟩) hlt3] at y1
            rw [← hb4.cell (p := ⟨b, off + d * 4 + 2, none⟩) hlt3] at y2
            rw [← hb4.cell (p := ⟨b, off + d * 4 + 3, none⟩) hlt3] at y3
            have OKD := Lib.hid okd
            have i2' : (0 : Int) ≤ (d : Int) := by omega
            have i3' : (d : Int) < (n : Int) := by omega
            have j2 : (0 : Int) ≤ (k : Int) - 1 := by omega
            have j3 : (k : Int) - 1 < (m : Int) := by omega
            have j6 : (1 : Int) ≤ (k : Int) := by omega
            have j4 : ((k : Int) - 1).toNat = k - 1 := by omega
            have j5 : IntKind.i64.wrap ((k : Int) - 1) = (k : Int) - 1 := IntWalk.i64_in _ ⟨by omega, by omega⟩
            have t1 : decide (rc.ra ≤ rd.ra) = false := by simp; omega
            have t2 : decide (rc.qu ≤ rd.qu) = false := by simp; omega
            clear hrd u1 u2 okd hd
            go_quiet (fail)
            go_upto_region 14 with fail
            have hb5 := below_drewN hb4 nq
            have e0 : (wr.drewN nq).cell? ⟨g, o + k, none⟩ = some (.int .i64 (c : Int)) := e0
            have e1 : (wr.drewN nq).cell? ⟨g, o + (k - 1), none⟩ = some (.int .i64 (d : Int)) := e1
            have x0 : (wr.drewN nq).cell? ⟨b, off + c * 4, none⟩ = some (.string rc.nm) := x0
            have x1 : (wr.drewN nq).cell? ⟨b, off + c * 4 + 1, none⟩ = some (.int .i64 rc.ra) := x1
            have x2 : (wr.drewN nq).cell? ⟨b, off + c * 4 + 2, none⟩ = some (.int .i64 rc.he) := x2
            have x3 : (wr.drewN nq).cell? ⟨b, off + c * 4 + 3, none⟩ = some (.int .i64 rc.qu) := x3
            have y0 : (wr.drewN nq).cell? ⟨b, off + d * 4, none⟩ = some (.string rd.nm) := y0
            have y1 : (wr.drewN nq).cell? ⟨b, off + d * 4 + 1, none⟩ = some (.int .i64 rd.ra) := y1
            have y2 : (wr.drewN nq).cell? ⟨b, off + d * 4 + 2, none⟩ = some (.int .i64 rd.he) := y2
            have y3 : (wr.drewN nq).cell? ⟨b, off + d * 4 + 3, none⟩ = some (.int .i64 rd.qu) := y3
            generalize wr.drewN nq = W at *
            have hWg : g < W.heap.size := Nat.lt_of_lt_of_le hg3 hb5.size
            have hWb : b < W.heap.size := Nat.lt_of_lt_of_le hlt3 hb5.size
            clear nq hb4 t1 t2
            by_cases hk1 : k = 1
            · have g7 : decide ((1 : Int) < (k : Int)) = false := by simp; omega
              have g8 : decide (1 < k) = false := by simp; omega
              clear hk0 hk1
              go_quiet (fail)
              go_wp2_with fail
              go_roundw
              case rel => exact ⟨k + 1, by omega, by go_num, below_drewN hb5 nq⟩
              case measure => simp [intOf]; omega
            · have g7 : 1 < k := by omega
              have g8 : decide ((1 : Int) < (k : Int)) = true := by simp; omega
              obtain ⟨z, hz⟩ : ∃ z, hI rs (k - 2) = z := ⟨_, rfl⟩
              have e2 := HG3.out (k - 2) (by omega)
              have hzn := HAT.out.lt (k - 2) (by omega)
              have hfl := HFL.out g7 hlt2
              rw [hz] at e2 hzn hfl
              rw [← hb5.cell (p := ⟨g, o + (k - 2), none⟩) hg3] at e2
              obtain ⟨rz, hrz⟩ : ∃ rz, rs.getD z rung0 = rz := ⟨_, rfl⟩
              obtain ⟨z0, z1, z2, z3⟩ := HC3.out z hzn
              have okz := HOK.out z hzn
              rw [hrz] at z0 z1 z2 z3 hfl okz
              rw [← hb5.cell (p := ⟨b, off + z * 4, none⟩) hlt3] at z0
              rw [← hb5.cell (p := ⟨b, off + z * 4 + 1, none⟩) hlt3] at z1
              rw [← hb5.cell (p := ⟨b, off + z * 4 + 2, none⟩) hlt3] at z2
              rw [← hb5.cell (p := ⟨b, off + z * 4 + 3, none⟩) hlt3] at z3
              have HRI := Lib.hid (fun W => rises_any rz rd rc W okz OKD.out OKC.out)
              rw [rise_flat hfl] at HRI
              have i4' : (0 : Int) ≤ (z : Int) := by omega
              have i5' : (z : Int) < (n : Int) := by omega
              have k2 : (0 : Int) ≤ (k : Int) - 2 := by omega
              have k3 : (k : Int) - 2 < (m : Int) := by omega
              have k6 : (2 : Int) ≤ (k : Int) := by omega
              have k4 : ((k : Int) - 2).toNat = k - 2 := by omega
              have k5 : IntKind.i64.wrap ((k : Int) - 2) = (k : Int) - 2 := IntWalk.i64_in _ ⟨by omega, by omega⟩
              clear hrz hfl okz hz hk0 hk1
              go_cut [102] (fun s102 wx => s102 = .bool false ∧ Below w3.heap.size w3 wx)
              case first =>
                refine wp_region_noPanic ?_
                refine wp_region_held_drew (S := fun w' => Below W.heap.size W w') (by kernel_rfl) ?hS0 (fun hHeld => ?_)
                case hS0 => exact (Below.refl _ W).drew
                have hS : Below W.heap.size W W.drew := (Below.refl _ W).drew
                clear hHeld
                generalize W.drew = wd at *
                refine wpAnyH_take (i := 0) (v := ?_) rfl (by kernel_rfl) (by kernel_rfl) (by kernel_rfl) (fun _ _ _ h => h) (Or.inl ⟨by kernel_rfl, ?hy⟩) (by assumption) ?_
                case hy => (intro wq hSw; have qx0 := (hSw.cell (p := ⟨b, off + c * 4, none⟩) hWb).trans x0; have qx1 := (hSw.cell (p := ⟨b, off + c * 4 + 1, none⟩) hWb).trans x1; have qx2 := (hSw.cell (p := ⟨b, off + c * 4 + 2, none⟩) hWb).trans x2; have qx3 := (hSw.cell (p := ⟨b, off + c * 4 + 3, none⟩) hWb).trans x3; have qy0 := (hSw.cell (p := ⟨b, off + d * 4, none⟩) hWb).trans y0; have qy1 := (hSw.cell (p := ⟨b, off + d * 4 + 1, none⟩) hWb).trans y1; have qy2 := (hSw.cell (p := ⟨b, off + d * 4 + 2, none⟩) hWb).trans y2; have qy3 := (hSw.cell (p := ⟨b, off + d * 4 + 3, none⟩) hWb).trans y3; have qz0 := (hSw.cell (p := ⟨b, off + z * 4, none⟩) hWb).trans z0; have qz1 := (hSw.cell (p := ⟨b, off + z * 4 + 1, none⟩) hWb).trans z1; have qz2 := (hSw.cell (p := ⟨b, off + z * 4 + 2, none⟩) hWb).trans z2; have qz3 := (hSw.cell (p := ⟨b, off + z * 4 + 3, none⟩) hWb).trans z3; have qe1 := (hSw.cell (p := ⟨g, o + (k - 1), none⟩) hWg).trans e1; have qe2 := (hSw.cell (p := ⟨g, o + (k - 2), none⟩) hWg).trans e2; have s3 := Nat.lt_of_lt_of_le hWb hSw.size; have s4 := Nat.lt_of_lt_of_le hWg hSw.size; go_simp; try (with_reducible rfl))
                try simp only [Act.put, List.setIfInBounds_toArray, List.set_cons_zero, List.set_cons_succ]
                refine wpAnyH_take (i := 1) (v := ?_) rfl (by kernel_rfl) (by kernel_rfl) (by kernel_rfl) (fun _ _ _ h => h) (Or.inl ⟨by kernel_rfl, ?hy⟩) (by assumption) ?_
                case hy => (intro wq hSw; have qx0 := (hSw.cell (p := ⟨b, off + c * 4, none⟩) hWb).trans x0; have qx1 := (hSw.cell (p := ⟨b, off + c * 4 + 1, none⟩) hWb).trans x1; have qx2 := (hSw.cell (p := ⟨b, off + c * 4 + 2, none⟩) hWb).trans x2; have qx3 := (hSw.cell (p := ⟨b, off + c * 4 + 3, none⟩) hWb).trans x3; have qy0 := (hSw.cell (p := ⟨b, off + d * 4, none⟩) hWb).trans y0; have qy1 := (hSw.cell (p := ⟨b, off + d * 4 + 1, none⟩) hWb).trans y1; have qy2 := (hSw.cell (p := ⟨b, off + d * 4 + 2, none⟩) hWb).trans y2; have qy3 := (hSw.cell (p := ⟨b, off + d * 4 + 3, none⟩) hWb).trans y3; have qz0 := (hSw.cell (p := ⟨b, off + z * 4, none⟩) hWb).trans z0; have qz1 := (hSw.cell (p := ⟨b, off + z * 4 + 1, none⟩) hWb).trans z1; have qz2 := (hSw.cell (p := ⟨b, off + z * 4 + 2, none⟩) hWb).trans z2; have qz3 := (hSw.cell (p := ⟨b, off + z * 4 + 3, none⟩) hWb).trans z3; have qe1 := (hSw.cell (p := ⟨g, o + (k - 1), none⟩) hWg).trans e1; have qe2 := (hSw.cell (p := ⟨g, o + (k - 2), none⟩) hWg).trans e2; have s3 := Nat.lt_of_lt_of_le hWb hSw.size; have s4 := Nat.lt_of_lt_of_le hWg hSw.size; go_simp; try (with_reducible rfl))
                try simp only [Act.put, List.setIfInBounds_toArray, List.set_cons_zero, List.set_cons_succ]
                refine wpAnyH_take (i := 2) (v := ?_) rfl (by kernel_rfl) (by kernel_rfl) (by kernel_rfl) (fun _ _ _ h => h) (Or.inl ⟨by kernel_rfl, ?hy⟩) (by assumption) ?_
                case hy => (intro wq hSw; have qx0 := (hSw.cell (p := ⟨b, off + c * 4, none⟩) hWb).trans x0; have qx1 := (hSw.cell (p := ⟨b, off + c * 4 + 1, none⟩) hWb).trans x1; have qx2 := (hSw.cell (p := ⟨b, off + c * 4 + 2, none⟩) hWb).trans x2; have qx3 := (hSw.cell (p := ⟨b, off + c * 4 + 3, none⟩) hWb).trans x3; have qy0 := (hSw.cell (p := ⟨b, off + d * 4, none⟩) hWb).trans y0; have qy1 := (hSw.cell (p := ⟨b, off + d * 4 + 1, none⟩) hWb).trans y1; have qy2 := (hSw.cell (p := ⟨b, off + d * 4 + 2, none⟩) hWb).trans y2; have qy3 := (hSw.cell (p := ⟨b, off + d * 4 + 3, none⟩) hWb).trans y3; have qz0 := (hSw.cell (p := ⟨b, off + z * 4, none⟩) hWb).trans z0; have qz1 := (hSw.cell (p := ⟨b, off + z * 4 + 1, none⟩) hWb).trans z1; have qz2 := (hSw.cell (p := ⟨b, off + z * 4 + 2, none⟩) hWb).trans z2; have qz3 := (hSw.cell (p := ⟨b, off + z * 4 + 3, none⟩) hWb).trans z3; have qe1 := (hSw.cell (p := ⟨g, o + (k - 1), none⟩) hWg).trans e1; have qe2 := (hSw.cell (p := ⟨g, o + (k - 2), none⟩) hWg).trans e2; have s3 := Nat.lt_of_lt_of_le hWb hSw.size; have s4 := Nat.lt_of_lt_of_le hWg hSw.size; go_simp; try (with_reducible rfl))
                try simp only [Act.put, List.setIfInBounds_toArray, List.set_cons_zero, List.set_cons_succ]
                refine wpAnyH_take (i := 3) (v := ?_) rfl (by kernel_rfl) (by kernel_rfl) (by kernel_rfl) (fun _ _ _ h => h) (Or.inl ⟨by kernel_rfl, ?hy⟩) (by assumption) ?_
                case hy => (intro wq hSw; have qx0 := (hSw.cell (p := ⟨b, off + c * 4, none⟩) hWb).trans x0; have qx1 := (hSw.cell (p := ⟨b, off + c * 4 + 1, none⟩) hWb).trans x1; have qx2 := (hSw.cell (p := ⟨b, off + c * 4 + 2, none⟩) hWb).trans x2; have qx3 := (hSw.cell (p := ⟨b, off + c * 4 + 3, none⟩) hWb).trans x3; have qy0 := (hSw.cell (p := ⟨b, off + d * 4, none⟩) hWb).trans y0; have qy1 := (hSw.cell (p := ⟨b, off + d * 4 + 1, none⟩) hWb).trans y1; have qy2 := (hSw.cell (p := ⟨b, off + d * 4 + 2, none⟩) hWb).trans y2; have qy3 := (hSw.cell (p := ⟨b, off + d * 4 + 3, none⟩) hWb).trans y3; have qz0 := (hSw.cell (p := ⟨b, off + z * 4, none⟩) hWb).trans z0; have qz1 := (hSw.cell (p := ⟨b, off + z * 4 + 1, none⟩) hWb).trans z1; have qz2 := (hSw.cell (p := ⟨b, off + z * 4 + 2, none⟩) hWb).trans z2; have qz3 := (hSw.cell (p := ⟨b, off + z * 4 + 3, none⟩) hWb).trans z3; have qe1 := (hSw.cell (p := ⟨g, o + (k - 1), none⟩) hWg).trans e1; have qe2 := (hSw.cell (p := ⟨g, o + (k - 2), none⟩) hWg).trans e2; have s3 := Nat.lt_of_lt_of_le hWb hSw.size; have s4 := Nat.lt_of_lt_of_le hWg hSw.size; go_simp; try (with_reducible rfl))
                try simp only [Act.put, List.setIfInBounds_toArray, List.set_cons_zero, List.set_cons_succ]
                refine wpAnyH_take (i := 4) (v := ?_) rfl (by kernel_rfl) (by kernel_rfl) (by kernel_rfl) (fun _ _ _ h => h) (Or.inl ⟨by kernel_rfl, ?hy⟩) (by assumption) ?_
                case hy => (intro wq hSw; have qx0 := (hSw.cell (p := ⟨b, off + c * 4, none⟩) hWb).trans x0; have qx1 := (hSw.cell (p := ⟨b, off + c * 4 + 1, none⟩) hWb).trans x1; have qx2 := (hSw.cell (p := ⟨b, off + c * 4 + 2, none⟩) hWb).trans x2; have qx3 := (hSw.cell (p := ⟨b, off + c * 4 + 3, none⟩) hWb).trans x3; have qy0 := (hSw.cell (p := ⟨b, off + d * 4, none⟩) hWb).trans y0; have qy1 := (hSw.cell (p := ⟨b, off + d * 4 + 1, none⟩) hWb).trans y1; have qy2 := (hSw.cell (p := ⟨b, off + d * 4 + 2, none⟩) hWb).trans y2; have qy3 := (hSw.cell (p := ⟨b, off + d * 4 + 3, none⟩) hWb).trans y3; have qz0 := (hSw.cell (p := ⟨b, off + z * 4, none⟩) hWb).trans z0; have qz1 := (hSw.cell (p := ⟨b, off + z * 4 + 1, none⟩) hWb).trans z1; have qz2 := (hSw.cell (p := ⟨b, off + z * 4 + 2, none⟩) hWb).trans z2; have qz3 := (hSw.cell (p := ⟨b, off + z * 4 + 3, none⟩) hWb).trans z3; have qe1 := (hSw.cell (p := ⟨g, o + (k - 1), none⟩) hWg).trans e1; have qe2 := (hSw.cell (p := ⟨g, o + (k - 2), none⟩) hWg).trans e2; have s3 := Nat.lt_of_lt_of_le hWb hSw.size; have s4 := Nat.lt_of_lt_of_le hWg hSw.size; go_simp; try (with_reducible rfl))
                try simp only [Act.put, List.setIfInBounds_toArray, List.set_cons_zero, List.set_cons_succ]
                refine wpAnyH_take (i := 5) (v := ?_) rfl (by kernel_rfl) (by kernel_rfl) (by kernel_rfl) (fun _ _ _ h => h) (Or.inl ⟨by kernel_rfl, ?hy⟩) (by assumption) ?_
                case hy => (intro wq hSw; have qx0 := (hSw.cell (p := ⟨b, off + c * 4, none⟩) hWb).trans x0; have qx1 := (hSw.cell (p := ⟨b, off + c * 4 + 1, none⟩) hWb).trans x1; have qx2 := (hSw.cell (p := ⟨b, off + c * 4 + 2, none⟩) hWb).trans x2; have qx3 := (hSw.cell (p := ⟨b, off + c * 4 + 3, none⟩) hWb).trans x3; have qy0 := (hSw.cell (p := ⟨b, off + d * 4, none⟩) hWb).trans y0; have qy1 := (hSw.cell (p := ⟨b, off + d * 4 + 1, none⟩) hWb).trans y1; have qy2 := (hSw.cell (p := ⟨b, off + d * 4 + 2, none⟩) hWb).trans y2; have qy3 := (hSw.cell (p := ⟨b, off + d * 4 + 3, none⟩) hWb).trans y3; have qz0 := (hSw.cell (p := ⟨b, off + z * 4, none⟩) hWb).trans z0; have qz1 := (hSw.cell (p := ⟨b, off + z * 4 + 1, none⟩) hWb).trans z1; have qz2 := (hSw.cell (p := ⟨b, off + z * 4 + 2, none⟩) hWb).trans z2; have qz3 := (hSw.cell (p := ⟨b, off + z * 4 + 3, none⟩) hWb).trans z3; have qe1 := (hSw.cell (p := ⟨g, o + (k - 1), none⟩) hWg).trans e1; have qe2 := (hSw.cell (p := ⟨g, o + (k - 2), none⟩) hWg).trans e2; have s3 := Nat.lt_of_lt_of_le hWb hSw.size; have s4 := Nat.lt_of_lt_of_le hWg hSw.size; go_simp; try (with_reducible rfl))
                try simp only [Act.put, List.setIfInBounds_toArray, List.set_cons_zero, List.set_cons_succ]
                refine wpAnyH_take (i := 6) (v := ?_) rfl (by kernel_rfl) (by kernel_rfl) (by kernel_rfl) (fun _ _ _ h => h) (Or.inl ⟨by kernel_rfl, ?hy⟩) (by assumption) ?_
                case hy => (intro wq hSw; have qx0 := (hSw.cell (p := ⟨b, off + c * 4, none⟩) hWb).trans x0; have qx1 := (hSw.cell (p := ⟨b, off + c * 4 + 1, none⟩) hWb).trans x1; have qx2 := (hSw.cell (p := ⟨b, off + c * 4 + 2, none⟩) hWb).trans x2; have qx3 := (hSw.cell (p := ⟨b, off + c * 4 + 3, none⟩) hWb).trans x3; have qy0 := (hSw.cell (p := ⟨b, off + d * 4, none⟩) hWb).trans y0; have qy1 := (hSw.cell (p := ⟨b, off + d * 4 + 1, none⟩) hWb).trans y1; have qy2 := (hSw.cell (p := ⟨b, off + d * 4 + 2, none⟩) hWb).trans y2; have qy3 := (hSw.cell (p := ⟨b, off + d * 4 + 3, none⟩) hWb).trans y3; have qz0 := (hSw.cell (p := ⟨b, off + z * 4, none⟩) hWb).trans z0; have qz1 := (hSw.cell (p := ⟨b, off + z * 4 + 1, none⟩) hWb).trans z1; have qz2 := (hSw.cell (p := ⟨b, off + z * 4 + 2, none⟩) hWb).trans z2; have qz3 := (hSw.cell (p := ⟨b, off + z * 4 + 3, none⟩) hWb).trans z3; have qe1 := (hSw.cell (p := ⟨g, o + (k - 1), none⟩) hWg).trans e1; have qe2 := (hSw.cell (p := ⟨g, o + (k - 2), none⟩) hWg).trans e2; have s3 := Nat.lt_of_lt_of_le hWb hSw.size; have s4 := Nat.lt_of_lt_of_le hWg hSw.size; go_simp; try (with_reducible rfl))
                try simp only [Act.put, List.setIfInBounds_toArray, List.set_cons_zero, List.set_cons_succ]
                refine wpAnyH_take (i := 7) (v := ?_) rfl (by kernel_rfl) (by kernel_rfl) (by kernel_rfl) (fun _ _ _ h => h) (Or.inl ⟨by kernel_rfl, ?hy⟩) (by assumption) ?_
                case hy => (intro wq hSw; have qx0 := (hSw.cell (p := ⟨b, off + c * 4, none⟩) hWb).trans x0; have qx1 := (hSw.cell (p := ⟨b, off + c * 4 + 1, none⟩) hWb).trans x1; have qx2 := (hSw.cell (p := ⟨b, off + c * 4 + 2, none⟩) hWb).trans x2; have qx3 := (hSw.cell (p := ⟨b, off + c * 4 + 3, none⟩) hWb).trans x3; have qy0 := (hSw.cell (p := ⟨b, off + d * 4, none⟩) hWb).trans y0; have qy1 := (hSw.cell (p := ⟨b, off + d * 4 + 1, none⟩) hWb).trans y1; have qy2 := (hSw.cell (p := ⟨b, off + d * 4 + 2, none⟩) hWb).trans y2; have qy3 := (hSw.cell (p := ⟨b, off + d * 4 + 3, none⟩) hWb).trans y3; have qz0 := (hSw.cell (p := ⟨b, off + z * 4, none⟩) hWb).trans z0; have qz1 := (hSw.cell (p := ⟨b, off + z * 4 + 1, none⟩) hWb).trans z1; have qz2 := (hSw.cell (p := ⟨b, off + z * 4 + 2, none⟩) hWb).trans z2; have qz3 := (hSw.cell (p := ⟨b, off + z * 4 + 3, none⟩) hWb).trans z3; have qe1 := (hSw.cell (p := ⟨g, o + (k - 1), none⟩) hWg).trans e1; have qe2 := (hSw.cell (p := ⟨g, o + (k - 2), none⟩) hWg).trans e2; have s3 := Nat.lt_of_lt_of_le hWb hSw.size; have s4 := Nat.lt_of_lt_of_le hWg hSw.size; go_simp; try (with_reducible rfl))
                try simp only [Act.put, List.setIfInBounds_toArray, List.set_cons_zero, List.set_cons_succ]
                refine wpAnyH_take (i := 8) (v := ?_) rfl (by kernel_rfl) (by kernel_rfl) (by kernel_rfl) (fun _ _ _ h => h) (Or.inl ⟨by kernel_rfl, ?hy⟩) (by assumption) ?_
                case hy => (intro wq hSw; have qx0 := (hSw.cell (p := ⟨b, off + c * 4, none⟩) hWb).trans x0; have qx1 := (hSw.cell (p := ⟨b, off + c * 4 + 1, none⟩) hWb).trans x1; have qx2 := (hSw.cell (p := ⟨b, off + c * 4 + 2, none⟩) hWb).trans x2; have qx3 := (hSw.cell (p := ⟨b, off + c * 4 + 3, none⟩) hWb).trans x3; have qy0 := (hSw.cell (p := ⟨b, off + d * 4, none⟩) hWb).trans y0; have qy1 := (hSw.cell (p := ⟨b, off + d * 4 + 1, none⟩) hWb).trans y1; have qy2 := (hSw.cell (p := ⟨b, off + d * 4 + 2, none⟩) hWb).trans y2; have qy3 := (hSw.cell (p := ⟨b, off + d * 4 + 3, none⟩) hWb).trans y3; have qz0 := (hSw.cell (p := ⟨b, off + z * 4, none⟩) hWb).trans z0; have qz1 := (hSw.cell (p := ⟨b, off + z * 4 + 1, none⟩) hWb).trans z1; have qz2 := (hSw.cell (p := ⟨b, off + z * 4 + 2, none⟩) hWb).trans z2; have qz3 := (hSw.cell (p := ⟨b, off + z * 4 + 3, none⟩) hWb).trans z3; have qe1 := (hSw.cell (p := ⟨g, o + (k - 1), none⟩) hWg).trans e1; have qe2 := (hSw.cell (p := ⟨g, o + (k - 2), none⟩) hWg).trans e2; have s3 := Nat.lt_of_lt_of_le hWb hSw.size; have s4 := Nat.lt_of_lt_of_le hWg hSw.size; go_simp; try (with_reducible rfl))
                try simp only [Act.put, List.setIfInBounds_toArray, List.set_cons_zero, List.set_cons_succ]
                refine wpAnyH_take (i := 9) (v := ?_) rfl (by kernel_rfl) (by kernel_rfl) (by kernel_rfl) (fun _ _ _ h => h) (Or.inl ⟨by kernel_rfl, ?hy⟩) (by assumption) ?_
                case hy => (intro wq hSw; have qx0 := (hSw.cell (p := ⟨b, off + c * 4, none⟩) hWb).trans x0; have qx1 := (hSw.cell (p := ⟨b, off + c * 4 + 1, none⟩) hWb).trans x1; have qx2 := (hSw.cell (p := ⟨b, off + c * 4 + 2, none⟩) hWb).trans x2; have qx3 := (hSw.cell (p := ⟨b, off + c * 4 + 3, none⟩) hWb).trans x3; have qy0 := (hSw.cell (p := ⟨b, off + d * 4, none⟩) hWb).trans y0; have qy1 := (hSw.cell (p := ⟨b, off + d * 4 + 1, none⟩) hWb).trans y1; have qy2 := (hSw.cell (p := ⟨b, off + d * 4 + 2, none⟩) hWb).trans y2; have qy3 := (hSw.cell (p := ⟨b, off + d * 4 + 3, none⟩) hWb).trans y3; have qz0 := (hSw.cell (p := ⟨b, off + z * 4, none⟩) hWb).trans z0; have qz1 := (hSw.cell (p := ⟨b, off + z * 4 + 1, none⟩) hWb).trans z1; have qz2 := (hSw.cell (p := ⟨b, off + z * 4 + 2, none⟩) hWb).trans z2; have qz3 := (hSw.cell (p := ⟨b, off + z * 4 + 3, none⟩) hWb).trans z3; have qe1 := (hSw.cell (p := ⟨g, o + (k - 1), none⟩) hWg).trans e1; have qe2 := (hSw.cell (p := ⟨g, o + (k - 2), none⟩) hWg).trans e2; have s3 := Nat.lt_of_lt_of_le hWb hSw.size; have s4 := Nat.lt_of_lt_of_le hWg hSw.size; go_simp; try (with_reducible rfl))
                try simp only [Act.put, List.setIfInBounds_toArray, List.set_cons_zero, List.set_cons_succ]
                refine wpAnyH_take (i := 10) (v := ?_) rfl (by kernel_rfl) (by kernel_rfl) (by kernel_rfl) (fun _ _ _ h => h) (Or.inl ⟨by kernel_rfl, ?hy⟩) (by assumption) ?_
                case hy => (intro wq hSw; have qx0 := (hSw.cell (p := ⟨b, off + c * 4, none⟩) hWb).trans x0; have qx1 := (hSw.cell (p := ⟨b, off + c * 4 + 1, none⟩) hWb).trans x1; have qx2 := (hSw.cell (p := ⟨b, off + c * 4 + 2, none⟩) hWb).trans x2; have qx3 := (hSw.cell (p := ⟨b, off + c * 4 + 3, none⟩) hWb).trans x3; have qy0 := (hSw.cell (p := ⟨b, off + d * 4, none⟩) hWb).trans y0; have qy1 := (hSw.cell (p := ⟨b, off + d * 4 + 1, none⟩) hWb).trans y1; have qy2 := (hSw.cell (p := ⟨b, off + d * 4 + 2, none⟩) hWb).trans y2; have qy3 := (hSw.cell (p := ⟨b, off + d * 4 + 3, none⟩) hWb).trans y3; have qz0 := (hSw.cell (p := ⟨b, off + z * 4, none⟩) hWb).trans z0; have qz1 := (hSw.cell (p := ⟨b, off + z * 4 + 1, none⟩) hWb).trans z1; have qz2 := (hSw.cell (p := ⟨b, off + z * 4 + 2, none⟩) hWb).trans z2; have qz3 := (hSw.cell (p := ⟨b, off + z * 4 + 3, none⟩) hWb).trans z3; have qe1 := (hSw.cell (p := ⟨g, o + (k - 1), none⟩) hWg).trans e1; have qe2 := (hSw.cell (p := ⟨g, o + (k - 2), none⟩) hWg).trans e2; have s3 := Nat.lt_of_lt_of_le hWb hSw.size; have s4 := Nat.lt_of_lt_of_le hWg hSw.size; go_simp; try (with_reducible rfl))
                try simp only [Act.put, List.setIfInBounds_toArray, List.set_cons_zero, List.set_cons_succ]
                refine wpAnyH_take (i := 11) (v := ?_) rfl (by kernel_rfl) (by kernel_rfl) (by kernel_rfl) (fun _ _ _ h => h) (Or.inl ⟨by kernel_rfl, ?hy⟩) (by assumption) ?_
                case hy => (intro wq hSw; have qx0 := (hSw.cell (p := ⟨b, off + c * 4, none⟩) hWb).trans x0; have qx1 := (hSw.cell (p := ⟨b, off + c * 4 + 1, none⟩) hWb).trans x1; have qx2 := (hSw.cell (p := ⟨b, off + c * 4 + 2, none⟩) hWb).trans x2; have qx3 := (hSw.cell (p := ⟨b, off + c * 4 + 3, none⟩) hWb).trans x3; have qy0 := (hSw.cell (p := ⟨b, off + d * 4, none⟩) hWb).trans y0; have qy1 := (hSw.cell (p := ⟨b, off + d * 4 + 1, none⟩) hWb).trans y1; have qy2 := (hSw.cell (p := ⟨b, off + d * 4 + 2, none⟩) hWb).trans y2; have qy3 := (hSw.cell (p := ⟨b, off + d * 4 + 3, none⟩) hWb).trans y3; have qz0 := (hSw.cell (p := ⟨b, off + z * 4, none⟩) hWb).trans z0; have qz1 := (hSw.cell (p := ⟨b, off + z * 4 + 1, none⟩) hWb).trans z1; have qz2 := (hSw.cell (p := ⟨b, off + z * 4 + 2, none⟩) hWb).trans z2; have qz3 := (hSw.cell (p := ⟨b, off + z * 4 + 3, none⟩) hWb).trans z3; have qe1 := (hSw.cell (p := ⟨g, o + (k - 1), none⟩) hWg).trans e1; have qe2 := (hSw.cell (p := ⟨g, o + (k - 2), none⟩) hWg).trans e2; have s3 := Nat.lt_of_lt_of_le hWb hSw.size; have s4 := Nat.lt_of_lt_of_le hWg hSw.size; go_simp; try (with_reducible rfl))
                try simp only [Act.put, List.setIfInBounds_toArray, List.set_cons_zero, List.set_cons_succ]
                refine wpAnyH_take (i := 12) (v := ?_) rfl (by kernel_rfl) (by kernel_rfl) (by kernel_rfl) (fun _ _ _ h => h) (Or.inl ⟨by kernel_rfl, ?hy⟩) (by assumption) ?_
                case hy => (intro wq hSw; have qx0 := (hSw.cell (p := ⟨b, off + c * 4, none⟩) hWb).trans x0; have qx1 := (hSw.cell (p := ⟨b, off + c * 4 + 1, none⟩) hWb).trans x1; have qx2 := (hSw.cell (p := ⟨b, off + c * 4 + 2, none⟩) hWb).trans x2; have qx3 := (hSw.cell (p := ⟨b, off + c * 4 + 3, none⟩) hWb).trans x3; have qy0 := (hSw.cell (p := ⟨b, off + d * 4, none⟩) hWb).trans y0; have qy1 := (hSw.cell (p := ⟨b, off + d * 4 + 1, none⟩) hWb).trans y1; have qy2 := (hSw.cell (p := ⟨b, off + d * 4 + 2, none⟩) hWb).trans y2; have qy3 := (hSw.cell (p := ⟨b, off + d * 4 + 3, none⟩) hWb).trans y3; have qz0 := (hSw.cell (p := ⟨b, off + z * 4, none⟩) hWb).trans z0; have qz1 := (hSw.cell (p := ⟨b, off + z * 4 + 1, none⟩) hWb).trans z1; have qz2 := (hSw.cell (p := ⟨b, off + z * 4 + 2, none⟩) hWb).trans z2; have qz3 := (hSw.cell (p := ⟨b, off + z * 4 + 3, none⟩) hWb).trans z3; have qe1 := (hSw.cell (p := ⟨g, o + (k - 1), none⟩) hWg).trans e1; have qe2 := (hSw.cell (p := ⟨g, o + (k - 2), none⟩) hWg).trans e2; have s3 := Nat.lt_of_lt_of_le hWb hSw.size; have s4 := Nat.lt_of_lt_of_le hWg hSw.size; go_simp; try (with_reducible rfl))
                try simp only [Act.put, List.setIfInBounds_toArray, List.set_cons_zero, List.set_cons_succ]
                refine wpAnyH_take (i := 13) (v := ?_) rfl (by kernel_rfl) (by kernel_rfl) (by kernel_rfl) (fun _ _ _ h => h) (Or.inl ⟨by kernel_rfl, ?hy⟩) (by assumption) ?_
                case hy => (intro wq hSw; have qx0 := (hSw.cell (p := ⟨b, off + c * 4, none⟩) hWb).trans x0; have qx1 := (hSw.cell (p := ⟨b, off + c * 4 + 1, none⟩) hWb).trans x1; have qx2 := (hSw.cell (p := ⟨b, off + c * 4 + 2, none⟩) hWb).trans x2; have qx3 := (hSw.cell (p := ⟨b, off + c * 4 + 3, none⟩) hWb).trans x3; have qy0 := (hSw.cell (p := ⟨b, off + d * 4, none⟩) hWb).trans y0; have qy1 := (hSw.cell (p := ⟨b, off + d * 4 + 1, none⟩) hWb).trans y1; have qy2 := (hSw.cell (p := ⟨b, off + d * 4 + 2, none⟩) hWb).trans y2; have qy3 := (hSw.cell (p := ⟨b, off + d * 4 + 3, none⟩) hWb).trans y3; have qz0 := (hSw.cell (p := ⟨b, off + z * 4, none⟩) hWb).trans z0; have qz1 := (hSw.cell (p := ⟨b, off + z * 4 + 1, none⟩) hWb).trans z1; have qz2 := (hSw.cell (p := ⟨b, off + z * 4 + 2, none⟩) hWb).trans z2; have qz3 := (hSw.cell (p := ⟨b, off + z * 4 + 3, none⟩) hWb).trans z3; have qe1 := (hSw.cell (p := ⟨g, o + (k - 1), none⟩) hWg).trans e1; have qe2 := (hSw.cell (p := ⟨g, o + (k - 2), none⟩) hWg).trans e2; have s3 := Nat.lt_of_lt_of_le hWb hSw.size; have s4 := Nat.lt_of_lt_of_le hWg hSw.size; go_simp; try (with_reducible rfl))
                try simp only [Act.put, List.setIfInBounds_toArray, List.set_cons_zero, List.set_cons_succ]
                refine wpAnyH_take (i := 14) (v := ?_) rfl (by kernel_rfl) (by kernel_rfl) (by kernel_rfl) (fun _ _ _ h => h) (Or.inl ⟨by kernel_rfl, ?hy⟩) (by assumption) ?_
                case hy => (intro wq hSw; have qx0 := (hSw.cell (p := ⟨b, off + c * 4, none⟩) hWb).trans x0; have qx1 := (hSw.cell (p := ⟨b, off + c * 4 + 1, none⟩) hWb).trans x1; have qx2 := (hSw.cell (p := ⟨b, off + c * 4 + 2, none⟩) hWb).trans x2; have qx3 := (hSw.cell (p := ⟨b, off + c * 4 + 3, none⟩) hWb).trans x3; have qy0 := (hSw.cell (p := ⟨b, off + d * 4, none⟩) hWb).trans y0; have qy1 := (hSw.cell (p := ⟨b, off + d * 4 + 1, none⟩) hWb).trans y1; have qy2 := (hSw.cell (p := ⟨b, off + d * 4 + 2, none⟩) hWb).trans y2; have qy3 := (hSw.cell (p := ⟨b, off + d * 4 + 3, none⟩) hWb).trans y3; have qz0 := (hSw.cell (p := ⟨b, off + z * 4, none⟩) hWb).trans z0; have qz1 := (hSw.cell (p := ⟨b, off + z * 4 + 1, none⟩) hWb).trans z1; have qz2 := (hSw.cell (p := ⟨b, off + z * 4 + 2, none⟩) hWb).trans z2; have qz3 := (hSw.cell (p := ⟨b, off + z * 4 + 3, none⟩) hWb).trans z3; have qe1 := (hSw.cell (p := ⟨g, o + (k - 1), none⟩) hWg).trans e1; have qe2 := (hSw.cell (p := ⟨g, o + (k - 2), none⟩) hWg).trans e2; have s3 := Nat.lt_of_lt_of_le hWb hSw.size; have s4 := Nat.lt_of_lt_of_le hWg hSw.size; go_simp; try (with_reducible rfl))
                try simp only [Act.put, List.setIfInBounds_toArray, List.set_cons_zero, List.set_cons_succ]
                refine wpAnyH_take (i := 15) (v := ?_) rfl (by kernel_rfl) (by kernel_rfl) (by kernel_rfl) (fun _ _ _ h => h) (Or.inl ⟨by kernel_rfl, ?hy⟩) (by assumption) ?_
                case hy => (intro wq hSw; have qx0 := (hSw.cell (p := ⟨b, off + c * 4, none⟩) hWb).trans x0; have qx1 := (hSw.cell (p := ⟨b, off + c * 4 + 1, none⟩) hWb).trans x1; have qx2 := (hSw.cell (p := ⟨b, off + c * 4 + 2, none⟩) hWb).trans x2; have qx3 := (hSw.cell (p := ⟨b, off + c * 4 + 3, none⟩) hWb).trans x3; have qy0 := (hSw.cell (p := ⟨b, off + d * 4, none⟩) hWb).trans y0; have qy1 := (hSw.cell (p := ⟨b, off + d * 4 + 1, none⟩) hWb).trans y1; have qy2 := (hSw.cell (p := ⟨b, off + d * 4 + 2, none⟩) hWb).trans y2; have qy3 := (hSw.cell (p := ⟨b, off + d * 4 + 3, none⟩) hWb).trans y3; have qz0 := (hSw.cell (p := ⟨b, off + z * 4, none⟩) hWb).trans z0; have qz1 := (hSw.cell (p := ⟨b, off + z * 4 + 1, none⟩) hWb).trans z1; have qz2 := (hSw.cell (p := ⟨b, off + z * 4 + 2, none⟩) hWb).trans z2; have qz3 := (hSw.cell (p := ⟨b, off + z * 4 + 3, none⟩) hWb).trans z3; have qe1 := (hSw.cell (p := ⟨g, o + (k - 1), none⟩) hWg).trans e1; have qe2 := (hSw.cell (p := ⟨g, o + (k - 2), none⟩) hWg).trans e2; have s3 := Nat.lt_of_lt_of_le hWb hSw.size; have s4 := Nat.lt_of_lt_of_le hWg hSw.size; go_simp; try (with_reducible rfl))
                try simp only [Act.put, List.setIfInBounds_toArray, List.set_cons_zero, List.set_cons_succ]
                refine wpAnyH_take (i := 16) (v := ?_) rfl (by kernel_rfl) (by kernel_rfl) (by kernel_rfl) (fun _ _ _ h => h) (Or.inl ⟨by kernel_rfl, ?hy⟩) (by assumption) ?_
                case hy => (intro wq hSw; have qx0 := (hSw.cell (p := ⟨b, off + c * 4, none⟩) hWb).trans x0; have qx1 := (hSw.cell (p := ⟨b, off + c * 4 + 1, none⟩) hWb).trans x1; have qx2 := (hSw.cell (p := ⟨b, off + c * 4 + 2, none⟩) hWb).trans x2; have qx3 := (hSw.cell (p := ⟨b, off + c * 4 + 3, none⟩) hWb).trans x3; have qy0 := (hSw.cell (p := ⟨b, off + d * 4, none⟩) hWb).trans y0; have qy1 := (hSw.cell (p := ⟨b, off + d * 4 + 1, none⟩) hWb).trans y1; have qy2 := (hSw.cell (p := ⟨b, off + d * 4 + 2, none⟩) hWb).trans y2; have qy3 := (hSw.cell (p := ⟨b, off + d * 4 + 3, none⟩) hWb).trans y3; have qz0 := (hSw.cell (p := ⟨b, off + z * 4, none⟩) hWb).trans z0; have qz1 := (hSw.cell (p := ⟨b, off + z * 4 + 1, none⟩) hWb).trans z1; have qz2 := (hSw.cell (p := ⟨b, off + z * 4 + 2, none⟩) hWb).trans z2; have qz3 := (hSw.cell (p := ⟨b, off + z * 4 + 3, none⟩) hWb).trans z3; have qe1 := (hSw.cell (p := ⟨g, o + (k - 1), none⟩) hWg).trans e1; have qe2 := (hSw.cell (p := ⟨g, o + (k - 2), none⟩) hWg).trans e2; have s3 := Nat.lt_of_lt_of_le hWb hSw.size; have s4 := Nat.lt_of_lt_of_le hWg hSw.size; go_simp; try (with_reducible rfl))
                try simp only [Act.put, List.setIfInBounds_toArray, List.set_cons_zero, List.set_cons_succ]
                refine wpAnyH_take (i := 17) (v := ?_) rfl (by kernel_rfl) (by kernel_rfl) (by kernel_rfl) (fun _ _ _ h => h) (Or.inl ⟨by kernel_rfl, ?hy⟩) (by assumption) ?_
                case hy => (intro wq hSw; have qx0 := (hSw.cell (p := ⟨b, off + c * 4, none⟩) hWb).trans x0; have qx1 := (hSw.cell (p := ⟨b, off + c * 4 + 1, none⟩) hWb).trans x1; have qx2 := (hSw.cell (p := ⟨b, off + c * 4 + 2, none⟩) hWb).trans x2; have qx3 := (hSw.cell (p := ⟨b, off + c * 4 + 3, none⟩) hWb).trans x3; have qy0 := (hSw.cell (p := ⟨b, off + d * 4, none⟩) hWb).trans y0; have qy1 := (hSw.cell (p := ⟨b, off + d * 4 + 1, none⟩) hWb).trans y1; have qy2 := (hSw.cell (p := ⟨b, off + d * 4 + 2, none⟩) hWb).trans y2; have qy3 := (hSw.cell (p := ⟨b, off + d * 4 + 3, none⟩) hWb).trans y3; have qz0 := (hSw.cell (p := ⟨b, off + z * 4, none⟩) hWb).trans z0; have qz1 := (hSw.cell (p := ⟨b, off + z * 4 + 1, none⟩) hWb).trans z1; have qz2 := (hSw.cell (p := ⟨b, off + z * 4 + 2, none⟩) hWb).trans z2; have qz3 := (hSw.cell (p := ⟨b, off + z * 4 + 3, none⟩) hWb).trans z3; have qe1 := (hSw.cell (p := ⟨g, o + (k - 1), none⟩) hWg).trans e1; have qe2 := (hSw.cell (p := ⟨g, o + (k - 2), none⟩) hWg).trans e2; have s3 := Nat.lt_of_lt_of_le hWb hSw.size; have s4 := Nat.lt_of_lt_of_le hWg hSw.size; go_simp; try (with_reducible rfl))
                try simp only [Act.put, List.setIfInBounds_toArray, List.set_cons_zero, List.set_cons_succ]
                refine wpAnyH_take (i := 18) (v := ?_) rfl (by kernel_rfl) (by kernel_rfl) (by kernel_rfl) (fun _ _ _ h => h) (Or.inl ⟨by kernel_rfl, ?hy⟩) (by assumption) ?_
                case hy => (intro wq hSw; have qx0 := (hSw.cell (p := ⟨b, off + c * 4, none⟩) hWb).trans x0; have qx1 := (hSw.cell (p := ⟨b, off + c * 4 + 1, none⟩) hWb).trans x1; have qx2 := (hSw.cell (p := ⟨b, off + c * 4 + 2, none⟩) hWb).trans x2; have qx3 := (hSw.cell (p := ⟨b, off + c * 4 + 3, none⟩) hWb).trans x3; have qy0 := (hSw.cell (p := ⟨b, off + d * 4, none⟩) hWb).trans y0; have qy1 := (hSw.cell (p := ⟨b, off + d * 4 + 1, none⟩) hWb).trans y1; have qy2 := (hSw.cell (p := ⟨b, off + d * 4 + 2, none⟩) hWb).trans y2; have qy3 := (hSw.cell (p := ⟨b, off + d * 4 + 3, none⟩) hWb).trans y3; have qz0 := (hSw.cell (p := ⟨b, off + z * 4, none⟩) hWb).trans z0; have qz1 := (hSw.cell (p := ⟨b, off + z * 4 + 1, none⟩) hWb).trans z1; have qz2 := (hSw.cell (p := ⟨b, off + z * 4 + 2, none⟩) hWb).trans z2; have qz3 := (hSw.cell (p := ⟨b, off + z * 4 + 3, none⟩) hWb).trans z3; have qe1 := (hSw.cell (p := ⟨g, o + (k - 1), none⟩) hWg).trans e1; have qe2 := (hSw.cell (p := ⟨g, o + (k - 2), none⟩) hWg).trans e2; have s3 := Nat.lt_of_lt_of_le hWb hSw.size; have s4 := Nat.lt_of_lt_of_le hWg hSw.size; go_simp; try (with_reducible rfl))
                try simp only [Act.put, List.setIfInBounds_toArray, List.set_cons_zero, List.set_cons_succ]
                refine wpAnyH_take (i := 19) (v := ?_) rfl (by kernel_rfl) (by kernel_rfl) (by kernel_rfl) (fun _ _ _ h => h) (Or.inl ⟨by kernel_rfl, ?hy⟩) (by assumption) ?_
                case hy => (intro wq hSw; have qx0 := (hSw.cell (p := ⟨b, off + c * 4, none⟩) hWb).trans x0; have qx1 := (hSw.cell (p := ⟨b, off + c * 4 + 1, none⟩) hWb).trans x1; have qx2 := (hSw.cell (p := ⟨b, off + c * 4 + 2, none⟩) hWb).trans x2; have qx3 := (hSw.cell (p := ⟨b, off + c * 4 + 3, none⟩) hWb).trans x3; have qy0 := (hSw.cell (p := ⟨b, off + d * 4, none⟩) hWb).trans y0; have qy1 := (hSw.cell (p := ⟨b, off + d * 4 + 1, none⟩) hWb).trans y1; have qy2 := (hSw.cell (p := ⟨b, off + d * 4 + 2, none⟩) hWb).trans y2; have qy3 := (hSw.cell (p := ⟨b, off + d * 4 + 3, none⟩) hWb).trans y3; have qz0 := (hSw.cell (p := ⟨b, off + z * 4, none⟩) hWb).trans z0; have qz1 := (hSw.cell (p := ⟨b, off + z * 4 + 1, none⟩) hWb).trans z1; have qz2 := (hSw.cell (p := ⟨b, off + z * 4 + 2, none⟩) hWb).trans z2; have qz3 := (hSw.cell (p := ⟨b, off + z * 4 + 3, none⟩) hWb).trans z3; have qe1 := (hSw.cell (p := ⟨g, o + (k - 1), none⟩) hWg).trans e1; have qe2 := (hSw.cell (p := ⟨g, o + (k - 2), none⟩) hWg).trans e2; have s3 := Nat.lt_of_lt_of_le hWb hSw.size; have s4 := Nat.lt_of_lt_of_le hWg hSw.size; go_simp; try (with_reducible rfl))
                try simp only [Act.put, List.setIfInBounds_toArray, List.set_cons_zero, List.set_cons_succ]
                refine wpAnyH_take (i := 20) (v := ?_) rfl (by kernel_rfl) (by kernel_rfl) (by kernel_rfl) (fun _ _ _ h => h) (Or.inl ⟨by kernel_rfl, ?hy⟩) (by assumption) ?_
                case hy => (intro wq hSw; have qx0 := (hSw.cell (p := ⟨b, off + c * 4, none⟩) hWb).trans x0; have qx1 := (hSw.cell (p := ⟨b, off + c * 4 + 1, none⟩) hWb).trans x1; have qx2 := (hSw.cell (p := ⟨b, off + c * 4 + 2, none⟩) hWb).trans x2; have qx3 := (hSw.cell (p := ⟨b, off + c * 4 + 3, none⟩) hWb).trans x3; have qy0 := (hSw.cell (p := ⟨b, off + d * 4, none⟩) hWb).trans y0; have qy1 := (hSw.cell (p := ⟨b, off + d * 4 + 1, none⟩) hWb).trans y1; have qy2 := (hSw.cell (p := ⟨b, off + d * 4 + 2, none⟩) hWb).trans y2; have qy3 := (hSw.cell (p := ⟨b, off + d * 4 + 3, none⟩) hWb).trans y3; have qz0 := (hSw.cell (p := ⟨b, off + z * 4, none⟩) hWb).trans z0; have qz1 := (hSw.cell (p := ⟨b, off + z * 4 + 1, none⟩) hWb).trans z1; have qz2 := (hSw.cell (p := ⟨b, off + z * 4 + 2, none⟩) hWb).trans z2; have qz3 := (hSw.cell (p := ⟨b, off + z * 4 + 3, none⟩) hWb).trans z3; have qe1 := (hSw.cell (p := ⟨g, o + (k - 1), none⟩) hWg).trans e1; have qe2 := (hSw.cell (p := ⟨g, o + (k - 2), none⟩) hWg).trans e2; have s3 := Nat.lt_of_lt_of_le hWb hSw.size; have s4 := Nat.lt_of_lt_of_le hWg hSw.size; go_simp; try (with_reducible rfl))
                try simp only [Act.put, List.setIfInBounds_toArray, List.set_cons_zero, List.set_cons_succ]
                refine wpAnyH_take (i := 21) (v := ?_) rfl (by kernel_rfl) (by kernel_rfl) (by kernel_rfl) (fun _ _ _ h => h) (Or.inl ⟨by kernel_rfl, ?hy⟩) (by assumption) ?_
                case hy => (intro wq hSw; have qx0 := (hSw.cell (p := ⟨b, off + c * 4, none⟩) hWb).trans x0; have qx1 := (hSw.cell (p := ⟨b, off + c * 4 + 1, none⟩) hWb).trans x1; have qx2 := (hSw.cell (p := ⟨b, off + c * 4 + 2, none⟩) hWb).trans x2; have qx3 := (hSw.cell (p := ⟨b, off + c * 4 + 3, none⟩) hWb).trans x3; have qy0 := (hSw.cell (p := ⟨b, off + d * 4, none⟩) hWb).trans y0; have qy1 := (hSw.cell (p := ⟨b, off + d * 4 + 1, none⟩) hWb).trans y1; have qy2 := (hSw.cell (p := ⟨b, off + d * 4 + 2, none⟩) hWb).trans y2; have qy3 := (hSw.cell (p := ⟨b, off + d * 4 + 3, none⟩) hWb).trans y3; have qz0 := (hSw.cell (p := ⟨b, off + z * 4, none⟩) hWb).trans z0; have qz1 := (hSw.cell (p := ⟨b, off + z * 4 + 1, none⟩) hWb).trans z1; have qz2 := (hSw.cell (p := ⟨b, off + z * 4 + 2, none⟩) hWb).trans z2; have qz3 := (hSw.cell (p := ⟨b, off + z * 4 + 3, none⟩) hWb).trans z3; have qe1 := (hSw.cell (p := ⟨g, o + (k - 1), none⟩) hWg).trans e1; have qe2 := (hSw.cell (p := ⟨g, o + (k - 2), none⟩) hWg).trans e2; have s3 := Nat.lt_of_lt_of_le hWb hSw.size; have s4 := Nat.lt_of_lt_of_le hWg hSw.size; go_simp; try (with_reducible rfl))
                try simp only [Act.put, List.setIfInBounds_toArray, List.set_cons_zero, List.set_cons_succ]
                refine wpAnyH_take (i := 22) (v := ?_) rfl (by kernel_rfl) (by kernel_rfl) (by kernel_rfl) (fun _ _ _ h => h) (Or.inl ⟨by kernel_rfl, ?hy⟩) (by assumption) ?_
                case hy => (intro wq hSw; have qx0 := (hSw.cell (p := ⟨b, off + c * 4, none⟩) hWb).trans x0; have qx1 := (hSw.cell (p := ⟨b, off + c * 4 + 1, none⟩) hWb).trans x1; have qx2 := (hSw.cell (p := ⟨b, off + c * 4 + 2, none⟩) hWb).trans x2; have qx3 := (hSw.cell (p := ⟨b, off + c * 4 + 3, none⟩) hWb).trans x3; have qy0 := (hSw.cell (p := ⟨b, off + d * 4, none⟩) hWb).trans y0; have qy1 := (hSw.cell (p := ⟨b, off + d * 4 + 1, none⟩) hWb).trans y1; have qy2 := (hSw.cell (p := ⟨b, off + d * 4 + 2, none⟩) hWb).trans y2; have qy3 := (hSw.cell (p := ⟨b, off + d * 4 + 3, none⟩) hWb).trans y3; have qz0 := (hSw.cell (p := ⟨b, off + z * 4, none⟩) hWb).trans z0; have qz1 := (hSw.cell (p := ⟨b, off + z * 4 + 1, none⟩) hWb).trans z1; have qz2 := (hSw.cell (p := ⟨b, off + z * 4 + 2, none⟩) hWb).trans z2; have qz3 := (hSw.cell (p := ⟨b, off + z * 4 + 3, none⟩) hWb).trans z3; have qe1 := (hSw.cell (p := ⟨g, o + (k - 1), none⟩) hWg).trans e1; have qe2 := (hSw.cell (p := ⟨g, o + (k - 2), none⟩) hWg).trans e2; have s3 := Nat.lt_of_lt_of_le hWb hSw.size; have s4 := Nat.lt_of_lt_of_le hWg hSw.size; go_simp; try (with_reducible rfl))
                try simp only [Act.put, List.setIfInBounds_toArray, List.set_cons_zero, List.set_cons_succ]
                refine wpAnyH_ready (rs := [23]) (by kernel_rfl) (by simp) ?_
                refine AllReadyH.cons rfl (fun K hK => ?_) AllReadyH.nil
                go_simp
                refine (HRI.out _).mono ?_; rintro e w7 ⟨rfl, b7⟩; have hS : Below W.heap.size W w7 := hS.trans (b7.mono hS.size)
                refine hK.out _ _ hS (fun hHeld => ?_)
                clear hK K hHeld
                try simp only [Act.put, List.setIfInBounds_toArray, List.set_cons_zero, List.set_cons_succ]
                refine wpAnyH_take (i := 24) (v := ?_) rfl (by kernel_rfl) (by kernel_rfl) (by kernel_rfl) (fun _ _ _ h => h) (Or.inl ⟨by kernel_rfl, ?hy⟩) (by assumption) ?_
                case hy => (intro wq hSw; have qx0 := (hSw.cell (p := ⟨b, off + c * 4, none⟩) hWb).trans x0; have qx1 := (hSw.cell (p := ⟨b, off + c * 4 + 1, none⟩) hWb).trans x1; have qx2 := (hSw.cell (p := ⟨b, off + c * 4 + 2, none⟩) hWb).trans x2; have qx3 := (hSw.cell (p := ⟨b, off + c * 4 + 3, none⟩) hWb).trans x3; have qy0 := (hSw.cell (p := ⟨b, off + d * 4, none⟩) hWb).trans y0; have qy1 := (hSw.cell (p := ⟨b, off + d * 4 + 1, none⟩) hWb).trans y1; have qy2 := (hSw.cell (p := ⟨b, off + d * 4 + 2, none⟩) hWb).trans y2; have qy3 := (hSw.cell (p := ⟨b, off + d * 4 + 3, none⟩) hWb).trans y3; have qz0 := (hSw.cell (p := ⟨b, off + z * 4, none⟩) hWb).trans z0; have qz1 := (hSw.cell (p := ⟨b, off + z * 4 + 1, none⟩) hWb).trans z1; have qz2 := (hSw.cell (p := ⟨b, off + z * 4 + 2, none⟩) hWb).trans z2; have qz3 := (hSw.cell (p := ⟨b, off + z * 4 + 3, none⟩) hWb).trans z3; have qe1 := (hSw.cell (p := ⟨g, o + (k - 1), none⟩) hWg).trans e1; have qe2 := (hSw.cell (p := ⟨g, o + (k - 2), none⟩) hWg).trans e2; have s3 := Nat.lt_of_lt_of_le hWb hSw.size; have s4 := Nat.lt_of_lt_of_le hWg hSw.size; go_simp; try (with_reducible rfl))
                try simp only [Act.put, List.setIfInBounds_toArray, List.set_cons_zero, List.set_cons_succ]
                refine wpAnyH_done (by kernel_rfl) ?_ _
                refine NoPanic.normal ?_
                try go_simp
                go_wp2_with fail
                go_meet
                exact ⟨rfl, hb5.trans (hS.mono hb5.size)⟩
              case rest =>
                obtain ⟨rfl, hb6⟩ := hcut
                go_wp2_with fail
                go_roundw
                case rel => exact ⟨k + 1, by omega, by go_num, hb6⟩
                case measure => simp [intOf]; omega
set_option maxRecDepth 100000 in
set_option maxHeartbeats 4000000 in
theorem hulls_fault (u : Value) (rs : List Rung) (w : World) (hS : Rungs w u rs) (hwf : ∀ y ∈ rs, y.nm.size ≤ maxLen) (h0 : rgF rs ≠ 0) :
    Calls Try.prog 6 #[u] w fun e w' => e = .returned (.bool true) ∧ Below w.heap.size w w' := by
  have HH := Lib.hid (Hull_any _ rs w hS hwf)
  have HSE : Hid (∀ W, Below w.heap.size w W → Calls Try.prog 23 #[u] W fun e w' => (∃ v, e = .returned (.tuple #[v, .int .i64 (rgF rs)]) ∧ NumsC w' v (senL rs)) ∧ Below W.heap.size W w') := Lib.hid (fun W hb => sensible_any _ rs W (hS.below hb (Nat.le_refl _)) hwf)
  rw [hullL, if_neg h0] at HH
  obtain ⟨F, hF⟩ : ∃ F, rgF rs = F := ⟨_, rfl⟩
  obtain ⟨SL, hSL⟩ : ∃ SL, senL rs = SL := ⟨_, rfl⟩
  rw [hF] at HH HSE h0
  rw [hSL] at HSE
  have hne : (F == 0) = false := by simp; exact h0
  have hne2 : (F != 0) = true := by simp; exact h0
  have fz : (F != F) = false := by simp
  have fz1 : (F == F) = true := by simp
  clear hS hwf h0 hF hSL
  go_enter Try.func6, Try.ntmps6
  go_wp2_with fail
  refine HH.out.mono ?_; rintro e w1 ⟨⟨u1, rfl, n1⟩, b1⟩
  rcases n1 with ⟨a, c, rfl, -⟩ | ⟨g, o, cp, rfl, hx, hg, hl, hcm, hcc⟩
  · go_wp2_with fail
    refine (HSE.out _ b1).mono ?_; rintro e w2 ⟨⟨u2, rfl, n2⟩, b2⟩
    have bb := b1.trans (b2.mono b1.size)
    go_wp2_with fail
    refine (awake5_any _).mono ?_; rintro e w3 ⟨rfl, b3⟩
    go_wp2_with fail
    go_ret
    exact ⟨rfl, bb.trans (b3.mono bb.size)⟩
  · exact absurd rfl hx
set_option maxRecDepth 100000 in
set_option maxHeartbeats 4000000 in
theorem hulls_none (a : Option Addr) (cap : Nat) (w : World) :
    Calls Try.prog 6 #[.slice a 0 cap] w fun e w' => e = .returned (.bool true) ∧ Below w.heap.size w w' := by
  have hS : Rungs w (.slice a 0 cap) [] := .inl ⟨_, _, rfl, rfl⟩
  have HH := Lib.hid (Hull_any _ [] w hS (by simp))
  have HSE : Hid (∀ W, Below w.heap.size w W → Calls Try.prog 23 #[.slice a 0 cap] W fun e w' => (∃ v, e = .returned (.tuple #[v, .int .i64 (rgF [])]) ∧ NumsC w' v (senL [])) ∧ Below W.heap.size W w') := Lib.hid (fun W hb => sensible_any _ [] W (hS.below hb (Nat.le_refl _)) (by simp))
  have e1 : rgF [] = 0 := by decide
  have e2 : hullL [] = [] := by decide
  have e3 : senL [] = [] := by decide
  rw [e1, e2] at HH
  rw [e1, e3] at HSE
  clear e1 e2 e3 hS
  go_enter Try.func6, Try.ntmps6
  go_wp2_with fail
  refine HH.out.mono ?_; rintro e w1 ⟨⟨u1, rfl, n1⟩, b1⟩
  rcases n1 with ⟨a1, c1, rfl, -⟩ | ⟨g, o, cp, rfl, hx, hg, hl, hcm, hcc⟩
  · go_wp2_with fail
    refine (HSE.out _ b1).mono ?_; rintro e w2 ⟨⟨u2, rfl, n2⟩, b2⟩
    have bb := b1.trans (b2.mono b1.size)
    rcases n2 with ⟨a2, c2, rfl, -⟩ | ⟨g, o, cp, rfl, hx, hg, hl, hcm, hcc⟩
    · go_wp2_with fail
      refine (awake5_any _).mono ?_; rintro e w3 ⟨rfl, b3⟩
      go_wp2_with fail
      refine wp_loop_rounds 1 ?_
      rw [rounds_succ]
      go_wp2_with fail
      go_ret
      exact ⟨rfl, bb.trans (b3.mono bb.size)⟩
    · exact absurd rfl hx
  · exact absurd rfl hx
theorem hullslaw (u : Value) (rs : List Rung) (w : World) (hS : Rungs w u rs) (hwf : ∀ y ∈ rs, y.nm.size ≤ maxLen) :
    Calls Try.prog 6 #[u] w fun e w' => e = .returned (.bool true) ∧ Below w.heap.size w w' := by
  by_cases h0 : rgF rs = 0
  · by_cases h1 : rs.length = 0
    · have : rs = [] := List.length_eq_zero_iff.1 h1
      subst this
      obtain ⟨a, cap, rfl⟩ := hS.parts
      exact hulls_none a cap w
    · obtain ⟨b, off, cap, rfl, hlt, hl, hm⟩ := hS.spot (by omega)
      exact hulls_walk b off rs.length cap rs w rfl (by omega) hlt hS hwf h0
  · exact hulls_fault u rs w hS hwf h0

end Go.Proofs.Ytfjgpafcdkodmaa
