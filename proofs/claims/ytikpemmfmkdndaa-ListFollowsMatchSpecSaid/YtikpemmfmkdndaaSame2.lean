/- slices.EqualFunc at entries, isSame (program). -/
import Derived.Test.YtikpemmfmkdndaaSame
namespace Go.Proofs.Ytikpemmfmkdndaa
set_option linter.unusedVariables false
set_option linter.unusedSimpArgs false
open Go.RowKit Go.Shelf Go.Deep

set_option maxRecDepth 100000 in
set_option maxHeartbeats 8000000 in
theorem eqFunc_walk (a : Option Addr) (n cap : Nat) (es : List Ent) (Us : Nat → Value) (a' : Option Addr) (m cap' : Nat) (fs : List Ent) (Vs : Nat → Value) (w : World) (hE : EntsU w (.slice a n cap) es Us) (hn : es.length = n) (hF : EntsU w (.slice a' m cap') fs Vs) (hm : fs.length = m) :
    Calls Try.prog 80 #[.slice a n cap, .slice a' m cap', .func (.func 56) #[] #[]] w fun e w' => e = .returned (.bool (sameEs es fs)) ∧ Below w.heap.size w w' := by
  have hn5 := hE.len
  rw [hn] at hn5
  unfold maxLen at hn5
  by_cases hnm : n = m
  rotate_left
  · have e1 : sameEs es fs = false := sameEs_len (by omega)
    rw [e1]
    have g1 : ((n : Int) == (m : Int)) = false := by simp; omega
    have g2 : ((n : Int) != (m : Int)) = true := by simp; omega
    clear hE hF hn hm hnm e1
    go_enter Try.func80, Try.ntmps80
    go_wp2_with fail
    go_ret
    exact ⟨rfl, Below.refl _ _⟩
  · subst hnm
    have eg : ∀ args w, (callFunc 56 args).run Try.prog w = .ok (.enter 56 args) w := enters_of Try.func56 (by kernel_rfl) rfl
    have HB : Hid (∀ i, i < n → sameE (es.getD i ent0) (fs.getD i ent0) = false → sameEs es fs = false) := Lib.hid (fun i hi h => sameEs_bad (by omega) h)
    have HG : Hid ((∀ i, i < n → sameE (es.getD i ent0) (fs.getD i ent0) = true) → sameEs es fs = true) := Lib.hid (fun h => sameEs_good (by omega) (by rw [hn]; exact h))
    have HN := Lib.hid hn; have HM := Lib.hid hm; have HEN := Lib.hid hE; have HFN := Lib.hid hF
    obtain ⟨R, hR⟩ : ∃ R, sameEs es fs = R := ⟨_, rfl⟩
    rw [hR] at HB HG ⊢
    clear hE hF hn hm hR
    go_enter Try.func80, Try.ntmps80
    go_wp2_with fail
    go_loopw [17] (fun v wr => ∃ k : Nat, k ≤ n ∧ v = .int .i64 k ∧ Hid (∀ i, i < k → sameE (es.getD i ent0) (fs.getD i ent0) = true) ∧ Below w.heap.size w wr) (fun v _ => n - (intOf v).toNat)
    case atStart => exact ⟨0, Nat.zero_le _, rfl, Lib.hid (fun i hi => by omega), Below.refl _ _⟩
    case round =>
      obtain ⟨k, hk, rfl, HK, hbr⟩ := hrel
      by_cases hk2 : k < n
      rotate_left
      · have e1 : R = true := HG.out (fun i hi => HK.out i (by omega))
        have kD : decide ((k : Int) < (n : Int)) = false := by simp; omega
        have kD2 : decide (k < n) = false := by simp; omega
        subst e1
        go_wp2_with fail
        go_ret
        exact ⟨rfl, hbr⟩
      · have hEW := HEN.out.below hbr (Nat.le_refl _)
        obtain ⟨b, off, cap1, hv, hlt, -, -⟩ := hEW.spot (by rw [HN.out]; omega)
        simp only [Value.slice.injEq] at hv
        obtain ⟨rfl, -, rfl⟩ := hv
        obtain ⟨c0, c1, c2, c3, c4, c5, c6⟩ := hEW.cells k (by rw [HN.out]; exact hk2)
        have hFW := HFN.out.below hbr (Nat.le_refl _)
        obtain ⟨b', off', cap2, hv, hlt', -, -⟩ := hFW.spot (by rw [HM.out]; omega)
        simp only [Value.slice.injEq] at hv
        obtain ⟨rfl, -, rfl⟩ := hv
        obtain ⟨f0, f1, f2, f3, f4, f5, f6⟩ := hFW.cells k (by rw [HM.out]; exact hk2)
        have hsx := hEW.strs k (by rw [HN.out]; exact hk2)
        have hsy := hFW.strs k (by rw [HM.out]; exact hk2)
        obtain ⟨x, hx⟩ : ∃ x, es.getD k ent0 = x := ⟨_, rfl⟩
        obtain ⟨y, hy⟩ : ∃ y, fs.getD k ent0 = y := ⟨_, rfl⟩
        rw [hx] at hsx c0 c1 c2 c3 c4 c5
        rw [hy] at hsy f0 f1 f2 f3 f4 f5
        obtain ⟨ax, cx, hux⟩ := hsx.parts
        obtain ⟨ay, cy, huy⟩ := hsy.parts
        rw [hux] at hsx c6
        rw [huy] at hsy f6
        have kI : (k : Int) < (n : Int) := by omega
        have hwI : IntKind.i64.wrap ((k : Int) + 1) = (k : Int) + 1 := IntWalk.i64_in _ ⟨by omega, by omega⟩
        obtain ⟨D, hD⟩ : ∃ D, sameE x y = D := ⟨_, rfl⟩
        have HBD : Hid (D = false → R = false) := Lib.hid (fun h => HB.out k hk2 (by rw [hx, hy, hD]; exact h))
        have HN2 : Hid (D = true → ∀ i, i < k + 1 → sameE (es.getD i ent0) (fs.getD i ent0) = true) := Lib.hid (fun h i hi => by
          by_cases e : i = k
          · subst e; rw [hx, hy, hD]; exact h
          · exact HK.out i (by omega))
        have HS : Hid (∀ W, Below wr.heap.size wr W → Calls Try.prog 56 #[.agg #[.string x.uri, .int .i64 x.mi, .bool x.br, .int .i64 x.da, .string x.key, .bool x.gap, .slice ax x.ex.length cx], .agg #[.string y.uri, .int .i64 y.mi, .bool y.br, .int .i64 y.da, .string y.key, .bool y.gap, .slice ay y.ex.length cy]] W fun e w' => e = .returned (.bool D) ∧ Below W.heap.size W w') := Lib.hid (fun W hb => by rw [← hD]; exact sameEnt_any x y _ _ W (hsx.below hb (Nat.le_refl _)) (hsy.below hb (Nat.le_refl _)))
        have b1 : Below wr.heap.size wr (wr.alloc (.cells #[.string x.uri, .int .i64 x.mi, .bool x.br, .int .i64 x.da, .string x.key, .bool x.gap, .slice ax x.ex.length cx] 32)) := (Below.refl _ wr).alloc (Nat.le_refl _) _
        have b2 : Below wr.heap.size wr ((wr.alloc (.cells #[.string x.uri, .int .i64 x.mi, .bool x.br, .int .i64 x.da, .string x.key, .bool x.gap, .slice ax x.ex.length cx] 32)).alloc (.cells #[.string y.uri, .int .i64 y.mi, .bool y.br, .int .i64 y.da, .string y.key, .bool y.gap, .slice ay y.ex.length cy] 32)) := b1.alloc b1.size _
        have FX := (EBox.new wr x (.slice ax x.ex.length cx) 32).alloc (.cells #[.string y.uri, .int .i64 y.mi, .bool y.br, .int .i64 y.da, .string y.key, .bool y.gap, .slice ay y.ex.length cy] 32)
        have FY := EBox.new (wr.alloc (.cells #[.string x.uri, .int .i64 x.mi, .bool x.br, .int .i64 x.da, .string x.key, .bool x.gap, .slice ax x.ex.length cx] 32)) y (.slice ay y.ex.length cy) 32
        have hsz : (wr.alloc (.cells #[.string x.uri, .int .i64 x.mi, .bool x.br, .int .i64 x.da, .string x.key, .bool x.gap, .slice ax x.ex.length cx] 32)).heap.size = wr.heap.size + 1 := by simp
        rw [hsz] at FY
        clear hx hy hEW hFW hsx hsy hux huy hD hsz b1
        go_upto_region 7 with fail
        generalize (wr.alloc (.cells #[.string x.uri, .int .i64 x.mi, .bool x.br, .int .i64 x.da, .string x.key, .bool x.gap, .slice ax x.ex.length cx] 32)).alloc (.cells #[.string y.uri, .int .i64 y.mi, .bool y.br, .int .i64 y.da, .string y.key, .bool y.gap, .slice ay y.ex.length cy] 32) = W9 at *
        clear c0 c1 c2 c3 c4 c5 c6 f0 f1 f2 f3 f4 f5 f6
        have k0 := FX.c0; have k1 := FX.c1; have k2 := FX.c2; have k3 := FX.c3; have k4 := FX.c4; have k5 := FX.c5; have k6 := FX.c6; have kl := FX.lt
        have l0 := FY.c0; have l1 := FY.c1; have l2 := FY.c2; have l3 := FY.c3; have l4 := FY.c4; have l5 := FY.c5; have l6 := FY.c6; have ll := FY.lt
        go_wp2_with fail
        refine (HS.out _ b2).mono ?_; rintro e w5 ⟨rfl, b5⟩
        have hbn := hbr.trans ((b2.trans (b5.mono b2.size)).mono hbr.size)
        clear k0 k1 k2 k3 k4 k5 k6 kl l0 l1 l2 l3 l4 l5 l6 ll FX FY b5 b2
        cases D
        · have e1 := HBD.out rfl
          subst e1
          go_wp2_with fail
          go_ret
          exact ⟨rfl, hbn⟩
        · have HN3 := Lib.hid (HN2.out rfl)
          go_wp2_with fail
          go_roundw
          case rel => exact ⟨k + 1, by omega, by go_num, HN3, hbn⟩
          case measure => simp [intOf]; omega
set_option maxRecDepth 100000 in
set_option maxHeartbeats 8000000 in
theorem isSame_any (tg fi bk : Int) (a : Option Addr) (n cap : Nat) (en : Bool) (es : List Ent) (Us : Nat → Value) (tg' fi' bk' : Int) (a' : Option Addr) (m cap' : Nat) (en' : Bool) (fs : List Ent) (Vs : Nat → Value) (w : World) (hE : EntsU w (.slice a n cap) es Us) (hn : es.length = n) (hF : EntsU w (.slice a' m cap') fs Vs) (hm : fs.length = m) :
    Calls Try.prog 53 #[.agg #[.int .i64 tg, .int .i64 fi, .int .i64 bk, .slice a n cap, .bool en], .agg #[.int .i64 tg', .int .i64 fi', .int .i64 bk', .slice a' m cap', .bool en']] w fun e w' => e = .returned (.bool (sameL ⟨tg, fi, bk, es, en⟩ ⟨tg', fi', bk', fs, en'⟩)) ∧ Below w.heap.size w w' := by
  have bX : Below w.heap.size w (w.alloc (.cells #[.int .i64 tg, .int .i64 fi, .int .i64 bk, .slice a n cap, .bool en] 24)) := (Below.refl _ w).alloc (Nat.le_refl _) _
  have bY : Below w.heap.size w ((w.alloc (.cells #[.int .i64 tg, .int .i64 fi, .int .i64 bk, .slice a n cap, .bool en] 24)).alloc (.cells #[.int .i64 tg', .int .i64 fi', .int .i64 bk', .slice a' m cap', .bool en'] 24)) := bX.alloc bX.size _
  have HEQ : Hid (∀ W, Below w.heap.size w W → Calls Try.prog 80 #[.slice a n cap, .slice a' m cap', .func (.func 56) #[] #[]] W fun e w' => e = .returned (.bool (sameEs es fs)) ∧ Below W.heap.size W w') := Lib.hid (fun W hb => eqFunc_walk a n cap es Us a' m cap' fs Vs W (hE.below hb (Nat.le_refl _)) hn (hF.below hb (Nat.le_refl _)) hm)
  have FX := (LBox.new w tg fi bk (.slice a n cap) en 24).alloc (.cells #[.int .i64 tg', .int .i64 fi', .int .i64 bk', .slice a' m cap', .bool en'] 24)
  have FY := LBox.new (w.alloc (.cells #[.int .i64 tg, .int .i64 fi, .int .i64 bk, .slice a n cap, .bool en] 24)) tg' fi' bk' (.slice a' m cap') en' 24
  have hsz : (w.alloc (.cells #[.int .i64 tg, .int .i64 fi, .int .i64 bk, .slice a n cap, .bool en] 24)).heap.size = w.heap.size + 1 := by simp
  rw [hsz] at FY
  obtain ⟨SX, hSX⟩ : ∃ SX, sameEs es fs = SX := ⟨_, rfl⟩
  obtain ⟨B1, h1⟩ : ∃ B1, (tg == tg') = B1 := ⟨_, rfl⟩
  obtain ⟨B2, h2⟩ : ∃ B2, (fi == fi') = B2 := ⟨_, rfl⟩
  obtain ⟨B3, h3⟩ : ∃ B3, (bk == bk') = B3 := ⟨_, rfl⟩
  obtain ⟨B4, h4⟩ : ∃ B4, (en == en') = B4 := ⟨_, rfl⟩
  obtain ⟨R, hR⟩ : ∃ R, sameL ⟨tg, fi, bk, es, en⟩ ⟨tg', fi', bk', fs, en'⟩ = R := ⟨_, rfl⟩
  have HR : Hid (R = ((B1 && (B2 && (B3 && B4))) && SX)) := Lib.hid (by rw [← hR]; unfold sameL sameH; show (((tg == tg') && ((fi == fi') && ((bk == bk') && (en == en')))) && sameEs es fs) = _; rw [h1, h2, h3, h4, hSX])
  rw [hSX] at HEQ
  rw [hR]
  clear hE hF hn hm hSX hR bX hsz
  go_enter Try.func53, Try.ntmps53
  go_upto_region 1 with fail
  generalize (w.alloc (.cells #[.int .i64 tg, .int .i64 fi, .int .i64 bk, .slice a n cap, .bool en] 24)).alloc (.cells #[.int .i64 tg', .int .i64 fi', .int .i64 bk', .slice a' m cap', .bool en'] 24) = W at *
  have k0 := FX.c0; have k1 := FX.c1; have k2 := FX.c2; have k3 := FX.c3; have k4 := FX.c4; have kl := FX.lt
  have l0 := FY.c0; have l1 := FY.c1; have l2 := FY.c2; have l3 := FY.c3; have l4 := FY.c4; have ll := FY.lt
  clear FX FY
  obtain ⟨T1, hT1⟩ : ∃ T1, (B1 && (B2 && (B3 && B4))) = T1 := ⟨_, rfl⟩
  rw [hT1] at HR
  have HT1 := Lib.hid hT1
  clear hT1
  go_cut [5] (fun s5 wx => s5 = .bool T1 ∧ W = wx)
  case first =>
    cases B1
    · have e1 : T1 = false := HT1.out.symm
      subst e1
      go_wp2_with fail
      go_meet
      exact ⟨rfl, rfl⟩
    · cases B2
      · have e1 : T1 = false := HT1.out.symm
        subst e1
        go_wp2_with fail
        go_meet
        exact ⟨rfl, rfl⟩
      · cases B3
        · have e1 : T1 = false := HT1.out.symm
          subst e1
          go_wp2_with fail
          go_meet
          exact ⟨rfl, rfl⟩
        · have e1 : T1 = B4 := by rw [← HT1.out]; rfl
          subst e1
          go_wp2_with fail
          go_meet
          exact ⟨by first | rfl | (rw [h4]), rfl⟩
  case rest =>
    obtain ⟨rfl, rfl⟩ := hcut
    cases T1
    · have e1 : R = false := by rw [HR.out]; rfl
      subst e1
      go_wp2_with fail
      go_ret
      exact ⟨rfl, bY⟩
    · have e1 : R = SX := by rw [HR.out]; rfl
      subst e1
      go_wp2_with fail
      refine (HEQ.out _ bY).mono ?_; rintro e w5 ⟨rfl, b5⟩
      go_wp2_with fail
      go_ret
      exact ⟨rfl, bY.trans (b5.mono bY.size)⟩

end Go.Proofs.Ytikpemmfmkdndaa
