/- SameList, breaks (reference). -/
import Derived.Test.YtikpemmfmkdndaaRSame
import Derived.Test.YtikpemmfmkdndaaBrk
namespace Go.Proofs.Ytikpemmfmkdndaa
set_option linter.unusedVariables false
set_option linter.unusedSimpArgs false
open Go.RowKit Go.Shelf Go.Deep

structure LWays (B1 B2 B3 B4 B5 SX R : Bool) : Prop where
  a : B1 = false ∨ B2 = false ∨ B3 = false ∨ B4 = false ∨ B5 = false → R = false
  b : B1 = true → B2 = true → B3 = true → B4 = true → R = SX
theorem l_ways (B1 B2 B3 B4 B5 SX R : Bool) (h8 : B5 = false → SX = false) (hR : ((B1 && (B2 && (B3 && B4))) && SX) = R) : LWays B1 B2 B3 B4 B5 SX R := by
  subst hR
  constructor
  · rintro (rfl | rfl | rfl | rfl | h)
    · rfl
    · cases B1 <;> rfl
    · cases B1 <;> cases B2 <;> rfl
    · cases B1 <;> cases B2 <;> cases B3 <;> rfl
    · rw [h8 h, Bool.and_false]
  · rintro rfl rfl rfl rfl; rfl
set_option maxRecDepth 100000 in
set_option maxHeartbeats 8000000 in
theorem rSameL_any (tg fi bk : Int) (a : Option Addr) (n cap : Nat) (en : Bool) (es : List Ent) (Us : Nat → Value) (tg' fi' bk' : Int) (a' : Option Addr) (m cap' : Nat) (en' : Bool) (fs : List Ent) (Vs : Nat → Value) (w : World) (hE : EntsU w (.slice a n cap) es Us) (hn : es.length = n) (hF : EntsU w (.slice a' m cap') fs Vs) (hm : fs.length = m) :
    Calls Try.prog 19 #[.agg #[.int .i64 tg, .int .i64 fi, .int .i64 bk, .slice a n cap, .bool en], .agg #[.int .i64 tg', .int .i64 fi', .int .i64 bk', .slice a' m cap', .bool en']] w fun e w' => e = .returned (.bool (sameL ⟨tg, fi, bk, es, en⟩ ⟨tg', fi', bk', fs, en'⟩)) ∧ Below w.heap.size w w' := by
  have bX : Below w.heap.size w (w.alloc (.cells #[.int .i64 tg, .int .i64 fi, .int .i64 bk, .slice a n cap, .bool en] 24)) := (Below.refl _ w).alloc (Nat.le_refl _) _
  have bY : Below w.heap.size w ((w.alloc (.cells #[.int .i64 tg, .int .i64 fi, .int .i64 bk, .slice a n cap, .bool en] 24)).alloc (.cells #[.int .i64 tg', .int .i64 fi', .int .i64 bk', .slice a' m cap', .bool en'] 24)) := bX.alloc bX.size _
  have FX := (LBox.new w tg fi bk (.slice a n cap) en 24).alloc (.cells #[.int .i64 tg', .int .i64 fi', .int .i64 bk', .slice a' m cap', .bool en'] 24)
  have FY := LBox.new (w.alloc (.cells #[.int .i64 tg, .int .i64 fi, .int .i64 bk, .slice a n cap, .bool en] 24)) tg' fi' bk' (.slice a' m cap') en' 24
  have hsz : (w.alloc (.cells #[.int .i64 tg, .int .i64 fi, .int .i64 bk, .slice a n cap, .bool en] 24)).heap.size = w.heap.size + 1 := by simp
  rw [hsz] at FY
  clear hsz bX
  obtain ⟨SX, hSX⟩ : ∃ SX, sameEs es fs = SX := ⟨_, rfl⟩
  obtain ⟨B1, h1⟩ : ∃ B1, (tg == tg') = B1 := ⟨_, rfl⟩
  obtain ⟨B2, h2⟩ : ∃ B2, (fi == fi') = B2 := ⟨_, rfl⟩
  obtain ⟨B3, h3⟩ : ∃ B3, (bk == bk') = B3 := ⟨_, rfl⟩
  obtain ⟨B4, h4⟩ : ∃ B4, (en == en') = B4 := ⟨_, rfl⟩
  obtain ⟨B5, h5⟩ : ∃ B5, ((n : Int) == (m : Int)) = B5 := ⟨_, rfl⟩
  obtain ⟨R, hR⟩ : ∃ R, sameL ⟨tg, fi, bk, es, en⟩ ⟨tg', fi', bk', fs, en'⟩ = R := ⟨_, rfl⟩
  have HW : Hid (LWays B1 B2 B3 B4 B5 SX R) := Lib.hid (l_ways _ _ _ _ _ _ _ (fun h => by rw [← hSX]; refine sameEs_len ?_; rw [h] at h5; intro h6; rw [hn, hm] at h6; rw [h6] at h5; simp at h5) (by rw [← hR]; unfold sameL sameH; show _ = (((tg == tg') && ((fi == fi') && ((bk == bk') && (en == en')))) && sameEs es fs); rw [h1, h2, h3, h4, hSX]))
  rw [hR]
  clear hR
  go_enter Try.func19, Try.ntmps19
  go_upto_region 1 with fail
  generalize (w.alloc (.cells #[.int .i64 tg, .int .i64 fi, .int .i64 bk, .slice a n cap, .bool en] 24)).alloc (.cells #[.int .i64 tg', .int .i64 fi', .int .i64 bk', .slice a' m cap', .bool en'] 24) = W at *
  have k0 := FX.c0; have k1 := FX.c1; have k2 := FX.c2; have k3 := FX.c3; have k4 := FX.c4; have kl := FX.lt
  have l0 := FY.c0; have l1 := FY.c1; have l2 := FY.c2; have l3 := FY.c3; have l4 := FY.c4; have ll := FY.lt
  cases B1
  · have z1 : (tg != tg') = true := by rw [bne, h1]; rfl
    have e1 := HW.out.a (by simp)
    subst e1
    go_wp2_with fail
    go_ret
    exact ⟨rfl, bY⟩
  · have z1 : (tg != tg') = false := by rw [bne, h1]; rfl
    cases B2
    · have z2 : (fi != fi') = true := by rw [bne, h2]; rfl
      have e1 := HW.out.a (by simp)
      subst e1
      go_wp2_with fail
      go_ret
      exact ⟨rfl, bY⟩
    · have z2 : (fi != fi') = false := by rw [bne, h2]; rfl
      cases B3
      · have z3 : (bk != bk') = true := by rw [bne, h3]; rfl
        have e1 := HW.out.a (by simp)
        subst e1
        go_wp2_with fail
        go_ret
        exact ⟨rfl, bY⟩
      · have z3 : (bk != bk') = false := by rw [bne, h3]; rfl
        cases B4
        · have z4 : (en != en') = true := by rw [bne, h4]; rfl
          have e1 := HW.out.a (by simp)
          subst e1
          go_wp2_with fail
          go_ret
          exact ⟨rfl, bY⟩
        · have z4 : (en != en') = false := by rw [bne, h4]; rfl
          cases B5
          · have z5 : ((n : Int) != (m : Int)) = true := by rw [bne, h5]; rfl
            have e1 := HW.out.a (by simp)
            subst e1
            go_wp2_with fail
            go_ret
            exact ⟨rfl, bY⟩
          · have z5 : ((n : Int) != (m : Int)) = false := by rw [bne, h5]; rfl
            have hlen : n = m := by have := beq_iff_eq.1 h5; omega
            have e1 := HW.out.b rfl rfl rfl rfl
            subst e1 hlen
            have HB : Hid (∀ i, i < n → sameE (es.getD i ent0) (fs.getD i ent0) = false → R = false) := Lib.hid (fun i hi h => by rw [← hSX]; exact sameEs_bad (by omega) h)
            have HG : Hid ((∀ i, i < n → sameE (es.getD i ent0) (fs.getD i ent0) = true) → R = true) := Lib.hid (fun h => by rw [← hSX]; exact sameEs_good (by omega) (by rw [hn]; exact h))
            have HN := Lib.hid hn; have HM := Lib.hid hm; have HEN := Lib.hid hE; have HFN := Lib.hid hF
            have hn5 := hE.len
            rw [hn] at hn5
            unfold maxLen at hn5
            go_wp2_with fail
            clear k0 k1 k2 k3 k4 kl l0 l1 l2 l3 l4 ll z1 z2 z3 z4 z5 h1 h2 h3 h4 h5 hE hF hn hm hSX
            go_loopw [5] (fun v wr => ∃ k : Nat, k ≤ n ∧ v = .int .i64 k ∧ Hid (∀ i, i < k → sameE (es.getD i ent0) (fs.getD i ent0) = true) ∧ Below W.heap.size W wr) (fun v _ => n - (intOf v).toNat)
            case atStart => exact ⟨0, Nat.zero_le _, rfl, Lib.hid (fun i hi => by omega), Below.refl _ _⟩
            case round =>
              obtain ⟨k, hk, rfl, HK, hbr0⟩ := hrel
              have FXr := FX.below hbr0 FX.lt
              have FYr := FY.below hbr0 FY.lt
              have k3 := FXr.c3; have kl := FXr.lt; have l3 := FYr.c3; have ll := FYr.lt
              have hbr := bY.trans (hbr0.mono bY.size)
              clear FXr FYr
              by_cases hk2 : k < n
              rotate_left
              · have e1 : R = true := HG.out (fun i hi => HK.out i (by omega))
                have kD : decide ((k : Int) < (n : Int)) = false := by simp; omega
                have kD2 : decide (k < n) = false := by simp; omega
                subst e1
                go_wp2_with fail
                go_ret
                exact ⟨rfl, hbr⟩
              · have hEW := HEN.out.below hbr (Nat.le_refl _)
                obtain ⟨b, off, cap1, hv, hlt, -, -⟩ := hEW.spot (by rw [HN.out]; omega)
                simp only [Value.slice.injEq] at hv
                obtain ⟨rfl, -, rfl⟩ := hv
                obtain ⟨c0, c1, c2, c3, c4, c5, c6⟩ := hEW.cells k (by rw [HN.out]; exact hk2)
                have hFW := HFN.out.below hbr (Nat.le_refl _)
                obtain ⟨b', off', cap2, hv, hlt', -, -⟩ := hFW.spot (by rw [HM.out]; omega)
                simp only [Value.slice.injEq] at hv
                obtain ⟨rfl, -, rfl⟩ := hv
                obtain ⟨f0, f1, f2, f3, f4, f5, f6⟩ := hFW.cells k (by rw [HM.out]; exact hk2)
                have hsx := hEW.strs k (by rw [HN.out]; exact hk2)
                have hsy := hFW.strs k (by rw [HM.out]; exact hk2)
                obtain ⟨x, hx⟩ : ∃ x, es.getD k ent0 = x := ⟨_, rfl⟩
                obtain ⟨y, hy⟩ : ∃ y, fs.getD k ent0 = y := ⟨_, rfl⟩
                rw [hx] at hsx c0 c1 c2 c3 c4 c5
                rw [hy] at hsy f0 f1 f2 f3 f4 f5
                obtain ⟨ax, cx, hux⟩ := hsx.parts
                obtain ⟨ay, cy, huy⟩ := hsy.parts
                rw [hux] at hsx c6
                rw [huy] at hsy f6
                have kI : (k : Int) < (n : Int) := by omega
                have hwI : IntKind.i64.wrap ((k : Int) + 1) = (k : Int) + 1 := IntWalk.i64_in _ ⟨by omega, by omega⟩
                obtain ⟨D, hD⟩ : ∃ D, sameE x y = D := ⟨_, rfl⟩
                have HBD : Hid (D = false → R = false) := Lib.hid (fun h => HB.out k hk2 (by rw [hx, hy, hD]; exact h))
                have HN2 : Hid (D = true → ∀ i, i < k + 1 → sameE (es.getD i ent0) (fs.getD i ent0) = true) := Lib.hid (fun h i hi => by
                  by_cases e : i = k
                  · subst e; rw [hx, hy, hD]; exact h
                  · exact HK.out i (by omega))
                have HS : Hid (∀ W, Below wr.heap.size wr W → Calls Try.prog 33 #[.agg #[.string x.uri, .int .i64 x.mi, .bool x.br, .int .i64 x.da, .string x.key, .bool x.gap, .slice ax x.ex.length cx], .agg #[.string y.uri, .int .i64 y.mi, .bool y.br, .int .i64 y.da, .string y.key, .bool y.gap, .slice ay y.ex.length cy]] W fun e w' => e = .returned (.bool D) ∧ Below W.heap.size W w') := Lib.hid (fun W hb => by rw [← hD]; exact rSameE_any x y _ _ W (hsx.below hb (Nat.le_refl _)) (hsy.below hb (Nat.le_refl _)))
                clear hx hy hEW hFW hsx hsy hux huy hD
                go_upto_region 6 with fail
                go_cut [59] (fun s59 wx => s59 = .bool (!D) ∧ Below wr.heap.size wr wx)
                case first =>
                  refine wp_region_noPanic ?_
                  refine wp_region_held_drew (S := fun w' => Below wr.heap.size wr w') (by kernel_rfl) ?hS0 (fun hHeld => ?_)
                  case hS0 => exact (Below.refl _ wr).drew
                  have hS : Below wr.heap.size wr wr.drew := (Below.refl _ wr).drew
                  clear hHeld
                  generalize wr.drew = wd at *
                  refine wpAnyH_take (i := 0) (v := ?_) rfl (by kernel_rfl) (by kernel_rfl) (by kernel_rfl) (fun _ _ _ h => h) (Or.inl ⟨by kernel_rfl, ?hy⟩) (by assumption) ?_
                  case hy => (intro wq hSw; have q3 := (hSw.cell (p := ⟨w.heap.size, 3, none⟩) kl).trans k3; have p3 := (hSw.cell (p := ⟨w.heap.size + 1, 3, none⟩) ll).trans l3; have u0 := (hSw.cell (p := ⟨b, off + k * 7, none⟩) hlt).trans c0; have u1 := (hSw.cell (p := ⟨b, off + k * 7 + 1, none⟩) hlt).trans c1; have u2 := (hSw.cell (p := ⟨b, off + k * 7 + 2, none⟩) hlt).trans c2; have u3 := (hSw.cell (p := ⟨b, off + k * 7 + 3, none⟩) hlt).trans c3; have u4 := (hSw.cell (p := ⟨b, off + k * 7 + 4, none⟩) hlt).trans c4; have u5 := (hSw.cell (p := ⟨b, off + k * 7 + 5, none⟩) hlt).trans c5; have u6 := (hSw.cell (p := ⟨b, off + k * 7 + 6, none⟩) hlt).trans c6; have t0 := (hSw.cell (p := ⟨b', off' + k * 7, none⟩) hlt').trans f0; have t1 := (hSw.cell (p := ⟨b', off' + k * 7 + 1, none⟩) hlt').trans f1; have t2 := (hSw.cell (p := ⟨b', off' + k * 7 + 2, none⟩) hlt').trans f2; have t3 := (hSw.cell (p := ⟨b', off' + k * 7 + 3, none⟩) hlt').trans f3; have t4 := (hSw.cell (p := ⟨b', off' + k * 7 + 4, none⟩) hlt').trans f4; have t5 := (hSw.cell (p := ⟨b', off' + k * 7 + 5, none⟩) hlt').trans f5; have t6 := (hSw.cell (p := ⟨b', off' + k * 7 + 6, none⟩) hlt').trans f6; have s1 := Nat.lt_of_lt_of_le kl hSw.size; have s2 := Nat.lt_of_lt_of_le ll hSw.size; have s3 := Nat.lt_of_lt_of_le hlt hSw.size; have s4 := Nat.lt_of_lt_of_le hlt' hSw.size; go_simp; try (with_reducible rfl))
                  try simp only [Act.put, List.setIfInBounds_toArray, List.set_cons_zero, List.set_cons_succ]
                  refine wpAnyH_take (i := 1) (v := ?_) rfl (by kernel_rfl) (by kernel_rfl) (by kernel_rfl) (fun _ _ _ h => h) (Or.inl ⟨by kernel_rfl, ?hy⟩) (by assumption) ?_
                  case hy => (intro wq hSw; have q3 := (hSw.cell (p := ⟨w.heap.size, 3, none⟩) kl).trans k3; have p3 := (hSw.cell (p := ⟨w.heap.size + 1, 3, none⟩) ll).trans l3; have u0 := (hSw.cell (p := ⟨b, off + k * 7, none⟩) hlt).trans c0; have u1 := (hSw.cell (p := ⟨b, off + k * 7 + 1, none⟩) hlt).trans c1; have u2 := (hSw.cell (p := ⟨b, off + k * 7 + 2, none⟩) hlt).trans c2; have u3 := (hSw.cell (p := ⟨b, off + k * 7 + 3, none⟩) hlt).trans c3; have u4 := (hSw.cell (p := ⟨b, off + k * 7 + 4, none⟩) hlt).trans c4; have u5 := (hSw.cell (p := ⟨b, off + k * 7 + 5, none⟩) hlt).trans c5; have u6 := (hSw.cell (p := ⟨b, off + k * 7 + 6, none⟩) hlt).trans c6; have t0 := (hSw.cell (p := ⟨b', off' + k * 7, none⟩) hlt').trans f0; have t1 := (hSw.cell (p := ⟨b', off' + k * 7 + 1, none⟩) hlt').trans f1; have t2 := (hSw.cell (p := ⟨b', off' + k * 7 + 2, none⟩) hlt').trans f2; have t3 := (hSw.cell (p := ⟨b', off' + k * 7 + 3, none⟩) hlt').trans f3; have t4 := (hSw.cell (p := ⟨b', off' + k * 7 + 4, none⟩) hlt').trans f4; have t5 := (hSw.cell (p := ⟨b', off' + k * 7 + 5, none⟩) hlt').trans f5; have t6 := (hSw.cell (p := ⟨b', off' + k * 7 + 6, none⟩) hlt').trans f6; have s1 := Nat.lt_of_lt_of_le kl hSw.size; have s2 := Nat.lt_of_lt_of_le ll hSw.size; have s3 := Nat.lt_of_lt_of_le hlt hSw.size; have s4 := Nat.lt_of_lt_of_le hlt' hSw.size; go_simp; try (with_reducible rfl))
                  try simp only [Act.put, List.setIfInBounds_toArray, List.set_cons_zero, List.set_cons_succ]
                  refine wpAnyH_take (i := 2) (v := ?_) rfl (by kernel_rfl) (by kernel_rfl) (by kernel_rfl) (fun _ _ _ h => h) (Or.inl ⟨by kernel_rfl, ?hy⟩) (by assumption) ?_
                  case hy => (intro wq hSw; have q3 := (hSw.cell (p := ⟨w.heap.size, 3, none⟩) kl).trans k3; have p3 := (hSw.cell (p := ⟨w.heap.size + 1, 3, none⟩) ll).trans l3; have u0 := (hSw.cell (p := ⟨b, off + k * 7, none⟩) hlt).trans c0; have u1 := (hSw.cell (p := ⟨b, off + k * 7 + 1, none⟩) hlt).trans c1; have u2 := (hSw.cell (p := ⟨b, off + k * 7 + 2, none⟩) hlt).trans c2; have u3 := (hSw.cell (p := ⟨b, off + k * 7 + 3, none⟩) hlt).trans c3; have u4 := (hSw.cell (p := ⟨b, off + k * 7 + 4, none⟩) hlt).trans c4; have u5 := (hSw.cell (p := ⟨b, off + k * 7 + 5, none⟩) hlt).trans c5; have u6 := (hSw.cell (p := ⟨b, off + k * 7 + 6, none⟩) hlt).trans c6; have t0 := (hSw.cell (p := ⟨b', off' + k * 7, none⟩) hlt').trans f0; have t1 := (hSw.cell (p := ⟨b', off' + k * 7 + 1, none⟩) hlt').trans f1; have t2 := (hSw.cell (p := ⟨b', off' + k * 7 + 2, none⟩) hlt').trans f2; have t3 := (hSw.cell (p := ⟨b', off' + k * 7 + 3, none⟩) hlt').trans f3; have t4 := (hSw.cell (p := ⟨b', off' + k * 7 + 4, none⟩) hlt').trans f4; have t5 := (hSw.cell (p := ⟨b', off' + k * 7 + 5, none⟩) hlt').trans f5; have t6 := (hSw.cell (p := ⟨b', off' + k * 7 + 6, none⟩) hlt').trans f6; have s1 := Nat.lt_of_lt_of_le kl hSw.size; have s2 := Nat.lt_of_lt_of_le ll hSw.size; have s3 := Nat.lt_of_lt_of_le hlt hSw.size; have s4 := Nat.lt_of_lt_of_le hlt' hSw.size; go_simp; try (with_reducible rfl))
                  try simp only [Act.put, List.setIfInBounds_toArray, List.set_cons_zero, List.set_cons_succ]
                  refine wpAnyH_take (i := 3) (v := ?_) rfl (by kernel_rfl) (by kernel_rfl) (by kernel_rfl) (fun _ _ _ h => h) (Or.inl ⟨by kernel_rfl, ?hy⟩) (by assumption) ?_
                  case hy => (intro wq hSw; have q3 := (hSw.cell (p := ⟨w.heap.size, 3, none⟩) kl).trans k3; have p3 := (hSw.cell (p := ⟨w.heap.size + 1, 3, none⟩) ll).trans l3; have u0 := (hSw.cell (p := ⟨b, off + k * 7, none⟩) hlt).trans c0; have u1 := (hSw.cell (p := ⟨b, off + k * 7 + 1, none⟩) hlt).trans c1; have u2 := (hSw.cell (p := ⟨b, off + k * 7 + 2, none⟩) hlt).trans c2; have u3 := (hSw.cell (p := ⟨b, off + k * 7 + 3, none⟩) hlt).trans c3; have u4 := (hSw.cell (p := ⟨b, off + k * 7 + 4, none⟩) hlt).trans c4; have u5 := (hSw.cell (p := ⟨b, off + k * 7 + 5, none⟩) hlt).trans c5; have u6 := (hSw.cell (p := ⟨b, off + k * 7 + 6, none⟩) hlt).trans c6; have t0 := (hSw.cell (p := ⟨b', off' + k * 7, none⟩) hlt').trans f0; have t1 := (hSw.cell (p := ⟨b', off' + k * 7 + 1, none⟩) hlt').trans f1; have t2 := (hSw.cell (p := ⟨b', off' + k * 7 + 2, none⟩) hlt').trans f2; have t3 := (hSw.cell (p := ⟨b', off' + k * 7 + 3, none⟩) hlt').trans f3; have t4 := (hSw.cell (p := ⟨b', off' + k * 7 + 4, none⟩) hlt').trans f4; have t5 := (hSw.cell (p := ⟨b', off' + k * 7 + 5, none⟩) hlt').trans f5; have t6 := (hSw.cell (p := ⟨b', off' + k * 7 + 6, none⟩) hlt').trans f6; have s1 := Nat.lt_of_lt_of_le kl hSw.size; have s2 := Nat.lt_of_lt_of_le ll hSw.size; have s3 := Nat.lt_of_lt_of_le hlt hSw.size; have s4 := Nat.lt_of_lt_of_le hlt' hSw.size; go_simp; try (with_reducible rfl))
                  try simp only [Act.put, List.setIfInBounds_toArray, List.set_cons_zero, List.set_cons_succ]
                  refine wpAnyH_take (i := 4) (v := ?_) rfl (by kernel_rfl) (by kernel_rfl) (by kernel_rfl) (fun _ _ _ h => h) (Or.inl ⟨by kernel_rfl, ?hy⟩) (by assumption) ?_
                  case hy => (intro wq hSw; have q3 := (hSw.cell (p := ⟨w.heap.size, 3, none⟩) kl).trans k3; have p3 := (hSw.cell (p := ⟨w.heap.size + 1, 3, none⟩) ll).trans l3; have u0 := (hSw.cell (p := ⟨b, off + k * 7, none⟩) hlt).trans c0; have u1 := (hSw.cell (p := ⟨b, off + k * 7 + 1, none⟩) hlt).trans c1; have u2 := (hSw.cell (p := ⟨b, off + k * 7 + 2, none⟩) hlt).trans c2; have u3 := (hSw.cell (p := ⟨b, off + k * 7 + 3, none⟩) hlt).trans c3; have u4 := (hSw.cell (p := ⟨b, off + k * 7 + 4, none⟩) hlt).trans c4; have u5 := (hSw.cell (p := ⟨b, off + k * 7 + 5, none⟩) hlt).trans c5; have u6 := (hSw.cell (p := ⟨b, off + k * 7 + 6, none⟩) hlt).trans c6; have t0 := (hSw.cell (p := ⟨b', off' + k * 7, none⟩) hlt').trans f0; have t1 := (hSw.cell (p := ⟨b', off' + k * 7 + 1, none⟩) hlt').trans f1; have t2 := (hSw.cell (p := ⟨b', off' + k * 7 + 2, none⟩) hlt').trans f2; have t3 := (hSw.cell (p := ⟨b', off' + k * 7 + 3, none⟩) hlt').trans f3; have t4 := (hSw.cell (p := ⟨b', off' + k * 7 + 4, none⟩) hlt').trans f4; have t5 := (hSw.cell (p := ⟨b', off' + k * 7 + 5, none⟩) hlt').trans f5; have t6 := (hSw.cell (p := ⟨b', off' + k * 7 + 6, none⟩) hlt').trans f6; have s1 := Nat.lt_of_lt_of_le kl hSw.size; have s2 := Nat.lt_of_lt_of_le ll hSw.size; have s3 := Nat.lt_of_lt_of_le hlt hSw.size; have s4 := Nat.lt_of_lt_of_le hlt' hSw.size; go_simp; try (with_reducible rfl))
                  try simp only [Act.put, List.setIfInBounds_toArray, List.set_cons_zero, List.set_cons_succ]
                  refine wpAnyH_take (i := 5) (v := ?_) rfl (by kernel_rfl) (by kernel_rfl) (by kernel_rfl) (fun _ _ _ h => h) (Or.inl ⟨by kernel_rfl, ?hy⟩) (by assumption) ?_
                  case hy => (intro wq hSw; have q3 := (hSw.cell (p := ⟨w.heap.size, 3, none⟩) kl).trans k3; have p3 := (hSw.cell (p := ⟨w.heap.size + 1, 3, none⟩) ll).trans l3; have u0 := (hSw.cell (p := ⟨b, off + k * 7, none⟩) hlt).trans c0; have u1 := (hSw.cell (p := ⟨b, off + k * 7 + 1, none⟩) hlt).trans c1; have u2 := (hSw.cell (p := ⟨b, off + k * 7 + 2, none⟩) hlt).trans c2; have u3 := (hSw.cell (p := ⟨b, off + k * 7 + 3, none⟩) hlt).trans c3; have u4 := (hSw.cell (p := ⟨b, off + k * 7 + 4, none⟩) hlt).trans c4; have u5 := (hSw.cell (p := ⟨b, off + k * 7 + 5, none⟩) hlt).trans c5; have u6 := (hSw.cell (p := ⟨b, off + k * 7 + 6, none⟩) hlt).trans c6; have t0 := (hSw.cell (p := ⟨b', off' + k * 7, none⟩) hlt').trans f0; have t1 := (hSw.cell (p := ⟨b', off' + k * 7 + 1, none⟩) hlt').trans f1; have t2 := (hSw.cell (p := ⟨b', off' + k * 7 + 2, none⟩) hlt').trans f2; have t3 := (hSw.cell (p := ⟨b', off' + k * 7 + 3, none⟩) hlt').trans f3; have t4 := (hSw.cell (p := ⟨b', off' + k * 7 + 4, none⟩) hlt').trans f4; have t5 := (hSw.cell (p := ⟨b', off' + k * 7 + 5, none⟩) hlt').trans f5; have t6 := (hSw.cell (p := ⟨b', off' + k * 7 + 6, none⟩) hlt').trans f6; have s1 := Nat.lt_of_lt_of_le kl hSw.size; have s2 := Nat.lt_of_lt_of_le ll hSw.size; have s3 := Nat.lt_of_lt_of_le hlt hSw.size; have s4 := Nat.lt_of_lt_of_le hlt' hSw.size; go_simp; try (with_reducible rfl))
                  try simp only [Act.put, List.setIfInBounds_toArray, List.set_cons_zero, List.set_cons_succ]
                  refine wpAnyH_take (i := 6) (v := ?_) rfl (by kernel_rfl) (by kernel_rfl) (by kernel_rfl) (fun _ _ _ h => h) (Or.inl ⟨by kernel_rfl, ?hy⟩) (by assumption) ?_
                  case hy => (intro wq hSw; have q3 := (hSw.cell (p := ⟨w.heap.size, 3, none⟩) kl).trans k3; have p3 := (hSw.cell (p := ⟨w.heap.size + 1, 3, none⟩) ll).trans l3; have u0 := (hSw.cell (p := ⟨b, off + k * 7, none⟩) hlt).trans c0; have u1 := (hSw.cell (p := ⟨b, off + k * 7 + 1, none⟩) hlt).trans c1; have u2 := (hSw.cell (p := ⟨b, off + k * 7 + 2, none⟩) hlt).trans c2; have u3 := (hSw.cell (p := ⟨b, off + k * 7 + 3, none⟩) hlt).trans c3; have u4 := (hSw.cell (p := ⟨b, off + k * 7 + 4, none⟩) hlt).trans c4; have u5 := (hSw.cell (p := ⟨b, off + k * 7 + 5, none⟩) hlt).trans c5; have u6 := (hSw.cell (p := ⟨b, off + k * 7 + 6, none⟩) hlt).trans c6; have t0 := (hSw.cell (p := ⟨b', off' + k * 7, none⟩) hlt').trans f0; have t1 := (hSw.cell (p := ⟨b', off' + k * 7 + 1, none⟩) hlt').trans f1; have t2 := (hSw.cell (p := ⟨b', off' + k * 7 + 2, none⟩) hlt').trans f2; have t3 := (hSw.cell (p := ⟨b', off' + k * 7 + 3, none⟩) hlt').trans f3; have t4 := (hSw.cell (p := ⟨b', off' + k * 7 + 4, none⟩) hlt').trans f4; have t5 := (hSw.cell (p := ⟨b', off' + k * 7 + 5, none⟩) hlt').trans f5; have t6 := (hSw.cell (p := ⟨b', off' + k * 7 + 6, none⟩) hlt').trans f6; have s1 := Nat.lt_of_lt_of_le kl hSw.size; have s2 := Nat.lt_of_lt_of_le ll hSw.size; have s3 := Nat.lt_of_lt_of_le hlt hSw.size; have s4 := Nat.lt_of_lt_of_le hlt' hSw.size; go_simp; try (with_reducible rfl))
                  try simp only [Act.put, List.setIfInBounds_toArray, List.set_cons_zero, List.set_cons_succ]
                  refine wpAnyH_take (i := 7) (v := ?_) rfl (by kernel_rfl) (by kernel_rfl) (by kernel_rfl) (fun _ _ _ h => h) (Or.inl ⟨by kernel_rfl, ?hy⟩) (by assumption) ?_
                  case hy => (intro wq hSw; have q3 := (hSw.cell (p := ⟨w.heap.size, 3, none⟩) kl).trans k3; have p3 := (hSw.cell (p := ⟨w.heap.size + 1, 3, none⟩) ll).trans l3; have u0 := (hSw.cell (p := ⟨b, off + k * 7, none⟩) hlt).trans c0; have u1 := (hSw.cell (p := ⟨b, off + k * 7 + 1, none⟩) hlt).trans c1; have u2 := (hSw.cell (p := ⟨b, off + k * 7 + 2, none⟩) hlt).trans c2; have u3 := (hSw.cell (p := ⟨b, off + k * 7 + 3, none⟩) hlt).trans c3; have u4 := (hSw.cell (p := ⟨b, off + k * 7 + 4, none⟩) hlt).trans c4; have u5 := (hSw.cell (p := ⟨b, off + k * 7 + 5, none⟩) hlt).trans c5; have u6 := (hSw.cell (p := ⟨b, off + k * 7 + 6, none⟩) hlt).trans c6; have t0 := (hSw.cell (p := ⟨b', off' + k * 7, none⟩) hlt').trans f0; have t1 := (hSw.cell (p := ⟨b', off' + k * 7 + 1, none⟩) hlt').trans f1; have t2 := (hSw.cell (p := ⟨b', off' + k * 7 + 2, none⟩) hlt').trans f2; have t3 := (hSw.cell (p := ⟨b', off' + k * 7 + 3, none⟩) hlt').trans f3; have t4 := (hSw.cell (p := ⟨b', off' + k * 7 + 4, none⟩) hlt').trans f4; have t5 := (hSw.cell (p := ⟨b', off' + k * 7 + 5, none⟩) hlt').trans f5; have t6 := (hSw.cell (p := ⟨b', off' + k * 7 + 6, none⟩) hlt').trans f6; have s1 := Nat.lt_of_lt_of_le kl hSw.size; have s2 := Nat.lt_of_lt_of_le ll hSw.size; have s3 := Nat.lt_of_lt_of_le hlt hSw.size; have s4 := Nat.lt_of_lt_of_le hlt' hSw.size; go_simp; try (with_reducible rfl))
                  try simp only [Act.put, List.setIfInBounds_toArray, List.set_cons_zero, List.set_cons_succ]
                  refine wpAnyH_take (i := 8) (v := ?_) rfl (by kernel_rfl) (by kernel_rfl) (by kernel_rfl) (fun _ _ _ h => h) (Or.inl ⟨by kernel_rfl, ?hy⟩) (by assumption) ?_
                  case hy => (intro wq hSw; have q3 := (hSw.cell (p := ⟨w.heap.size, 3, none⟩) kl).trans k3; have p3 := (hSw.cell (p := ⟨w.heap.size + 1, 3, none⟩) ll).trans l3; have u0 := (hSw.cell (p := ⟨b, off + k * 7, none⟩) hlt).trans c0; have u1 := (hSw.cell (p := ⟨b, off + k * 7 + 1, none⟩) hlt).trans c1; have u2 := (hSw.cell (p := ⟨b, off + k * 7 + 2, none⟩) hlt).trans c2; have u3 := (hSw.cell (p := ⟨b, off + k * 7 + 3, none⟩) hlt).trans c3; have u4 := (hSw.cell (p := ⟨b, off + k * 7 + 4, none⟩) hlt).trans c4; have u5 := (hSw.cell (p := ⟨b, off + k * 7 + 5, none⟩) hlt).trans c5; have u6 := (hSw.cell (p := ⟨b, off + k * 7 + 6, none⟩) hlt).trans c6; have t0 := (hSw.cell (p := ⟨b', off' + k * 7, none⟩) hlt').trans f0; have t1 := (hSw.cell (p := ⟨b', off' + k * 7 + 1, none⟩) hlt').trans f1; have t2 := (hSw.cell (p := ⟨b', off' + k * 7 + 2, none⟩) hlt').trans f2; have t3 := (hSw.cell (p := ⟨b', off' + k * 7 + 3, none⟩) hlt').trans f3; have t4 := (hSw.cell (p := ⟨b', off' + k * 7 + 4, none⟩) hlt').trans f4; have t5 := (hSw.cell (p := ⟨b', off' + k * 7 + 5, none⟩) hlt').trans f5; have t6 := (hSw.cell (p := ⟨b', off' + k * 7 + 6, none⟩) hlt').trans f6; have s1 := Nat.lt_of_lt_of_le kl hSw.size; have s2 := Nat.lt_of_lt_of_le ll hSw.size; have s3 := Nat.lt_of_lt_of_le hlt hSw.size; have s4 := Nat.lt_of_lt_of_le hlt' hSw.size; go_simp; try (with_reducible rfl))
                  try simp only [Act.put, List.setIfInBounds_toArray, List.set_cons_zero, List.set_cons_succ]
                  refine wpAnyH_take (i := 9) (v := ?_) rfl (by kernel_rfl) (by kernel_rfl) (by kernel_rfl) (fun _ _ _ h => h) (Or.inl ⟨by kernel_rfl, ?hy⟩) (by assumption) ?_
                  case hy => (intro wq hSw; have q3 := (hSw.cell (p := ⟨w.heap.size, 3, none⟩) kl).trans k3; have p3 := (hSw.cell (p := ⟨w.heap.size + 1, 3, none⟩) ll).trans l3; have u0 := (hSw.cell (p := ⟨b, off + k * 7, none⟩) hlt).trans c0; have u1 := (hSw.cell (p := ⟨b, off + k * 7 + 1, none⟩) hlt).trans c1; have u2 := (hSw.cell (p := ⟨b, off + k * 7 + 2, none⟩) hlt).trans c2; have u3 := (hSw.cell (p := ⟨b, off + k * 7 + 3, none⟩) hlt).trans c3; have u4 := (hSw.cell (p := ⟨b, off + k * 7 + 4, none⟩) hlt).trans c4; have u5 := (hSw.cell (p := ⟨b, off + k * 7 + 5, none⟩) hlt).trans c5; have u6 := (hSw.cell (p := ⟨b, off + k * 7 + 6, none⟩) hlt).trans c6; have t0 := (hSw.cell (p := ⟨b', off' + k * 7, none⟩) hlt').trans f0; have t1 := (hSw.cell (p := ⟨b', off' + k * 7 + 1, none⟩) hlt').trans f1; have t2 := (hSw.cell (p := ⟨b', off' + k * 7 + 2, none⟩) hlt').trans f2; have t3 := (hSw.cell (p := ⟨b', off' + k * 7 + 3, none⟩) hlt').trans f3; have t4 := (hSw.cell (p := ⟨b', off' + k * 7 + 4, none⟩) hlt').trans f4; have t5 := (hSw.cell (p := ⟨b', off' + k * 7 + 5, none⟩) hlt').trans f5; have t6 := (hSw.cell (p := ⟨b', off' + k * 7 + 6, none⟩) hlt').trans f6; have s1 := Nat.lt_of_lt_of_le kl hSw.size; have s2 := Nat.lt_of_lt_of_le ll hSw.size; have s3 := Nat.lt_of_lt_of_le hlt hSw.size; have s4 := Nat.lt_of_lt_of_le hlt' hSw.size; go_simp; try (with_reducible rfl))
                  try simp only [Act.put, List.setIfInBounds_toArray, List.set_cons_zero, List.set_cons_succ]
                  refine wpAnyH_ready (rs := [10]) (by kernel_rfl) (by simp) ?_
                  refine AllReadyH.cons rfl (fun K hK => ?_) AllReadyH.nil
                  go_simp
                  refine (HS.out _ hS).mono ?_; rintro e w5 ⟨rfl, b3⟩; have hS : Below wr.heap.size wr w5 := hS.trans (b3.mono hS.size)
                  refine hK.out _ _ hS (fun hHeld => ?_)
                  clear hK K hHeld
                  try simp only [Act.put, List.setIfInBounds_toArray, List.set_cons_zero, List.set_cons_succ]
                  refine wpAnyH_take (i := 11) (v := ?_) rfl (by kernel_rfl) (by kernel_rfl) (by kernel_rfl) (fun _ _ _ h => h) (Or.inl ⟨by kernel_rfl, ?hy⟩) (by assumption) ?_
                  case hy => (intro wq hSw; have q3 := (hSw.cell (p := ⟨w.heap.size, 3, none⟩) kl).trans k3; have p3 := (hSw.cell (p := ⟨w.heap.size + 1, 3, none⟩) ll).trans l3; have u0 := (hSw.cell (p := ⟨b, off + k * 7, none⟩) hlt).trans c0; have u1 := (hSw.cell (p := ⟨b, off + k * 7 + 1, none⟩) hlt).trans c1; have u2 := (hSw.cell (p := ⟨b, off + k * 7 + 2, none⟩) hlt).trans c2; have u3 := (hSw.cell (p := ⟨b, off + k * 7 + 3, none⟩) hlt).trans c3; have u4 := (hSw.cell (p := ⟨b, off + k * 7 + 4, none⟩) hlt).trans c4; have u5 := (hSw.cell (p := ⟨b, off + k * 7 + 5, none⟩) hlt).trans c5; have u6 := (hSw.cell (p := ⟨b, off + k * 7 + 6, none⟩) hlt).trans c6; have t0 := (hSw.cell (p := ⟨b', off' + k * 7, none⟩) hlt').trans f0; have t1 := (hSw.cell (p := ⟨b', off' + k * 7 + 1, none⟩) hlt').trans f1; have t2 := (hSw.cell (p := ⟨b', off' + k * 7 + 2, none⟩) hlt').trans f2; have t3 := (hSw.cell (p := ⟨b', off' + k * 7 + 3, none⟩) hlt').trans f3; have t4 := (hSw.cell (p := ⟨b', off' + k * 7 + 4, none⟩) hlt').trans f4; have t5 := (hSw.cell (p := ⟨b', off' + k * 7 + 5, none⟩) hlt').trans f5; have t6 := (hSw.cell (p := ⟨b', off' + k * 7 + 6, none⟩) hlt').trans f6; have s1 := Nat.lt_of_lt_of_le kl hSw.size; have s2 := Nat.lt_of_lt_of_le ll hSw.size; have s3 := Nat.lt_of_lt_of_le hlt hSw.size; have s4 := Nat.lt_of_lt_of_le hlt' hSw.size; go_simp; try (with_reducible rfl))
                  try simp only [Act.put, List.setIfInBounds_toArray, List.set_cons_zero, List.set_cons_succ]
                  refine wpAnyH_done (by kernel_rfl) ?_ _
                  refine NoPanic.normal ?_
                  try go_simp
                  go_wp2_with fail
                  go_meet
                  exact ⟨rfl, hS⟩
                case rest =>
                  obtain ⟨rfl, bx⟩ := hcut
                  have hbn0 := hbr0.trans (bx.mono hbr0.size)
                  have hbn := hbr.trans (bx.mono hbr.size)
                  clear c0 c1 c2 c3 c4 c5 c6 f0 f1 f2 f3 f4 f5 f6 bx
                  cases D
                  · have e1 := HBD.out rfl
                    subst e1
                    go_wp2_with fail
                    go_ret
                    exact ⟨rfl, hbn⟩
                  · have HN3 := Lib.hid (HN2.out rfl)
                    go_wp2_with fail
                    go_roundw
                    case rel => exact ⟨k + 1, by omega, by go_num, HN3, hbn0⟩
                    case measure => simp [intOf]; omega
set_option maxRecDepth 100000 in
set_option maxHeartbeats 8000000 in
theorem rbreaks_any (tg fi bk : Int) (a : Option Addr) (n cap : Nat) (en : Bool) (es : List Ent) (Us : Nat → Value) (i : Int) (e : Nat) (w : World) (hE : EntsU w (.slice a n cap) es Us) (hn : es.length = n) (hn5 : n ≤ 1000) (hbk : 0 ≤ bk ∧ bk ≤ 1000000000000000) (hi : i = (e : Int) - 1) (he : e ≤ n) :
    Calls Try.prog 71 #[.agg #[.int .i64 tg, .int .i64 fi, .int .i64 bk, .slice a n cap, .bool en], .int .i64 i] w fun r w' => r = .returned (.int .i64 (bkTo bk es e)) ∧ Below w.heap.size w w' := by
  have FX := LBox.new w tg fi bk (.slice a n cap) en 24
  have b1 : Below w.heap.size w (w.alloc (.cells #[.int .i64 tg, .int .i64 fi, .int .i64 bk, .slice a n cap, .bool en] 24)) := (Below.refl _ w).alloc (Nat.le_refl _) _
  have HN := Lib.hid hn; have HEN := Lib.hid hE
  have HBD : Hid (∀ k, bk ≤ bkTo bk es k ∧ bkTo bk es k ≤ bk + k) := Lib.hid (bkTo_bd bk es)
  obtain ⟨hbk0, hbk1⟩ := hbk
  have HI := Lib.hid hi
  obtain ⟨BE, hBE⟩ : ∃ BE, bkTo bk es e = BE := ⟨_, rfl⟩
  rw [hBE]
  have HBE := Lib.hid hBE
  clear hE hn hBE hi
  go_enter Try.func71, Try.ntmps71
  go_upto_region 1 with fail
  generalize w.alloc (.cells #[.int .i64 tg, .int .i64 fi, .int .i64 bk, .slice a n cap, .bool en] 24) = W at *
  have k2 := FX.c2; have kl := FX.lt
  go_wp2_with fail
  clear k2 kl
  go_loopw [5, 6] (fun v5 v6 wr => ∃ k : Nat, k ≤ e ∧ v6 = .int .i64 k ∧ v5 = .int .i64 (bkTo bk es k) ∧ W = wr) (fun _ v6 _ => e - (intOf v6).toNat)
  case atStart => exact ⟨0, Nat.zero_le _, rfl, rfl, rfl⟩
  case round =>
    obtain ⟨k, hk, rfl, rfl, rfl⟩ := hrel
    have k3 := FX.c3; have kl := FX.lt
    by_cases hk2 : k < e
    rotate_left
    · have hke : k = e := by omega
      have e1 : BE = bkTo bk es k := by rw [hke]; exact HBE.out.symm
      have kD : decide ((k : Int) ≤ i) = false := by have := HI.out; simp; omega
      subst e1
      clear hke HBE
      go_wp2_with fail
      go_ret
      exact ⟨rfl, b1⟩
    · have hkn : k < n := by omega
      have hEW := HEN.out.below b1 (Nat.le_refl _)
      obtain ⟨b, off, cap', hv, hlt, -, -⟩ := hEW.spot (by rw [HN.out]; omega)
      simp only [Value.slice.injEq] at hv
      obtain ⟨rfl, -, rfl⟩ := hv
      obtain ⟨-, -, c2, -, -, -, -⟩ := hEW.cells k (by rw [HN.out]; exact hkn)
      have kD : decide ((k : Int) ≤ i) = true := by have := HI.out; simp; omega
      have kD3 : (k : Int) ≤ i := by have := HI.out; omega
      have kI : (k : Int) < (n : Int) := by omega
      have hbd := HBD.out k
      obtain ⟨BR, hBR⟩ : ∃ BR, (es.getD k ent0).br = BR := ⟨_, rfl⟩
      rw [hBR] at c2
      obtain ⟨N, hN⟩ : ∃ N, bkTo bk es k = N := ⟨_, rfl⟩
      have HST : Hid (bkTo bk es (k + 1) = if BR = true then N + 1 else N) := Lib.hid (by rw [bkTo, hBR, hN])
      rw [hN] at hbd ⊢
      have wN : IntKind.i64.wrap (N + 1) = N + 1 := IntWalk.i64_in _ ⟨by omega, by omega⟩
      have hwI : IntKind.i64.wrap ((k : Int) + 1) = (k : Int) + 1 := IntWalk.i64_in _ ⟨by omega, by omega⟩
      clear hEW hBR hN
      cases BR
      · have HNV : Hid (bkTo bk es (k + 1) = N) := Lib.hid (by rw [HST.out]; rfl)
        go_wp2_with fail
        go_roundw
        case rel => exact ⟨k + 1, by omega, by go_num, by rw [HNV.out], trivial⟩
        case measure => simp [intOf]; omega
      · have HNV : Hid (bkTo bk es (k + 1) = N + 1) := Lib.hid (by rw [HST.out]; rfl)
        go_wp2_with fail
        go_roundw
        case rel => exact ⟨k + 1, by omega, by go_num, by rw [HNV.out], trivial⟩
        case measure => simp [intOf]; omega

end Go.Proofs.Ytikpemmfmkdndaa
