/- What is the same (reference): SameEntry, SameList; break numbers. -/
import Derived.Test.YtikpemmfmkdndaaSame2
import Derived.Test.YtikpemmfmkdndaaBrkPlain
namespace Go.Proofs.Ytikpemmfmkdndaa
set_option linter.unusedVariables false
set_option linter.unusedSimpArgs false
open Go.RowKit Go.Shelf Go.Deep

structure EWays (B1 B2 B3 B4 B5 B6 B7 SX R : Bool) : Prop where
  a : B1 = false ∨ B2 = false ∨ B3 = false ∨ B4 = false ∨ B5 = false ∨ B6 = false ∨ B7 = false → R = false
  b : B1 = true → B2 = true → B3 = true → B4 = true → B5 = true → B6 = true → R = SX
theorem e_ways (x y : Ent) (B1 B2 B3 B4 B5 B6 B7 SX R : Bool) (h1 : (x.uri.toList == y.uri.toList) = B1) (h2 : (x.mi == y.mi) = B2) (h3 : (x.br == y.br) = B3) (h4 : (x.da == y.da) = B4) (h5 : (x.key.toList == y.key.toList) = B5) (h6 : (x.gap == y.gap) = B6) (h7 : ((x.ex.length : Int) == (y.ex.length : Int)) = B7) (hs : sameX x.ex y.ex = SX) (hR : sameE x y = R) : EWays B1 B2 B3 B4 B5 B6 B7 SX R := by
  have e : R = ((B2 && (B3 && B4)) && ((B1 && (B5 && B6)) && SX)) := by rw [← hR]; unfold sameE sEq; rw [h1, h2, h3, h4, h5, h6, hs]
  have h8 : B7 = false → SX = false := fun h => by
    rw [← hs]
    cases h9 : sameX x.ex y.ex
    · rfl
    · have := sameX_len h9
      rw [this] at h7
      rw [h] at h7
      simp at h7
  clear h1 h2 h3 h4 h5 h6 h7 hs hR
  subst e
  constructor
  · rintro (rfl | rfl | rfl | rfl | rfl | rfl | h)
    · cases B2 <;> cases B3 <;> cases B4 <;> rfl
    · rfl
    · cases B2 <;> rfl
    · cases B2 <;> cases B3 <;> rfl
    · cases B2 <;> cases B3 <;> cases B4 <;> cases B1 <;> rfl
    · cases B2 <;> cases B3 <;> cases B4 <;> cases B1 <;> cases B5 <;> rfl
    · rw [h8 h]; cases B2 <;> cases B3 <;> cases B4 <;> cases B1 <;> cases B5 <;> cases B6 <;> rfl
  · rintro rfl rfl rfl rfl rfl rfl; rfl
set_option maxRecDepth 100000 in
set_option maxHeartbeats 8000000 in
theorem rSameE_any (x y : Ent) (u v : Value) (w : World) (hx : Strs w u x.ex) (hy : Strs w v y.ex) :
    Calls Try.prog 33 #[.agg #[.string x.uri, .int .i64 x.mi, .bool x.br, .int .i64 x.da, .string x.key, .bool x.gap, u], .agg #[.string y.uri, .int .i64 y.mi, .bool y.br, .int .i64 y.da, .string y.key, .bool y.gap, v]] w fun e w' => e = .returned (.bool (sameE x y)) ∧ Below w.heap.size w w' := by
  have bX : Below w.heap.size w (w.alloc (.cells #[.string x.uri, .int .i64 x.mi, .bool x.br, .int .i64 x.da, .string x.key, .bool x.gap, u] 32)) := (Below.refl _ w).alloc (Nat.le_refl _) _
  have bY : Below w.heap.size w ((w.alloc (.cells #[.string x.uri, .int .i64 x.mi, .bool x.br, .int .i64 x.da, .string x.key, .bool x.gap, u] 32)).alloc (.cells #[.string y.uri, .int .i64 y.mi, .bool y.br, .int .i64 y.da, .string y.key, .bool y.gap, v] 32)) := bX.alloc bX.size _
  obtain ⟨ax, cx, rfl⟩ := hx.parts
  obtain ⟨ay, cy, rfl⟩ := hy.parts
  have FX := (EBox.new w x (.slice ax x.ex.length cx) 32).alloc (.cells #[.string y.uri, .int .i64 y.mi, .bool y.br, .int .i64 y.da, .string y.key, .bool y.gap, .slice ay y.ex.length cy] 32)
  have FY := EBox.new (w.alloc (.cells #[.string x.uri, .int .i64 x.mi, .bool x.br, .int .i64 x.da, .string x.key, .bool x.gap, .slice ax x.ex.length cx] 32)) y (.slice ay y.ex.length cy) 32
  have hsz : (w.alloc (.cells #[.string x.uri, .int .i64 x.mi, .bool x.br, .int .i64 x.da, .string x.key, .bool x.gap, .slice ax x.ex.length cx] 32)).heap.size = w.heap.size + 1 := by simp
  rw [hsz] at FY
  clear hsz bX
  obtain ⟨SX, hSX⟩ : ∃ SX, sameX x.ex y.ex = SX := ⟨_, rfl⟩
  obtain ⟨B1, h1⟩ : ∃ B1, (x.uri.toList == y.uri.toList) = B1 := ⟨_, rfl⟩
  obtain ⟨B2, h2⟩ : ∃ B2, (x.mi == y.mi) = B2 := ⟨_, rfl⟩
  obtain ⟨B3, h3⟩ : ∃ B3, (x.br == y.br) = B3 := ⟨_, rfl⟩
  obtain ⟨B4, h4⟩ : ∃ B4, (x.da == y.da) = B4 := ⟨_, rfl⟩
  obtain ⟨B5, h5⟩ : ∃ B5, (x.key.toList == y.key.toList) = B5 := ⟨_, rfl⟩
  obtain ⟨B6, h6⟩ : ∃ B6, (x.gap == y.gap) = B6 := ⟨_, rfl⟩
  obtain ⟨B7, h7⟩ : ∃ B7, ((x.ex.length : Int) == (y.ex.length : Int)) = B7 := ⟨_, rfl⟩
  obtain ⟨R, hR⟩ : ∃ R, sameE x y = R := ⟨_, rfl⟩
  have HW := Lib.hid (e_ways x y B1 B2 B3 B4 B5 B6 B7 SX R h1 h2 h3 h4 h5 h6 h7 hSX hR)
  rw [hR]
  clear hR
  go_enter Try.func33, Try.ntmps33
  go_upto_region 1 with fail
  generalize (w.alloc (.cells #[.string x.uri, .int .i64 x.mi, .bool x.br, .int .i64 x.da, .string x.key, .bool x.gap, .slice ax x.ex.length cx] 32)).alloc (.cells #[.string y.uri, .int .i64 y.mi, .bool y.br, .int .i64 y.da, .string y.key, .bool y.gap, .slice ay y.ex.length cy] 32) = W at *
  have k0 := FX.c0; have k1 := FX.c1; have k2 := FX.c2; have k3 := FX.c3; have k4 := FX.c4; have k5 := FX.c5; have k6 := FX.c6; have kl := FX.lt
  have l0 := FY.c0; have l1 := FY.c1; have l2 := FY.c2; have l3 := FY.c3; have l4 := FY.c4; have l5 := FY.c5; have l6 := FY.c6; have ll := FY.lt
  cases B1
  · have z1 : (x.uri.toList != y.uri.toList) = true := by rw [bne, h1]; rfl
    have e1 := HW.out.a (by simp)
    subst e1
    go_wp2_with fail
    go_ret
    exact ⟨rfl, bY⟩
  · have z1 : (x.uri.toList != y.uri.toList) = false := by rw [bne, h1]; rfl
    cases B2
    · have z2 : (x.mi != y.mi) = true := by rw [bne, h2]; rfl
      have e1 := HW.out.a (by simp)
      subst e1
      go_wp2_with fail
      go_ret
      exact ⟨rfl, bY⟩
    · have z2 : (x.mi != y.mi) = false := by rw [bne, h2]; rfl
      cases B3
      · have z3 : (x.br != y.br) = true := by rw [bne, h3]; rfl
        have e1 := HW.out.a (by simp)
        subst e1
        go_wp2_with fail
        go_ret
        exact ⟨rfl, bY⟩
      · have z3 : (x.br != y.br) = false := by rw [bne, h3]; rfl
        cases B4
        · have z4 : (x.da != y.da) = true := by rw [bne, h4]; rfl
          have e1 := HW.out.a (by simp)
          subst e1
          go_wp2_with fail
          go_ret
          exact ⟨rfl, bY⟩
        · have z4 : (x.da != y.da) = false := by rw [bne, h4]; rfl
          cases B5
          · have z5 : (x.key.toList != y.key.toList) = true := by rw [bne, h5]; rfl
            have e1 := HW.out.a (by simp)
            subst e1
            go_wp2_with fail
            go_ret
            exact ⟨rfl, bY⟩
          · have z5 : (x.key.toList != y.key.toList) = false := by rw [bne, h5]; rfl
            cases B6
            · have z6 : (x.gap != y.gap) = true := by rw [bne, h6]; rfl
              have e1 := HW.out.a (by simp)
              subst e1
              go_wp2_with fail
              go_ret
              exact ⟨rfl, bY⟩
            · have z6 : (x.gap != y.gap) = false := by rw [bne, h6]; rfl
              cases B7
              · have z7 : ((x.ex.length : Int) != (y.ex.length : Int)) = true := by rw [bne, h7]; rfl
                have e1 := HW.out.a (by simp)
                subst e1
                go_wp2_with fail
                go_ret
                exact ⟨rfl, bY⟩
              · have z7 : ((x.ex.length : Int) != (y.ex.length : Int)) = false := by rw [bne, h7]; rfl
                have hlen : x.ex.length = y.ex.length := by have := beq_iff_eq.1 h7; omega
                have e1 := HW.out.b rfl rfl rfl rfl rfl rfl
                subst e1
                have hIFF := sameX_iff hlen
                rw [hSX] at hIFF
                have HIFF := Lib.hid hIFF
                have HXS := Lib.hid (fun W hb => hx.below (B := w.heap.size) (w' := W) hb (Nat.le_refl _))
                have HYS := Lib.hid (fun W hb => hy.below (B := w.heap.size) (w' := W) hb (Nat.le_refl _))
                have hm5 := hx.len
                unfold maxLen at hm5
                obtain ⟨n, hn⟩ : ∃ n, x.ex.length = n := ⟨_, rfl⟩
                have HN := Lib.hid hn
                have HM : Hid (y.ex.length = n) := Lib.hid (by omega)
                go_wp2_with fail
                clear k0 k1 k2 k3 k4 k5 k6 kl l0 l1 l2 l3 l4 l5 l6 ll z1 z2 z3 z4 z5 z6 z7 h1 h2 h3 h4 h5 h6 h7 hlen hIFF hx hy hSX
                go_loopw [5] (fun v wr => ∃ k : Nat, k ≤ n ∧ v = .int .i64 k ∧ Hid (∀ i, i < k → sEq (x.ex.getD i str0) (y.ex.getD i str0) = true) ∧ Below W.heap.size W wr) (fun v _ => n - (intOf v).toNat)
                case atStart => exact ⟨0, Nat.zero_le _, rfl, Lib.hid (fun i hi => by omega), Below.refl _ _⟩
                case round =>
                  obtain ⟨k, hk, rfl, HK, hbr⟩ := hrel
                  have FXr := FX.below hbr FX.lt
                  have FYr := FY.below hbr FY.lt
                  have k6 := FXr.c6; have kl := FXr.lt; have l6 := FYr.c6; have ll := FYr.lt
                  rw [hn] at k6
                  rw [HM.out] at l6
                  have hbw := bY.trans (hbr.mono bY.size)
                  by_cases hk2 : k < n
                  rotate_left
                  · have e1 : R = true := HIFF.out.2 (fun i hi => HK.out i (by omega))
                    have kD : decide ((k : Int) < (n : Int)) = false := by simp; omega
                    have kD2 : decide (k < n) = false := by simp; omega
                    subst e1
                    go_wp2_with fail
                    go_ret
                    exact ⟨rfl, hbw⟩
                  · have hXW := HXS.out wr hbw
                    have hYW := HYS.out wr hbw
                    obtain ⟨b, off, c1, hv, hlt, -, -⟩ := hXW.spot (by omega)
                    simp only [Value.slice.injEq] at hv
                    obtain ⟨rfl, -, rfl⟩ := hv
                    obtain ⟨b', off', c2, hv, hlt', -, -⟩ := hYW.spot (by rw [HM.out]; omega)
                    simp only [Value.slice.injEq] at hv
                    obtain ⟨rfl, -, rfl⟩ := hv
                    have c0 := hXW.cells k (by omega)
                    have f0 := hYW.cells k (by rw [HM.out]; omega)
                    have kI : (k : Int) < (n : Int) := by omega
                    have hwI : IntKind.i64.wrap ((k : Int) + 1) = (k : Int) + 1 := IntWalk.i64_in _ ⟨by omega, by omega⟩
                    obtain ⟨s, hs⟩ : ∃ s, x.ex.getD k str0 = s := ⟨_, rfl⟩
                    obtain ⟨u, hu⟩ : ∃ u, y.ex.getD k str0 = u := ⟨_, rfl⟩
                    rw [hs] at c0
                    rw [hu] at f0
                    obtain ⟨D, hD⟩ : ∃ D, (s.toList == u.toList) = D := ⟨_, rfl⟩
                    have HBD : Hid (D = false → R = false) := Lib.hid (fun h => by
                      cases hRR : R
                      · rfl
                      · have := HIFF.out.1 hRR k (by omega)
                        rw [hs, hu, sEq, hD, h] at this
                        cases this)
                    have HN2 : Hid (D = true → ∀ i, i < k + 1 → sEq (x.ex.getD i str0) (y.ex.getD i str0) = true) := Lib.hid (fun h i hi => by
                      by_cases e : i = k
                      · subst e; rw [hs, hu, sEq, hD]; exact h
                      · exact HK.out i (by omega))
                    clear hs hu hXW hYW
                    cases D
                    · have z1 : (s.toList != u.toList) = true := by rw [bne, hD]; rfl
                      have e1 := HBD.out rfl
                      subst e1
                      go_upto_region 6 with fail
                      go_quiet (fail)
                      go_wp2_with fail
                      go_ret
                      exact ⟨rfl, below_drewN hbw nq⟩
                    · have z1 : (s.toList != u.toList) = false := by rw [bne, hD]; rfl
                      have HN3 := Lib.hid (HN2.out rfl)
                      go_upto_region 6 with fail
                      go_quiet (fail)
                      go_wp2_with fail
                      go_roundw
                      case rel => exact ⟨k + 1, by omega, by go_num, HN3, below_drewN hbr nq⟩
                      case measure => simp [intOf]; omega

end Go.Proofs.Ytikpemmfmkdndaa
