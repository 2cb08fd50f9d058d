/- Check (reference). -/
import Derived.Test.YtikpemmfmkdndaaRChkE
import Derived.Deep.RegionHeld3
import Derived.BigQuiet
import Derived.Deep.QuietTactic
namespace Go.Proofs.Ytikpemmfmkdndaa
set_option linter.unusedVariables false
set_option linter.unusedSimpArgs false
open Go.RowKit Go.Shelf Go.Deep

structure LstWays (I1 I2 I3 G : Bool) (XF R : Int) : Prop where
  a : I1 = false → R = 1
  b : I1 = true → I2 = false → R = 1
  c : I1 = true → I2 = true → I3 = false → R = 1
  d : I1 = true → I2 = true → I3 = true → G = true → R = 2
  e : I1 = true → I2 = true → I3 = true → G = false → R = XF
theorem lst_ways (l : Lst) (I1 I2 I3 G : Bool) (XF R : Int) (h1 : inB l.tg 1 3600 = I1) (h2 : inB l.fi 0 999999999999000 = I2) (h3 : inB l.bk 0 1000000000000000 = I3) (h4 : decide (1000 < l.es.length) = G) (hx : entsF l.tg l.es = XF) (hR : lstF l = R) : LstWays I1 I2 I3 G XF R := by
  have e : lstF l = if fstF [fIf (!I1) 1, fIf (!(I2 && I3)) 1, fIf G 2] = 0 then XF else fstF [fIf (!I1) 1, fIf (!(I2 && I3)) 1, fIf G 2] := by
    unfold lstF lstH stB
    simp only [h1, h2, h3, h4, hx]
  rw [hR] at e
  clear h1 h2 h3 h4 hx hR
  subst e
  constructor <;> (intros; subst_vars; rfl)
set_option maxRecDepth 100000 in
set_option maxHeartbeats 16000000 in
theorem rchkL_walk (tg fi bk : Int) (v : Value) (en : Bool) (es : List Ent) (Us : Nat → Value) (w : World) (hE : EntsU w v es Us) (hwf : ∀ y ∈ es, EntWf y) :
    Calls Try.prog 41 #[.agg #[.int .i64 tg, .int .i64 fi, .int .i64 bk, v, .bool en]] w fun r w' => r = .returned (.int .i64 (lstF ⟨tg, fi, bk, es, en⟩)) ∧ Below w.heap.size w w' := by
  have HCE : Hid (∀ k, k < es.length → ∀ W, Below w.heap.size w W → Calls Try.prog 77 #[.agg #[.string (es.getD k ent0).uri, .int .i64 (es.getD k ent0).mi, .bool (es.getD k ent0).br, .int .i64 (es.getD k ent0).da, .string (es.getD k ent0).key, .bool (es.getD k ent0).gap, Us k], .int .i64 tg] W fun r w' => r = .returned (.int .i64 (entE (es.getD k ent0) tg)) ∧ Below W.heap.size W w') := Lib.hid (fun k hk W hb => rchkE_any _ _ _ W ((hE.strs k hk).below hb (Nat.le_refl _)) (hwf _ (by
    rw [List.getD_eq_getElem?_getD, List.getElem?_eq_getElem hk]
    exact List.getElem_mem hk)))
  have FX := LBox.new w tg fi bk v en 24
  have b1 : Below w.heap.size w (w.alloc (.cells #[.int .i64 tg, .int .i64 fi, .int .i64 bk, v, .bool en] 24)) := (Below.refl _ w).alloc (Nat.le_refl _) _
  obtain ⟨a, cap, rfl⟩ := hE.parts
  have hlen := hE.len
  obtain ⟨I1, hI1⟩ : ∃ I1, inB tg 1 3600 = I1 := ⟨_, rfl⟩
  obtain ⟨I2, hI2⟩ : ∃ I2, inB fi 0 999999999999000 = I2 := ⟨_, rfl⟩
  obtain ⟨I3, hI3⟩ : ∃ I3, inB bk 0 1000000000000000 = I3 := ⟨_, rfl⟩
  obtain ⟨G, hG⟩ : ∃ G, decide (1000 < es.length) = G := ⟨_, rfl⟩
  obtain ⟨XF, hXF⟩ : ∃ XF, entsF tg es = XF := ⟨_, rfl⟩
  obtain ⟨R, hR⟩ : ∃ R, lstF ⟨tg, fi, bk, es, en⟩ = R := ⟨_, rfl⟩
  have HW := Lib.hid (lst_ways ⟨tg, fi, bk, es, en⟩ I1 I2 I3 G XF R hI1 hI2 hI3 hG hXF hR)
  have HI1 : Hid (∀ W, Calls Try.prog 46 #[.int .i64 tg, .int .i64 1, .int .i64 3600] W fun e w' => e = .returned (.bool I1) ∧ W = w') := Lib.hid (fun W => by rw [← hI1]; exact rwithin6_any _ _ _ W)
  have HI2 : Hid (∀ W, Calls Try.prog 46 #[.int .i64 fi, .int .i64 0, .int .i64 999999999999000] W fun e w' => e = .returned (.bool I2) ∧ W = w') := Lib.hid (fun W => by rw [← hI2]; exact rwithin6_any _ _ _ W)
  have HI3 : Hid (∀ W, Calls Try.prog 46 #[.int .i64 bk, .int .i64 0, .int .i64 1000000000000000] W fun e w' => e = .returned (.bool I3) ∧ W = w') := Lib.hid (fun W => by rw [← hI3]; exact rwithin6_any _ _ _ W)
  have HXF := Lib.hid hXF
  rw [hR]
  have HEN := Lib.hid hE
  obtain ⟨n, hn⟩ : ∃ n, es.length = n := ⟨_, rfl⟩
  have HN := Lib.hid hn
  rw [hn] at HCE hG hlen HEN FX b1 ⊢
  have hG1 : decide ((1000 : Int) < (n : Int)) = G := by rw [← hG]; exact decide_eq_decide.2 (by omega)
  unfold maxLen at hlen
  clear hE hwf hI1 hI2 hI3 hXF hR hn
  go_enter Try.func41, Try.ntmps41
  go_upto_region 1 with fail
  generalize w.alloc (.cells #[.int .i64 tg, .int .i64 fi, .int .i64 bk, .slice a n cap, .bool en] 24) = W at *
  have k0 := FX.c0; have k1 := FX.c1; have k2 := FX.c2; have k3 := FX.c3; have kl := FX.lt
  go_wp2_with fail
  refine (HI1.out _).mono ?_; rintro e w' ⟨rfl, rfl⟩
  cases I1
  · have e1 := HW.out.a rfl
    subst e1
    go_wp2_with fail
    go_ret
    exact ⟨rfl, b1⟩
  · go_wp2_with fail
    refine (HI2.out _).mono ?_; rintro e w' ⟨rfl, rfl⟩
    cases I2
    · have e1 := HW.out.b rfl rfl
      subst e1
      go_wp2_with fail
      go_ret
      exact ⟨rfl, b1⟩
    · go_wp2_with fail
      refine (HI3.out _).mono ?_; rintro e w' ⟨rfl, rfl⟩
      cases I3
      · have e1 := HW.out.c rfl rfl rfl
        subst e1
        go_wp2_with fail
        go_ret
        exact ⟨rfl, b1⟩
      · cases G
        rotate_left
        · have e1 := HW.out.d rfl rfl rfl rfl
          subst e1
          go_wp2_with fail
          go_ret
          exact ⟨rfl, b1⟩
        · have e1 := HW.out.e rfl rfl rfl rfl
          subst e1
          go_wp2_with fail
          clear k0 k1 k2 k3 kl
          go_loopw [3] (fun v wr => ∃ k : Nat, k ≤ n ∧ v = .int .i64 k ∧ Below w.heap.size w wr ∧ LBox wr w.heap.size tg fi bk (.slice a n cap) en ∧ Hid (entsF tg (es.drop k) = R)) (fun v _ => n - (intOf v).toNat)
          case atStart => exact ⟨0, Nat.zero_le _, rfl, b1, FX, Lib.hid (by rw [List.drop_zero]; exact HXF.out)⟩
          case round =>
            clear b1 FX
            obtain ⟨k, hk, rfl, hbr, FX, HD2⟩ := hrel
            have k3 := FX.c3; have kl := FX.lt
            by_cases hk2 : k < n
            rotate_left
            · have e1 : R = 0 := by rw [← HD2.out, List.drop_of_length_le (by rw [HN.out]; omega)]; rfl
              have kD : decide ((k : Int) < (n : Int)) = false := by simp; omega
              have kD2 : decide (k < n) = false := by simp; omega
              subst e1
              go_wp2_with fail
              go_ret
              exact ⟨rfl, hbr⟩
            · have hEW := HEN.out.below hbr (Nat.le_refl _)
              obtain ⟨b, off, cap', hv, hlt, -, -⟩ := hEW.spot (by rw [HN.out]; omega)
              simp only [Value.slice.injEq] at hv
              obtain ⟨rfl, -, rfl⟩ := hv
              obtain ⟨c0, c1, c2, c3, c4, c5, c6⟩ := hEW.cells k (by rw [HN.out]; exact hk2)
              have hst := entsF_drop tg es k (by rw [HN.out]; exact hk2)
              rw [HD2.out] at hst
              have hce := HCE.out k hk2
              obtain ⟨x, hx⟩ : ∃ x, es.getD k ent0 = x := ⟨_, rfl⟩
              obtain ⟨a6, c6', hu⟩ := (hEW.strs k (by rw [HN.out]; exact hk2)).parts
              rw [hx] at hu
              obtain ⟨l6, hl6⟩ : ∃ l6, x.ex.length = l6 := ⟨_, rfl⟩
              rw [hl6] at hu
              rw [hx] at hce hst c0 c1 c2 c3 c4 c5
              rw [hu] at hce c6
              obtain ⟨z, hz⟩ : ∃ z, entE x tg = z := ⟨_, rfl⟩
              rw [hz] at hst hce
              have HST := Lib.hid hst; have HC := Lib.hid hce
              have kI : (k : Int) < (n : Int) := by omega
              have hwI : IntKind.i64.wrap ((k : Int) + 1) = (k : Int) + 1 := IntWalk.i64_in _ ⟨by omega, by omega⟩
              have k0 := FX.c0
              clear hst hx hce hu hz hEW hl6
              go_upto_region 8 with fail
              go_cut [4] (fun s4 wx => s4 = .int .i64 z ∧ Below wr.heap.size wr wx)
              case first =>
                clear FX
                refine wp_region_noPanic ?_
                refine wp_region_held_drew (S := fun w' => Below wr.heap.size wr w') (by kernel_rfl) ?hS0 (fun hHeld => ?_)
                case hS0 => exact (Below.refl _ wr).drew
                have hS : Below wr.heap.size wr wr.drew := (Below.refl _ wr).drew
                clear hHeld
                generalize wr.drew = wd at *
                refine wpAnyH_take (i := 0) (v := ?_) rfl (by kernel_rfl) (by kernel_rfl) (by kernel_rfl) (fun _ _ _ h => h) (Or.inl ⟨by kernel_rfl, ?hy⟩) (by assumption) ?_
                case hy => (intro wq hSw; have q0 := (hSw.cell (p := ⟨w.heap.size, 0, none⟩) kl).trans k0; have q3 := (hSw.cell (p := ⟨w.heap.size, 3, none⟩) kl).trans k3; have g0 := (hSw.cell (p := ⟨b, off + k * 7, none⟩) hlt).trans c0; have g1 := (hSw.cell (p := ⟨b, off + k * 7 + 1, none⟩) hlt).trans c1; have g2 := (hSw.cell (p := ⟨b, off + k * 7 + 2, none⟩) hlt).trans c2; have g3 := (hSw.cell (p := ⟨b, off + k * 7 + 3, none⟩) hlt).trans c3; have g4 := (hSw.cell (p := ⟨b, off + k * 7 + 4, none⟩) hlt).trans c4; have g5 := (hSw.cell (p := ⟨b, off + k * 7 + 5, none⟩) hlt).trans c5; have g6 := (hSw.cell (p := ⟨b, off + k * 7 + 6, none⟩) hlt).trans c6; have s1 := Nat.lt_of_lt_of_le kl hSw.size; have s2 := Nat.lt_of_lt_of_le hlt hSw.size; go_simp; try (with_reducible rfl))
                try simp only [Act.put, List.setIfInBounds_toArray, List.set_cons_zero, List.set_cons_succ]
                refine wpAnyH_take (i := 1) (v := ?_) rfl (by kernel_rfl) (by kernel_rfl) (by kernel_rfl) (fun _ _ _ h => h) (Or.inl ⟨by kernel_rfl, ?hy⟩) (by assumption) ?_
                case hy => (intro wq hSw; have q0 := (hSw.cell (p := ⟨w.heap.size, 0, none⟩) kl).trans k0; have q3 := (hSw.cell (p := ⟨w.heap.size, 3, none⟩) kl).trans k3; have g0 := (hSw.cell (p := ⟨b, off + k * 7, none⟩) hlt).trans c0; have g1 := (hSw.cell (p := ⟨b, off + k * 7 + 1, none⟩) hlt).trans c1; have g2 := (hSw.cell (p := ⟨b, off + k * 7 + 2, none⟩) hlt).trans c2; have g3 := (hSw.cell (p := ⟨b, off + k * 7 + 3, none⟩) hlt).trans c3; have g4 := (hSw.cell (p := ⟨b, off + k * 7 + 4, none⟩) hlt).trans c4; have g5 := (hSw.cell (p := ⟨b, off + k * 7 + 5, none⟩) hlt).trans c5; have g6 := (hSw.cell (p := ⟨b, off + k * 7 + 6, none⟩) hlt).trans c6; have s1 := Nat.lt_of_lt_of_le kl hSw.size; have s2 := Nat.lt_of_lt_of_le hlt hSw.size; go_simp; try (with_reducible rfl))
                try simp only [Act.put, List.setIfInBounds_toArray, List.set_cons_zero, List.set_cons_succ]
                refine wpAnyH_take (i := 2) (v := ?_) rfl (by kernel_rfl) (by kernel_rfl) (by kernel_rfl) (fun _ _ _ h => h) (Or.inl ⟨by kernel_rfl, ?hy⟩) (by assumption) ?_
                case hy => (intro wq hSw; have q0 := (hSw.cell (p := ⟨w.heap.size, 0, none⟩) kl).trans k0; have q3 := (hSw.cell (p := ⟨w.heap.size, 3, none⟩) kl).trans k3; have g0 := (hSw.cell (p := ⟨b, off + k * 7, none⟩) hlt).trans c0; have g1 := (hSw.cell (p := ⟨b, off + k * 7 + 1, none⟩) hlt).trans c1; have g2 := (hSw.cell (p := ⟨b, off + k * 7 + 2, none⟩) hlt).trans c2; have g3 := (hSw.cell (p := ⟨b, off + k * 7 + 3, none⟩) hlt).trans c3; have g4 := (hSw.cell (p := ⟨b, off + k * 7 + 4, none⟩) hlt).trans c4; have g5 := (hSw.cell (p := ⟨b, off + k * 7 + 5, none⟩) hlt).trans c5; have g6 := (hSw.cell (p := ⟨b, off + k * 7 + 6, none⟩) hlt).trans c6; have s1 := Nat.lt_of_lt_of_le kl hSw.size; have s2 := Nat.lt_of_lt_of_le hlt hSw.size; go_simp; try (with_reducible rfl))
                try simp only [Act.put, List.setIfInBounds_toArray, List.set_cons_zero, List.set_cons_succ]
                refine wpAnyH_take (i := 3) (v := ?_) rfl (by kernel_rfl) (by kernel_rfl) (by kernel_rfl) (fun _ _ _ h => h) (Or.inl ⟨by kernel_rfl, ?hy⟩) (by assumption) ?_
                case hy => (intro wq hSw; have q0 := (hSw.cell (p := ⟨w.heap.size, 0, none⟩) kl).trans k0; have q3 := (hSw.cell (p := ⟨w.heap.size, 3, none⟩) kl).trans k3; have g0 := (hSw.cell (p := ⟨b, off + k * 7, none⟩) hlt).trans c0; have g1 := (hSw.cell (p := ⟨b, off + k * 7 + 1, none⟩) hlt).trans c1; have g2 := (hSw.cell (p := ⟨b, off + k * 7 + 2, none⟩) hlt).trans c2; have g3 := (hSw.cell (p := ⟨b, off + k * 7 + 3, none⟩) hlt).trans c3; have g4 := (hSw.cell (p := ⟨b, off + k * 7 + 4, none⟩) hlt).trans c4; have g5 := (hSw.cell (p := ⟨b, off + k * 7 + 5, none⟩) hlt).trans c5; have g6 := (hSw.cell (p := ⟨b, off + k * 7 + 6, none⟩) hlt).trans c6; have s1 := Nat.lt_of_lt_of_le kl hSw.size; have s2 := Nat.lt_of_lt_of_le hlt hSw.size; go_simp; try (with_reducible rfl))
                try simp only [Act.put, List.setIfInBounds_toArray, List.set_cons_zero, List.set_cons_succ]
                refine wpAnyH_take (i := 4) (v := ?_) rfl (by kernel_rfl) (by kernel_rfl) (by kernel_rfl) (fun _ _ _ h => h) (Or.inl ⟨by kernel_rfl, ?hy⟩) (by assumption) ?_
                case hy => (intro wq hSw; have q0 := (hSw.cell (p := ⟨w.heap.size, 0, none⟩) kl).trans k0; have q3 := (hSw.cell (p := ⟨w.heap.size, 3, none⟩) kl).trans k3; have g0 := (hSw.cell (p := ⟨b, off + k * 7, none⟩) hlt).trans c0; have g1 := (hSw.cell (p := ⟨b, off + k * 7 + 1, none⟩) hlt).trans c1; have g2 := (hSw.cell (p := ⟨b, off + k * 7 + 2, none⟩) hlt).trans c2; have g3 := (hSw.cell (p := ⟨b, off + k * 7 + 3, none⟩) hlt).trans c3; have g4 := (hSw.cell (p := ⟨b, off + k * 7 + 4, none⟩) hlt).trans c4; have g5 := (hSw.cell (p := ⟨b, off + k * 7 + 5, none⟩) hlt).trans c5; have g6 := (hSw.cell (p := ⟨b, off + k * 7 + 6, none⟩) hlt).trans c6; have s1 := Nat.lt_of_lt_of_le kl hSw.size; have s2 := Nat.lt_of_lt_of_le hlt hSw.size; go_simp; try (with_reducible rfl))
                try simp only [Act.put, List.setIfInBounds_toArray, List.set_cons_zero, List.set_cons_succ]
                refine wpAnyH_take (i := 5) (v := ?_) rfl (by kernel_rfl) (by kernel_rfl) (by kernel_rfl) (fun _ _ _ h => h) (Or.inl ⟨by kernel_rfl, ?hy⟩) (by assumption) ?_
                case hy => (intro wq hSw; have q0 := (hSw.cell (p := ⟨w.heap.size, 0, none⟩) kl).trans k0; have q3 := (hSw.cell (p := ⟨w.heap.size, 3, none⟩) kl).trans k3; have g0 := (hSw.cell (p := ⟨b, off + k * 7, none⟩) hlt).trans c0; have g1 := (hSw.cell (p := ⟨b, off + k * 7 + 1, none⟩) hlt).trans c1; have g2 := (hSw.cell (p := ⟨b, off + k * 7 + 2, none⟩) hlt).trans c2; have g3 := (hSw.cell (p := ⟨b, off + k * 7 + 3, none⟩) hlt).trans c3; have g4 := (hSw.cell (p := ⟨b, off + k * 7 + 4, none⟩) hlt).trans c4; have g5 := (hSw.cell (p := ⟨b, off + k * 7 + 5, none⟩) hlt).trans c5; have g6 := (hSw.cell (p := ⟨b, off + k * 7 + 6, none⟩) hlt).trans c6; have s1 := Nat.lt_of_lt_of_le kl hSw.size; have s2 := Nat.lt_of_lt_of_le hlt hSw.size; go_simp; try (with_reducible rfl))
                try simp only [Act.put, List.setIfInBounds_toArray, List.set_cons_zero, List.set_cons_succ]
                refine wpAnyH_take (i := 6) (v := ?_) rfl (by kernel_rfl) (by kernel_rfl) (by kernel_rfl) (fun _ _ _ h => h) (Or.inl ⟨by kernel_rfl, ?hy⟩) (by assumption) ?_
                case hy => (intro wq hSw; have q0 := (hSw.cell (p := ⟨w.heap.size, 0, none⟩) kl).trans k0; have q3 := (hSw.cell (p := ⟨w.heap.size, 3, none⟩) kl).trans k3; have g0 := (hSw.cell (p := ⟨b, off + k * 7, none⟩) hlt).trans c0; have g1 := (hSw.cell (p := ⟨b, off + k * 7 + 1, none⟩) hlt).trans c1; have g2 := (hSw.cell (p := ⟨b, off + k * 7 + 2, none⟩) hlt).trans c2; have g3 := (hSw.cell (p := ⟨b, off + k * 7 + 3, none⟩) hlt).trans c3; have g4 := (hSw.cell (p := ⟨b, off + k * 7 + 4, none⟩) hlt).trans c4; have g5 := (hSw.cell (p := ⟨b, off + k * 7 + 5, none⟩) hlt).trans c5; have g6 := (hSw.cell (p := ⟨b, off + k * 7 + 6, none⟩) hlt).trans c6; have s1 := Nat.lt_of_lt_of_le kl hSw.size; have s2 := Nat.lt_of_lt_of_le hlt hSw.size; go_simp; try (with_reducible rfl))
                try simp only [Act.put, List.setIfInBounds_toArray, List.set_cons_zero, List.set_cons_succ]
                refine wpAnyH_ready (rs := [7]) (by kernel_rfl) (by simp) ?_
                refine AllReadyH.cons rfl (fun K hK => ?_) AllReadyH.nil
                go_simp
                refine (HC.out _ (hbr.trans (hS.mono hbr.size))).mono ?_; rintro e w3 ⟨rfl, b3⟩; have hS : Below wr.heap.size wr w3 := hS.trans (b3.mono hS.size)
                refine hK.out _ _ hS (fun hHeld => ?_)
                clear hK K hHeld
                try simp only [Act.put, List.setIfInBounds_toArray, List.set_cons_zero, List.set_cons_succ]
                refine wpAnyH_take (i := 8) (v := ?_) rfl (by kernel_rfl) (by kernel_rfl) (by kernel_rfl) (fun _ _ _ h => h) (Or.inl ⟨by kernel_rfl, ?hy⟩) (by assumption) ?_
                case hy => (intro wq hSw; have q0 := (hSw.cell (p := ⟨w.heap.size, 0, none⟩) kl).trans k0; have q3 := (hSw.cell (p := ⟨w.heap.size, 3, none⟩) kl).trans k3; have g0 := (hSw.cell (p := ⟨b, off + k * 7, none⟩) hlt).trans c0; have g1 := (hSw.cell (p := ⟨b, off + k * 7 + 1, none⟩) hlt).trans c1; have g2 := (hSw.cell (p := ⟨b, off + k * 7 + 2, none⟩) hlt).trans c2; have g3 := (hSw.cell (p := ⟨b, off + k * 7 + 3, none⟩) hlt).trans c3; have g4 := (hSw.cell (p := ⟨b, off + k * 7 + 4, none⟩) hlt).trans c4; have g5 := (hSw.cell (p := ⟨b, off + k * 7 + 5, none⟩) hlt).trans c5; have g6 := (hSw.cell (p := ⟨b, off + k * 7 + 6, none⟩) hlt).trans c6; have s1 := Nat.lt_of_lt_of_le kl hSw.size; have s2 := Nat.lt_of_lt_of_le hlt hSw.size; go_simp; try (with_reducible rfl))
                try simp only [Act.put, List.setIfInBounds_toArray, List.set_cons_zero, List.set_cons_succ]
                refine wpAnyH_done (by kernel_rfl) ?_ _
                refine NoPanic.normal ?_
                try go_simp
                go_wp2_with fail
                go_meet
                exact ⟨rfl, hS⟩
              case rest =>
                obtain ⟨rfl, bx⟩ := hcut
                have hbn := hbr.trans (bx.mono hbr.size)
                have FX := FX.below bx FX.lt
                clear c0 c1 c2 c3 c4 c5 c6 k0 k3 kl bx
                by_cases h0 : z = 0
                · have HN2 : Hid (entsF tg (es.drop (k + 1)) = R) := Lib.hid (by have := HST.out; rw [if_pos h0] at this; exact this.symm)
                  subst h0
                  go_wp2_with fail
                  go_roundw
                  case rel => exact ⟨k + 1, by omega, by go_num, hbn, FX, HN2⟩
                  case measure => simp [intOf]; omega
                · have hne : (z == 0) = false := by simp; exact h0
                  have hne2 : (z != 0) = true := by simp; exact h0
                  have e1 : R = z := by have := HST.out; rw [if_neg h0] at this; exact this
                  subst e1
                  go_wp2_with fail
                  go_ret
                  exact ⟨rfl, hbn⟩
theorem rCheck_any (l : Lst) (v : Value) (w : World) (hE : Ents w v l.es) (hwf : ∀ y ∈ l.es, EntWf y) :
    Calls Try.prog 41 #[.agg #[.int .i64 l.tg, .int .i64 l.fi, .int .i64 l.bk, v, .bool l.en]] w fun r w' => r = .returned (.int .i64 (lstF l)) ∧ Below w.heap.size w w' := by
  obtain ⟨U, hU⟩ := hE
  exact rchkL_walk l.tg l.fi l.bk v l.en l.es U w hU hwf

end Go.Proofs.Ytikpemmfmkdndaa
