/- Check (program). -/
import Derived.Test.YtikpemmfmkdndaaChkE
import Derived.Deep.RegionHeld3
import Derived.BigQuiet
import Derived.Deep.QuietTactic
namespace Go.Proofs.Ytikpemmfmkdndaa
set_option linter.unusedVariables false
set_option linter.unusedSimpArgs false
open Go.RowKit Go.Shelf Go.Deep

theorem chkS_any (tg fi bk : Int) (v : Value) (en : Bool) (w : World) :
    Calls Try.prog 52 #[.agg #[.int .i64 tg, .int .i64 fi, .int .i64 bk, v, .bool en]] w fun r w' => r = .returned (.int .i64 (fIf (!(inB fi 0 999999999999000 && inB bk 0 1000000000000000)) 1)) ∧ Below w.heap.size w w' := by
  have FX := LBox.new w tg fi bk v en 24
  have b1 : Below w.heap.size w (w.alloc (.cells #[.int .i64 tg, .int .i64 fi, .int .i64 bk, v, .bool en] 24)) := (Below.refl _ w).alloc (Nat.le_refl _) _
  obtain ⟨I1, hI1⟩ : ∃ I1, inB fi 0 999999999999000 = I1 := ⟨_, rfl⟩
  obtain ⟨I2, hI2⟩ : ∃ I2, inB bk 0 1000000000000000 = I2 := ⟨_, rfl⟩
  have HI1 : Hid (∀ W, Calls Try.prog 51 #[.int .i64 fi, .int .i64 0, .int .i64 999999999999000] W fun e w' => e = .returned (.bool I1) ∧ W = w') := Lib.hid (fun W => by rw [← hI1]; exact bwithin_any _ _ _ W)
  have HI2 : Hid (∀ W, Calls Try.prog 51 #[.int .i64 bk, .int .i64 0, .int .i64 1000000000000000] W fun e w' => e = .returned (.bool I2) ∧ W = w') := Lib.hid (fun W => by rw [← hI2]; exact bwithin_any _ _ _ W)
  rw [hI1, hI2]
  clear hI1 hI2
  cases I1
  · go_enter Try.func52, Try.ntmps52
    go_upto_region 1 with fail
    generalize w.alloc (.cells #[.int .i64 tg, .int .i64 fi, .int .i64 bk, v, .bool en] 24) = W at *
    have d1 := FX.c1; have d2 := FX.c2; have dl := FX.lt
    go_wp2_with fail
    refine (HI1.out _).mono ?_; rintro e w' ⟨rfl, rfl⟩
    go_wp2_with fail
    refine (bfaultIf_any _ _ _).mono ?_; rintro e w' ⟨rfl, rfl⟩
    go_wp2_with fail
    go_ret
    exact ⟨rfl, b1⟩
  · go_enter Try.func52, Try.ntmps52
    go_upto_region 1 with fail
    generalize w.alloc (.cells #[.int .i64 tg, .int .i64 fi, .int .i64 bk, v, .bool en] 24) = W at *
    have d1 := FX.c1; have d2 := FX.c2; have dl := FX.lt
    go_wp2_with fail
    refine (HI1.out _).mono ?_; rintro e w' ⟨rfl, rfl⟩
    go_wp2_with fail
    refine (HI2.out _).mono ?_; rintro e w' ⟨rfl, rfl⟩
    go_wp2_with fail
    refine (bfaultIf_any _ _ _).mono ?_; rintro e w' ⟨rfl, rfl⟩
    go_wp2_with fail
    go_ret
    exact ⟨rfl, b1⟩
theorem lstH_at (l : Lst) (I1 S G : Bool) (h1 : inB l.tg 1 3600 = I1) (h2 : stB l = S) (h3 : decide (1000 < l.es.length) = G) : fstF [fIf (!I1) 1, fIf (!S) 1, fIf G 2] = lstH l := by
  unfold lstH
  rw [h1, h2, h3]
set_option maxRecDepth 100000 in
set_option maxHeartbeats 16000000 in
theorem chkL_walk (tg fi bk : Int) (v : Value) (en : Bool) (es : List Ent) (Us : Nat → Value) (w : World) (hE : EntsU w v es Us) (hwf : ∀ y ∈ es, EntWf y) :
    Calls Try.prog 39 #[.agg #[.int .i64 tg, .int .i64 fi, .int .i64 bk, v, .bool en]] w fun r w' => r = .returned (.int .i64 (lstF ⟨tg, fi, bk, es, en⟩)) ∧ Below w.heap.size w w' := by
  have HCE : Hid (∀ k, k < es.length → ∀ W, Below w.heap.size w W → Calls Try.prog 76 #[.agg #[.string (es.getD k ent0).uri, .int .i64 (es.getD k ent0).mi, .bool (es.getD k ent0).br, .int .i64 (es.getD k ent0).da, .string (es.getD k ent0).key, .bool (es.getD k ent0).gap, Us k], .int .i64 tg] W fun r w' => r = .returned (.int .i64 (entE (es.getD k ent0) tg)) ∧ Below W.heap.size W w') := Lib.hid (fun k hk W hb => chkE_any _ _ _ W ((hE.strs k hk).below hb (Nat.le_refl _)) (hwf _ (by
    rw [List.getD_eq_getElem?_getD, List.getElem?_eq_getElem hk]
    exact List.getElem_mem hk)))
  have HS : Hid (∀ W, Calls Try.prog 52 #[.agg #[.int .i64 tg, .int .i64 fi, .int .i64 bk, v, .bool en]] W fun r w' => r = .returned (.int .i64 (fIf (!stB ⟨tg, fi, bk, es, en⟩) 1)) ∧ Below W.heap.size W w') := Lib.hid (fun W => chkS_any tg fi bk v en W)
  have HI1 : Hid (∀ W, Calls Try.prog 51 #[.int .i64 tg, .int .i64 1, .int .i64 3600] W fun e w' => e = .returned (.bool (inB tg 1 3600)) ∧ W = w') := Lib.hid (fun W => bwithin_any _ _ _ W)
  have FX := LBox.new w tg fi bk v en 24
  have b1 : Below w.heap.size w (w.alloc (.cells #[.int .i64 tg, .int .i64 fi, .int .i64 bk, v, .bool en] 24)) := (Below.refl _ w).alloc (Nat.le_refl _) _
  obtain ⟨a, cap, rfl⟩ := hE.parts
  have hlen := hE.len
  obtain ⟨S, hS⟩ : ∃ S, stB ⟨tg, fi, bk, es, en⟩ = S := ⟨_, rfl⟩
  obtain ⟨I1, hI1⟩ : ∃ I1, inB tg 1 3600 = I1 := ⟨_, rfl⟩
  obtain ⟨G, hG⟩ : ∃ G, decide (1000 < es.length) = G := ⟨_, rfl⟩
  obtain ⟨HD, hHD⟩ : ∃ HD, lstH ⟨tg, fi, bk, es, en⟩ = HD := ⟨_, rfl⟩
  obtain ⟨XF, hXF⟩ : ∃ XF, entsF tg es = XF := ⟨_, rfl⟩
  obtain ⟨R, hR⟩ : ∃ R, lstF ⟨tg, fi, bk, es, en⟩ = R := ⟨_, rfl⟩
  have HE : Hid (R = if HD = 0 then XF else HD) := Lib.hid (by rw [← hR]; unfold lstF; rw [hHD]; show (if HD = 0 then entsF tg es else HD) = _; rw [hXF])
  have HSM : Hid (fstF [fIf (!I1) 1, fIf (!S) 1, fIf G 2] = HD) := Lib.hid (by rw [← hHD]; exact lstH_at _ I1 S G hI1 hS hG)
  rw [hS] at HS
  rw [hI1] at HI1
  have HXF := Lib.hid hXF
  rw [hR]
  have HEN := Lib.hid hE
  obtain ⟨n, hn⟩ : ∃ n, es.length = n := ⟨_, rfl⟩
  have HN := Lib.hid hn
  rw [hn] at HCE hG hlen HEN HS FX b1 ⊢
  have hG1 : decide ((1000 : Int) < (n : Int)) = G := by rw [← hG]; exact decide_eq_decide.2 (by omega)
  unfold maxLen at hlen
  clear hE hwf hS hI1 hHD hXF hR hn
  go_enter Try.func39, Try.ntmps39
  go_upto_region 1 with fail
  generalize w.alloc (.cells #[.int .i64 tg, .int .i64 fi, .int .i64 bk, .slice a n cap, .bool en] 24) = W at *
  go_cut [3] (fun s3 wx => s3 = .int .i64 HD ∧ Below W.heap.size W wx)
  case first =>
    have k0 := FX.c0; have k1 := FX.c1; have k2 := FX.c2; have k3 := FX.c3; have k4 := FX.c4; have kl := FX.lt
    clear FX
    refine wp_region_noPanic ?_
    refine wp_region_held_drew (S := fun w' => Below W.heap.size W w') (by kernel_rfl) ?hS0 (fun hHeld => ?_)
    case hS0 => exact (Below.refl _ W).drew
    have hS : Below W.heap.size W W.drew := (Below.refl _ W).drew
    clear hHeld
    generalize W.drew = wd at *
    refine wpAnyH_take (i := 0) (v := ?_) rfl (by kernel_rfl) (by kernel_rfl) (by kernel_rfl) (fun _ _ _ h => h) (Or.inl ⟨by kernel_rfl, ?hy⟩) (by assumption) ?_
    case hy => (intro wq hSw; have q0 := (hSw.cell (p := ⟨w.heap.size, 0, none⟩) kl).trans k0; have q1 := (hSw.cell (p := ⟨w.heap.size, 1, none⟩) kl).trans k1; have q2 := (hSw.cell (p := ⟨w.heap.size, 2, none⟩) kl).trans k2; have q3 := (hSw.cell (p := ⟨w.heap.size, 3, none⟩) kl).trans k3; have q4 := (hSw.cell (p := ⟨w.heap.size, 4, none⟩) kl).trans k4; have s1 := Nat.lt_of_lt_of_le kl hSw.size; go_simp; try (with_reducible rfl))
    try simp only [Act.put, List.setIfInBounds_toArray, List.set_cons_zero, List.set_cons_succ]
    refine wpAnyH_take (i := 1) (v := ?_) rfl (by kernel_rfl) (by kernel_rfl) (by kernel_rfl) (fun _ _ _ h => h) (Or.inl ⟨by kernel_rfl, ?hy⟩) (by assumption) ?_
    case hy => (intro wq hSw; have q0 := (hSw.cell (p := ⟨w.heap.size, 0, none⟩) kl).trans k0; have q1 := (hSw.cell (p := ⟨w.heap.size, 1, none⟩) kl).trans k1; have q2 := (hSw.cell (p := ⟨w.heap.size, 2, none⟩) kl).trans k2; have q3 := (hSw.cell (p := ⟨w.heap.size, 3, none⟩) kl).trans k3; have q4 := (hSw.cell (p := ⟨w.heap.size, 4, none⟩) kl).trans k4; have s1 := Nat.lt_of_lt_of_le kl hSw.size; go_simp; try (with_reducible rfl))
    try simp only [Act.put, List.setIfInBounds_toArray, List.set_cons_zero, List.set_cons_succ]
    refine wpAnyH_take (i := 5) (v := ?_) rfl (by kernel_rfl) (by kernel_rfl) (by kernel_rfl) (fun _ _ _ h => h) (Or.inl ⟨by kernel_rfl, ?hy⟩) (by assumption) ?_
    case hy => (intro wq hSw; have q0 := (hSw.cell (p := ⟨w.heap.size, 0, none⟩) kl).trans k0; have q1 := (hSw.cell (p := ⟨w.heap.size, 1, none⟩) kl).trans k1; have q2 := (hSw.cell (p := ⟨w.heap.size, 2, none⟩) kl).trans k2; have q3 := (hSw.cell (p := ⟨w.heap.size, 3, none⟩) kl).trans k3; have q4 := (hSw.cell (p := ⟨w.heap.size, 4, none⟩) kl).trans k4; have s1 := Nat.lt_of_lt_of_le kl hSw.size; go_simp; try (with_reducible rfl))
    try simp only [Act.put, List.setIfInBounds_toArray, List.set_cons_zero, List.set_cons_succ]
    refine wpAnyH_take (i := 7) (v := ?_) rfl (by kernel_rfl) (by kernel_rfl) (by kernel_rfl) (fun _ _ _ h => h) (Or.inl ⟨by kernel_rfl, ?hy⟩) (by assumption) ?_
    case hy => (intro wq hSw; have q0 := (hSw.cell (p := ⟨w.heap.size, 0, none⟩) kl).trans k0; have q1 := (hSw.cell (p := ⟨w.heap.size, 1, none⟩) kl).trans k1; have q2 := (hSw.cell (p := ⟨w.heap.size, 2, none⟩) kl).trans k2; have q3 := (hSw.cell (p := ⟨w.heap.size, 3, none⟩) kl).trans k3; have q4 := (hSw.cell (p := ⟨w.heap.size, 4, none⟩) kl).trans k4; have s1 := Nat.lt_of_lt_of_le kl hSw.size; go_simp; try (with_reducible rfl))
    try simp only [Act.put, List.setIfInBounds_toArray, List.set_cons_zero, List.set_cons_succ]
    refine wpAnyH_take (i := 8) (v := ?_) rfl (by kernel_rfl) (by kernel_rfl) (by kernel_rfl) (fun _ _ _ h => h) (Or.inl ⟨by kernel_rfl, ?hy⟩) (by assumption) ?_
    case hy => (intro wq hSw; have q0 := (hSw.cell (p := ⟨w.heap.size, 0, none⟩) kl).trans k0; have q1 := (hSw.cell (p := ⟨w.heap.size, 1, none⟩) kl).trans k1; have q2 := (hSw.cell (p := ⟨w.heap.size, 2, none⟩) kl).trans k2; have q3 := (hSw.cell (p := ⟨w.heap.size, 3, none⟩) kl).trans k3; have q4 := (hSw.cell (p := ⟨w.heap.size, 4, none⟩) kl).trans k4; have s1 := Nat.lt_of_lt_of_le kl hSw.size; go_simp; try (with_reducible rfl))
    try simp only [Act.put, List.setIfInBounds_toArray, List.set_cons_zero, List.set_cons_succ]
    refine wpAnyH_take (i := 9) (v := ?_) rfl (by kernel_rfl) (by kernel_rfl) (by kernel_rfl) (fun _ _ _ h => h) (Or.inl ⟨by kernel_rfl, ?hy⟩) (by assumption) ?_
    case hy => (intro wq hSw; have q0 := (hSw.cell (p := ⟨w.heap.size, 0, none⟩) kl).trans k0; have q1 := (hSw.cell (p := ⟨w.heap.size, 1, none⟩) kl).trans k1; have q2 := (hSw.cell (p := ⟨w.heap.size, 2, none⟩) kl).trans k2; have q3 := (hSw.cell (p := ⟨w.heap.size, 3, none⟩) kl).trans k3; have q4 := (hSw.cell (p := ⟨w.heap.size, 4, none⟩) kl).trans k4; have s1 := Nat.lt_of_lt_of_le kl hSw.size; go_simp; try (with_reducible rfl))
    try simp only [Act.put, List.setIfInBounds_toArray, List.set_cons_zero, List.set_cons_succ]
    refine wpAnyH_take (i := 10) (v := ?_) rfl (by kernel_rfl) (by kernel_rfl) (by kernel_rfl) (fun _ _ _ h => h) (Or.inl ⟨by kernel_rfl, ?hy⟩) (by assumption) ?_
    case hy => (intro wq hSw; have q0 := (hSw.cell (p := ⟨w.heap.size, 0, none⟩) kl).trans k0; have q1 := (hSw.cell (p := ⟨w.heap.size, 1, none⟩) kl).trans k1; have q2 := (hSw.cell (p := ⟨w.heap.size, 2, none⟩) kl).trans k2; have q3 := (hSw.cell (p := ⟨w.heap.size, 3, none⟩) kl).trans k3; have q4 := (hSw.cell (p := ⟨w.heap.size, 4, none⟩) kl).trans k4; have s1 := Nat.lt_of_lt_of_le kl hSw.size; go_simp; try (with_reducible rfl))
    try simp only [Act.put, List.setIfInBounds_toArray, List.set_cons_zero, List.set_cons_succ]
    refine wpAnyH_ready (rs := [2]) (by kernel_rfl) (by simp) ?_
    refine AllReadyH.cons rfl (fun K hK => ?_) AllReadyH.nil
    go_simp
    refine (HI1.out _).mono ?_; rintro e w' ⟨rfl, rfl⟩
    refine hK.out _ _ hS (fun hHeld => ?_)
    clear hK K hHeld
    try simp only [Act.put, List.setIfInBounds_toArray, List.set_cons_zero, List.set_cons_succ]
    refine wpAnyH_take (i := 3) (v := ?_) rfl (by kernel_rfl) (by kernel_rfl) (by kernel_rfl) (fun _ _ _ h => h) (Or.inl ⟨by kernel_rfl, ?hy⟩) (by assumption) ?_
    case hy => (intro wq hSw; have q0 := (hSw.cell (p := ⟨w.heap.size, 0, none⟩) kl).trans k0; have q1 := (hSw.cell (p := ⟨w.heap.size, 1, none⟩) kl).trans k1; have q2 := (hSw.cell (p := ⟨w.heap.size, 2, none⟩) kl).trans k2; have q3 := (hSw.cell (p := ⟨w.heap.size, 3, none⟩) kl).trans k3; have q4 := (hSw.cell (p := ⟨w.heap.size, 4, none⟩) kl).trans k4; have s1 := Nat.lt_of_lt_of_le kl hSw.size; go_simp; try (with_reducible rfl))
    try simp only [Act.put, List.setIfInBounds_toArray, List.set_cons_zero, List.set_cons_succ]
    refine wpAnyH_ready (rs := [4]) (by kernel_rfl) (by simp) ?_
    refine AllReadyH.cons rfl (fun K hK => ?_) AllReadyH.nil
    go_simp
    refine (bfaultIf_any _ _ _).mono ?_; rintro e w' ⟨rfl, rfl⟩
    refine hK.out _ _ hS (fun hHeld => ?_)
    clear hK K hHeld
    try simp only [Act.put, List.setIfInBounds_toArray, List.set_cons_zero, List.set_cons_succ]
    refine wpAnyH_ready (rs := [6]) (by kernel_rfl) (by simp) ?_
    refine AllReadyH.cons rfl (fun K hK => ?_) AllReadyH.nil
    go_simp
    refine (HS.out _).mono ?_; rintro e w3 ⟨rfl, b3⟩; have hS : Below W.heap.size W w3 := hS.trans (b3.mono hS.size)
    refine hK.out _ _ hS (fun hHeld => ?_)
    clear hK K hHeld
    try simp only [Act.put, List.setIfInBounds_toArray, List.set_cons_zero, List.set_cons_succ]
    refine wpAnyH_ready (rs := [11]) (by kernel_rfl) (by simp) ?_
    refine AllReadyH.cons rfl (fun K hK => ?_) AllReadyH.nil
    go_simp
    refine (bfaultIf_any _ _ _).mono ?_; rintro e w' ⟨rfl, rfl⟩
    refine hK.out _ _ hS (fun hHeld => ?_)
    clear hK K hHeld
    try simp only [Act.put, List.setIfInBounds_toArray, List.set_cons_zero, List.set_cons_succ]
    refine wpAnyH_ready (rs := [12]) (by kernel_rfl) (by simp) ?_
    refine AllReadyH.cons rfl (fun K hK => ?_) AllReadyH.nil
    go_simp
    have hS : Below W.heap.size W (w3.alloc (.cells #[.int .i64 (fIf (!I1) 1), .int .i64 (fIf (!S) 1), .int .i64 (fIf G 2)] 25)) := hS.alloc hS.size _
    refine hK.out _ _ hS (fun hHeld => ?_)
    clear hK K hHeld
    try simp only [Act.put, List.setIfInBounds_toArray, List.set_cons_zero, List.set_cons_succ]
    refine wpAnyH_ready (rs := [13]) (by kernel_rfl) (by simp) ?_
    refine AllReadyH.cons rfl (fun K hK => ?_) AllReadyH.nil
    go_simp
    refine (lfirst3 _ _ _ _).mono ?_; rintro e w' ⟨rfl, rfl⟩; rw [HSM.out]
    refine hK.out _ _ hS (fun hHeld => ?_)
    clear hK K hHeld
    try simp only [Act.put, List.setIfInBounds_toArray, List.set_cons_zero, List.set_cons_succ]
    refine wpAnyH_take (i := 14) (v := ?_) rfl (by kernel_rfl) (by kernel_rfl) (by kernel_rfl) (fun _ _ _ h => h) (Or.inl ⟨by kernel_rfl, ?hy⟩) (by assumption) ?_
    case hy => (intro wq hSw; have q0 := (hSw.cell (p := ⟨w.heap.size, 0, none⟩) kl).trans k0; have q1 := (hSw.cell (p := ⟨w.heap.size, 1, none⟩) kl).trans k1; have q2 := (hSw.cell (p := ⟨w.heap.size, 2, none⟩) kl).trans k2; have q3 := (hSw.cell (p := ⟨w.heap.size, 3, none⟩) kl).trans k3; have q4 := (hSw.cell (p := ⟨w.heap.size, 4, none⟩) kl).trans k4; have s1 := Nat.lt_of_lt_of_le kl hSw.size; go_simp; try (with_reducible rfl))
    try simp only [Act.put, List.setIfInBounds_toArray, List.set_cons_zero, List.set_cons_succ]
    refine wpAnyH_done (by kernel_rfl) ?_ _
    refine NoPanic.normal ?_
    try go_simp
    go_wp2_with fail
    go_meet
    exact ⟨rfl, hS⟩
  case rest =>
    obtain ⟨rfl, bx⟩ := hcut
    have FX := FX.below bx FX.lt
    have b1 := b1.trans (bx.mono b1.size)
    clear bx
    by_cases hh : HD = 0
    rotate_left
    · have hne : (HD == 0) = false := by simp; exact hh
      have hne2 : (HD != 0) = true := by simp; exact hh
      have e1 : R = HD := by rw [HE.out, if_neg hh]
      subst e1
      go_wp2_with fail
      go_ret
      exact ⟨rfl, b1⟩
    · have e1 : R = XF := by rw [HE.out, if_pos hh]
      subst hh e1
      have d3 := FX.c3; have dl := FX.lt
      go_wp2_with fail
      clear d3 dl
      go_loopw [27] (fun v wr => ∃ k : Nat, k ≤ n ∧ v = .int .i64 k ∧ Below w.heap.size w wr ∧ LBox wr w.heap.size tg fi bk (.slice a n cap) en ∧ Hid (entsF tg (es.drop k) = R)) (fun v _ => n - (intOf v).toNat)
      case atStart => exact ⟨0, Nat.zero_le _, rfl, b1, FX, Lib.hid (by rw [List.drop_zero]; exact HXF.out)⟩
      case round =>
        clear b1 FX
        obtain ⟨k, hk, rfl, hbr, FX, HD2⟩ := hrel
        by_cases hk2 : k < n
        rotate_left
        · have e1 : R = 0 := by rw [← HD2.out, List.drop_of_length_le (by rw [HN.out]; omega)]; rfl
          have kD : decide ((k : Int) < (n : Int)) = false := by simp; omega
          have kD2 : decide (k < n) = false := by simp; omega
          subst e1
          go_wp2_with fail
          go_ret
          exact ⟨rfl, hbr⟩
        · have hEW := HEN.out.below hbr (Nat.le_refl _)
          obtain ⟨b, off, cap', hv, hlt, -, -⟩ := hEW.spot (by rw [HN.out]; omega)
          simp only [Value.slice.injEq] at hv
          obtain ⟨rfl, -, rfl⟩ := hv
          obtain ⟨c0, c1, c2, c3, c4, c5, c6⟩ := hEW.cells k (by rw [HN.out]; exact hk2)
          have hst := entsF_drop tg es k (by rw [HN.out]; exact hk2)
          rw [HD2.out] at hst
          have hce := HCE.out k hk2
          obtain ⟨x, hx⟩ : ∃ x, es.getD k ent0 = x := ⟨_, rfl⟩
          obtain ⟨a6, c6', hu⟩ := (hEW.strs k (by rw [HN.out]; exact hk2)).parts
          rw [hx] at hu
          obtain ⟨l6, hl6⟩ : ∃ l6, x.ex.length = l6 := ⟨_, rfl⟩
          rw [hl6] at hu
          rw [hx] at hce hst c0 c1 c2 c3 c4 c5
          rw [hu] at hce c6
          obtain ⟨z, hz⟩ : ∃ z, entE x tg = z := ⟨_, rfl⟩
          rw [hz] at hst hce
          have HST := Lib.hid hst; have HC := Lib.hid hce
          have kI : (k : Int) < (n : Int) := by omega
          have hwI : IntKind.i64.wrap ((k : Int) + 1) = (k : Int) + 1 := IntWalk.i64_in _ ⟨by omega, by omega⟩
          have EX := EBox.new wr x (.slice a6 l6 c6') 32
          have FX := FX.alloc (.cells #[.string x.uri, .int .i64 x.mi, .bool x.br, .int .i64 x.da, .string x.key, .bool x.gap, .slice a6 l6 c6'] 32)
          have hbr := hbr.alloc (o := .cells #[.string x.uri, .int .i64 x.mi, .bool x.br, .int .i64 x.da, .string x.key, .bool x.gap, .slice a6 l6 c6'] 32) hbr.size
          clear hst hx hce hu hz hEW hl6
          go_upto_region 7 with fail
          generalize wr.alloc (.cells #[.string x.uri, .int .i64 x.mi, .bool x.br, .int .i64 x.da, .string x.key, .bool x.gap, .slice a6 l6 c6'] 32) = W9 at *
          generalize wr.heap.size = X9 at *
          clear c0 c1 c2 c3 c4 c5 c6
          have y0 := EX.c0; have y1 := EX.c1; have y2 := EX.c2; have y3 := EX.c3; have y4 := EX.c4; have y5 := EX.c5; have y6 := EX.c6; have yl := EX.lt
          have q0 := FX.c0; have ql := FX.lt
          go_wp2_with fail
          refine (HC.out _ hbr).mono ?_; rintro e w5 ⟨rfl, b5⟩
          have hbn := hbr.trans (b5.mono hbr.size)
          have FX := FX.below b5 FX.lt
          clear y0 y1 y2 y3 y4 y5 y6 yl q0 ql EX b5
          by_cases h0 : z = 0
          · have HN2 : Hid (entsF tg (es.drop (k + 1)) = R) := Lib.hid (by have := HST.out; rw [if_pos h0] at this; exact this.symm)
            subst h0
            go_wp2_with fail
            go_roundw
            case rel => exact ⟨k + 1, by omega, by go_num, hbn, FX, HN2⟩
            case measure => simp [intOf]; omega
          · have hne : (z == 0) = false := by simp; exact h0
            have hne2 : (z != 0) = true := by simp; exact h0
            have e1 : R = z := by have := HST.out; rw [if_neg h0] at this; exact this
            subst e1
            go_wp2_with fail
            go_ret
            exact ⟨rfl, hbn⟩
theorem Check_any (l : Lst) (v : Value) (w : World) (hE : Ents w v l.es) (hwf : ∀ y ∈ l.es, EntWf y) :
    Calls Try.prog 39 #[.agg #[.int .i64 l.tg, .int .i64 l.fi, .int .i64 l.bk, v, .bool l.en]] w fun r w' => r = .returned (.int .i64 (lstF l)) ∧ Below w.heap.size w w' := by
  obtain ⟨U, hU⟩ := hE
  exact chkL_walk l.tg l.fi l.bk v l.en l.es U w hU hwf

end Go.Proofs.Ytikpemmfmkdndaa
