/- LadderStepsHaveNoGaps: whatever the input, the law returns true: the walk. -/
import Derived.Test.YtfjgpafcdkodmaaSteps
import Derived.Test.YtfjgpafcdkodmaaSomeR
import Derived.Test.YtfjgpafcdkodmaaWrong
import Derived.Test.YtfjgpafcdkodmaaMean5
namespace Go.Proofs.Ytfjgpafcdkodmaa
set_option linter.unusedVariables false
set_option linter.unusedSimpArgs false
open Go.RowKit Go.Shelf Go.Deep

set_option maxRecDepth 100000 in
set_option maxHeartbeats 8000000 in
theorem nogaps_none (u : Value) (rs : List Rung) (p q : Int) (w : World) (hu : Rungs w u rs) (hwf : ∀ y ∈ rs, y.nm.size ≤ maxLen) (h0 : stepsB rs p q = false) :
    Calls Try.prog 10 #[u, .agg #[.int .i64 p, .int .i64 q]] w fun e w' => e = .returned (.bool true) ∧ Below w.heap.size w w' := by
  have HS : Hid (∀ W, Below w.heap.size w W → Calls Try.prog 35 #[u, .agg #[.int .i64 p, .int .i64 q]] W fun r w' => (∃ a c, r = .returned (.tuple #[.slice a 0 c, .bool false, .int .i64 (stF rs p q)])) ∧ Below W.heap.size W w') := Lib.hid (fun W hb => by
    have h := Steps_any u rs p q W (hu.below hb (Nat.le_refl _)) hwf
    rw [h0, stepsL_none h0] at h
    refine h.mono ?_
    rintro r w' ⟨⟨v, rfl, hv⟩, hb'⟩
    obtain ⟨a, c, rfl, -⟩ := hv.parts
    exact ⟨⟨a, c, rfl⟩, hb'⟩)
  have b1 : Below w.heap.size w (w.alloc (.cells #[.int .i64 p, .int .i64 q] 49)) := (Below.refl _ w).alloc (Nat.le_refl _) _
  have T1 := Two.new w p q 49
  obtain ⟨F, hF⟩ : ∃ F, stF rs p q = F := ⟨_, rfl⟩
  rw [hF] at HS
  clear hF hu hwf h0
  go_enter Try.func10, Try.ntmps10
  go_upto_region 1 with fail
  generalize w.alloc (.cells #[.int .i64 p, .int .i64 q] 49) = W at *
  have k0 := T1.c0; have k1 := T1.c1; have kl := T1.lt
  clear T1
  go_wp2_with fail
  refine (HS.out _ b1).mono ?_; rintro r w3 ⟨⟨a, c, rfl⟩, b3⟩
  have b4 := b1.trans (b3.mono b1.size)
  clear k0 k1 kl b3
  by_cases hf : F = 0
  · subst hf
    go_wp2_with fail
    refine (awake5_any _).mono ?_; rintro e w5 ⟨rfl, b5⟩
    go_wp2_with fail
    go_ret
    exact ⟨rfl, b4.trans (b5.mono b4.size)⟩
  · have hne : (F == 0) = false := by simp; exact hf
    have hne2 : (F != 0) = true := by simp; exact hf
    go_wp2_with fail
    refine (awake5_any _).mono ?_; rintro e w5 ⟨rfl, b5⟩
    go_wp2_with fail
    go_ret
    exact ⟨rfl, b4.trans (b5.mono b4.size)⟩
theorem fcells_at (L : List (Int × Int)) : ∀ k (hk : k < L.length), (fcells L)[k * 2]? = some (.int .i64 (L[k]'hk).1) ∧ (fcells L)[k * 2 + 1]? = some (.int .i64 (L[k]'hk).2) := by
  induction L with
  | nil => intro k hk; simp at hk
  | cons y t ih =>
    intro k hk
    have e : fcells (y :: t) = .int .i64 y.1 :: .int .i64 y.2 :: fcells t := rfl
    cases k with
    | zero => exact ⟨rfl, rfl⟩
    | succ k =>
      have h := ih k (by simpa using hk)
      rw [e, show (k + 1) * 2 = k * 2 + 1 + 1 by omega]
      simp only [List.getElem?_cons_succ, List.getElem_cons_succ]
      exact h
theorem natI_getD (xs : List Nat) (j : Nat) (h : j < xs.length) : (natI xs).getD j 0 = ((xs.getD j 0 : Nat) : Int) := by
  unfold natI
  rw [List.getD_eq_getElem?_getD, List.getElem?_map, List.getD_eq_getElem?_getD, List.getElem?_eq_getElem h]; rfl
set_option maxRecDepth 100000 in
set_option maxHeartbeats 16000000 in
theorem nogaps_walk (u : Value) (n cap : Nat) (a : Option Addr) (e : Nat) (rs : List Rung) (xs : List Nat) (p q : Int) (w : World) (hun : u = .slice a n cap) (hne : Hid (n = e + 1)) (hn5 : n ≤ 100) (hm5 : xs.length ≤ 100) (h1 : 1 ≤ xs.length) (hfst : xs.getD 0 0 = 0) (hlst : xs.getD (xs.length - 1) 0 = e)
    (HS : Hid (∀ W, Below w.heap.size w W → Calls Try.prog 35 #[u, .agg #[.int .i64 p, .int .i64 q]] W fun r w' => (∃ v, r = .returned (.tuple #[v, .bool true, .int .i64 0]) ∧ NumsC w' v (natI xs)) ∧ Below W.heap.size W w'))
    (HSO : Hid (∀ W v, Below w.heap.size w W → NumsC W v (natI xs) → Calls Try.prog 42 #[u, v] W fun e w' => (∃ y, e = .returned y ∧ Rungs w' y (someR rs xs)) ∧ Below W.heap.size W w'))
    (HW : Hid (∀ W y, Rungs W y (someR rs xs) → Calls Try.prog 39 #[y, .agg #[.int .i64 p, .int .i64 q]] W fun r w' => (∃ v Z L, r = .returned (.tuple #[v, .int .i64 0]) ∧ w'.ownsRow Z 63 2 v L.length (fcells L) ∧ ∀ x ∈ L, x.1 ≠ 3) ∧ Below W.heap.size W w')) :
    Calls Try.prog 10 #[u, .agg #[.int .i64 p, .int .i64 q]] w fun e w' => e = .returned (.bool true) ∧ Below w.heap.size w w' := by
  subst hun
  have b1 : Below w.heap.size w (w.alloc (.cells #[.int .i64 p, .int .i64 q] 49)) := (Below.refl _ w).alloc (Nat.le_refl _) _
  have T1 := Two.new w p q 49
  have HFS := Lib.hid hfst; have HLS := Lib.hid hlst; have HH1 := Lib.hid h1; have HM5 := Lib.hid hm5; have HNE := hne
  have wn1 : IntKind.i64.wrap ((n : Int) - 1) = (e : Int) := by have := HNE.out; rw [show (n : Int) - 1 = (e : Int) by omega]; exact IntWalk.i64_in _ ⟨by omega, by omega⟩
  clear hfst hlst h1 hm5 hne
  go_enter Try.func10, Try.ntmps10
  go_upto_region 1 with fail
  generalize w.alloc (.cells #[.int .i64 p, .int .i64 q] 49) = W at *
  have k0 := T1.c0; have k1 := T1.c1; have kl := T1.lt
  go_wp2_with fail
  refine (HS.out _ b1).mono ?_; rintro r w3 ⟨⟨v, rfl, hv⟩, b3⟩
  have b4 := b1.trans (b3.mono b1.size)
  have T1 := T1.below b3 T1.lt
  have HV := Lib.hid hv
  clear k0 k1 kl b3 b1 HS
  have hl : (natI xs).length = xs.length := by simp [natI]
  rcases hv.nums with ⟨_, _, _, hz⟩ | ⟨g, o, cp, rfl, hne, hg, hcm, hc⟩
  · have h5 := congrArg List.length hz; have h6 := HH1.out; rw [hl, List.length_nil] at h5; omega
  · have HC : Hid (∀ j, j < xs.length → w3.cell? ⟨g, o + j, none⟩ = some (.int .i64 ((xs.getD j 0 : Nat) : Int))) := Lib.hid (fun j hj => by have := hc j (by rw [hl]; exact hj); rwa [natI_getD xs j hj] at this)
    rw [hl] at hcm HV ⊢
    clear hc hne hv hl
    obtain ⟨m, hm⟩ : ∃ m, xs.length = m := ⟨_, rfl⟩
    rw [hm] at HC HLS HH1 HM5 HV hcm ⊢
    have m1 := HH1.out
    have m5 := HM5.out
    have s1 : w3.cell? ⟨g, o, none⟩ = some (.int .i64 0) := by have := HC.out 0 m1; rwa [HFS.out] at this
    have s2 : w3.cell? ⟨g, o + (m - 1), none⟩ = some (.int .i64 (e : Int)) := by have := HC.out (m - 1) (by omega); rwa [HLS.out] at this
    have m0 : ((m : Int) == 0) = false := by simp; omega
    have mI : (0 : Int) < (m : Int) := by omega
    have j2 : (0 : Int) ≤ (m : Int) - 1 := by omega
    have j3 : (m : Int) - 1 < (m : Int) := by omega
    have j6 : (1 : Int) ≤ (m : Int) := by omega
    have j4 : ((m : Int) - 1).toNat = m - 1 := by omega
    have j5 : IntKind.i64.wrap ((m : Int) - 1) = (m : Int) - 1 := IntWalk.i64_in _ ⟨by omega, by omega⟩
    have ez : ((e : Int) != (e : Int)) = false := by simp
    clear hm
    go_wp2_with fail
    refine (awake5_any _).mono ?_; rintro e' w5 ⟨rfl, b5⟩
    have HV := Lib.hid (HV.out.below b5 (Nat.le_refl _))
    have T1 := T1.below b5 T1.lt
    have b4 := b4.trans (b5.mono b4.size)
    clear b5 s1 s2 HC
    go_upto_region 6 with fail
    go_cut [7, 8] (fun s7 s8 wx => s7 = .int .i64 0 ∧ (∃ Z L, wx.ownsRow Z 63 2 s8 L.length (fcells L) ∧ ∀ x ∈ L, x.1 ≠ 3) ∧ Below w5.heap.size w5 wx)
    case first =>
      have k0 := T1.c0; have k1 := T1.c1; have kl := T1.lt
      clear T1
      refine wp_region_noPanic ?_
      refine wp_region_held_drew (S := fun w' => Below w5.heap.size w5 w') (by kernel_rfl) ?hS0 (fun hHeld => ?_)
      case hS0 => exact (Below.refl _ w5).drew
      have hS : Below w5.heap.size w5 w5.drew := (Below.refl _ w5).drew
      clear hHeld
      generalize w5.drew = wd at *
      refine wpAnyH_take (i := 0) (v := ?_) rfl (by kernel_rfl) (by kernel_rfl) (by kernel_rfl) (fun _ _ _ h => h) (Or.inl ⟨by kernel_rfl, ?hy⟩) (by assumption) ?_
      case hy => (intro wq hSw; have q0 := (hSw.cell (p := ⟨w.heap.size, 0, none⟩) kl).trans k0; have q1 := (hSw.cell (p := ⟨w.heap.size, 1, none⟩) kl).trans k1; have s1 := Nat.lt_of_lt_of_le kl hSw.size; go_simp; try (with_reducible rfl))
      try simp only [Act.put, List.setIfInBounds_toArray, List.set_cons_zero, List.set_cons_succ]
      refine wpAnyH_take (i := 1) (v := ?_) rfl (by kernel_rfl) (by kernel_rfl) (by kernel_rfl) (fun _ _ _ h => h) (Or.inl ⟨by kernel_rfl, ?hy⟩) (by assumption) ?_
      case hy => (intro wq hSw; have q0 := (hSw.cell (p := ⟨w.heap.size, 0, none⟩) kl).trans k0; have q1 := (hSw.cell (p := ⟨w.heap.size, 1, none⟩) kl).trans k1; have s1 := Nat.lt_of_lt_of_le kl hSw.size; go_simp; try (with_reducible rfl))
      try simp only [Act.put, List.setIfInBounds_toArray, List.set_cons_zero, List.set_cons_succ]
      refine wpAnyH_take (i := 3) (v := ?_) rfl (by kernel_rfl) (by kernel_rfl) (by kernel_rfl) (fun _ _ _ h => h) (Or.inl ⟨by kernel_rfl, ?hy⟩) (by assumption) ?_
      case hy => (intro wq hSw; have q0 := (hSw.cell (p := ⟨w.heap.size, 0, none⟩) kl).trans k0; have q1 := (hSw.cell (p := ⟨w.heap.size, 1, none⟩) kl).trans k1; have s1 := Nat.lt_of_lt_of_le kl hSw.size; go_simp; try (with_reducible rfl))
      try simp only [Act.put, List.setIfInBounds_toArray, List.set_cons_zero, List.set_cons_succ]
      refine wpAnyH_ready (rs := [2]) (by kernel_rfl) (by simp) ?_
      refine AllReadyH.cons rfl (fun K hK => ?_) AllReadyH.nil
      go_simp
      refine (HSO.out _ _ (b4.trans (hS.mono b4.size)) (HV.out.below hS (Nat.le_refl _))).mono ?_; rintro e' w6 ⟨⟨y, rfl, hy⟩, b6⟩; have hS : Below w5.heap.size w5 w6 := hS.trans (b6.mono hS.size)
      refine hK.out _ _ hS (fun hHeld => ?_)
      clear hK K hHeld
      try simp only [Act.put, List.setIfInBounds_toArray, List.set_cons_zero, List.set_cons_succ]
      refine wpAnyH_ready (rs := [4]) (by kernel_rfl) (by simp) ?_
      refine AllReadyH.cons rfl (fun K hK => ?_) AllReadyH.nil
      go_simp
      refine (HW.out _ _ hy).mono ?_; rintro e' w7 ⟨⟨v7, Z, L, rfl, hL, hL3⟩, b7⟩; have hS : Below w5.heap.size w5 w7 := hS.trans (b7.mono hS.size)
      refine hK.out _ _ hS (fun hHeld => ?_)
      clear hK K hHeld
      try simp only [Act.put, List.setIfInBounds_toArray, List.set_cons_zero, List.set_cons_succ]
      refine wpAnyH_take (i := 5) (v := ?_) rfl (by kernel_rfl) (by kernel_rfl) (by kernel_rfl) (fun _ _ _ h => h) (Or.inl ⟨by kernel_rfl, ?hy⟩) (by assumption) ?_
      case hy => (intro wq hSw; have q0 := (hSw.cell (p := ⟨w.heap.size, 0, none⟩) kl).trans k0; have q1 := (hSw.cell (p := ⟨w.heap.size, 1, none⟩) kl).trans k1; have s1 := Nat.lt_of_lt_of_le kl hSw.size; go_simp; try (with_reducible rfl))
      try simp only [Act.put, List.setIfInBounds_toArray, List.set_cons_zero, List.set_cons_succ]
      refine wpAnyH_take (i := 6) (v := ?_) rfl (by kernel_rfl) (by kernel_rfl) (by kernel_rfl) (fun _ _ _ h => h) (Or.inl ⟨by kernel_rfl, ?hy⟩) (by assumption) ?_
      case hy => (intro wq hSw; have q0 := (hSw.cell (p := ⟨w.heap.size, 0, none⟩) kl).trans k0; have q1 := (hSw.cell (p := ⟨w.heap.size, 1, none⟩) kl).trans k1; have s1 := Nat.lt_of_lt_of_le kl hSw.size; go_simp; try (with_reducible rfl))
      try simp only [Act.put, List.setIfInBounds_toArray, List.set_cons_zero, List.set_cons_succ]
      refine wpAnyH_take (i := 7) (v := ?_) rfl (by kernel_rfl) (by kernel_rfl) (by kernel_rfl) (fun _ _ _ h => h) (Or.inl ⟨by kernel_rfl, ?hy⟩) (by assumption) ?_
      case hy => (intro wq hSw; have q0 := (hSw.cell (p := ⟨w.heap.size, 0, none⟩) kl).trans k0; have q1 := (hSw.cell (p := ⟨w.heap.size, 1, none⟩) kl).trans k1; have s1 := Nat.lt_of_lt_of_le kl hSw.size; go_simp; try (with_reducible rfl))
      try simp only [Act.put, List.setIfInBounds_toArray, List.set_cons_zero, List.set_cons_succ]
      refine wpAnyH_take (i := 8) (v := ?_) rfl (by kernel_rfl) (by kernel_rfl) (by kernel_rfl) (fun _ _ _ h => h) (Or.inl ⟨by kernel_rfl, ?hy⟩) (by assumption) ?_
      case hy => (intro wq hSw; have q0 := (hSw.cell (p := ⟨w.heap.size, 0, none⟩) kl).trans k0; have q1 := (hSw.cell (p := ⟨w.heap.size, 1, none⟩) kl).trans k1; have s1 := Nat.lt_of_lt_of_le kl hSw.size; go_simp; try (with_reducible rfl))
      try simp only [Act.put, List.setIfInBounds_toArray, List.set_cons_zero, List.set_cons_succ]
      refine wpAnyH_take (i := 9) (v := ?_) rfl (by kernel_rfl) (by kernel_rfl) (by kernel_rfl) (fun _ _ _ h => h) (Or.inl ⟨by kernel_rfl, ?hy⟩) (by assumption) ?_
      case hy => (intro wq hSw; have q0 := (hSw.cell (p := ⟨w.heap.size, 0, none⟩) kl).trans k0; have q1 := (hSw.cell (p := ⟨w.heap.size, 1, none⟩) kl).trans k1; have s1 := Nat.lt_of_lt_of_le kl hSw.size; go_simp; try (with_reducible rfl))
      try simp only [Act.put, List.setIfInBounds_toArray, List.set_cons_zero, List.set_cons_succ]
      refine wpAnyH_done (by kernel_rfl) ?_ _
      refine NoPanic.normal ?_
      try go_simp
      go_wp2_with fail
      go_meet
      exact ⟨rfl, ⟨Z, L, hL, hL3⟩, hS⟩
    case rest =>
      obtain ⟨rfl, ⟨Z, L, hL, hL3⟩, bx⟩ := hcut
      have b4 := b4.trans (bx.mono b4.size)
      obtain ⟨a3, c3, rfl⟩ := fown_form hL
      have HL := Lib.hid hL
      have HL3 := Lib.hid hL3
      obtain ⟨M, hM⟩ : ∃ M, L.length = M := ⟨_, rfl⟩
      have HM := Lib.hid hM
      have HMX : Hid (M ≤ 9223372036854775807) := Lib.hid (by
        rw [← hM]
        rcases hL.2 with ⟨-, h0⟩ | ⟨_, _, _, -, -, -, h1, h2, -⟩
        · omega
        · exact Nat.le_trans h1 h2)
      rw [hM] at HL ⊢
      clear T1 bx hL hL3 hM HV
      go_wp2_with fail
      go_loopw [67] (fun v67 wr => ∃ k : Nat, k ≤ M ∧ v67 = .int .i64 (k : Int) ∧ Below wc.heap.size wc wr) (fun v67 _ => M - (intOf v67).toNat)
      case atStart => exact ⟨0, by omega, rfl, Below.refl _ _⟩
      case round =>
        obtain ⟨k, hk, rfl, hbr⟩ := hrel
        by_cases hk2 : k < M
        · have hown := ownsRow_kept HL.out hbr (Nat.le_refl _)
          obtain ⟨g2, cp2, hv2, hgb, hgl⟩ := hown.form (by omega)
          simp only [Value.slice.injEq] at hv2
          obtain ⟨rfl, -, rfl⟩ := hv2
          obtain ⟨x, hx⟩ : ∃ x, L[k]'(by rw [HM.out]; exact hk2) = x := ⟨_, rfl⟩
          have hx3 := HL3.out x (by rw [← hx]; exact List.getElem_mem _)
          have y0 : wr.cell? ⟨g2, k * 2, none⟩ = some (.int .i64 x.1) := by rw [World.ownsRow.cellAt hown (k * 2) (by omega)]; exact (fcells_at L k (by rw [HM.out]; exact hk2)).1.trans (by rw [hx])
          have y1 : wr.cell? ⟨g2, k * 2 + 1, none⟩ = some (.int .i64 x.2) := by rw [World.ownsRow.cellAt hown (k * 2 + 1) (by omega)]; exact (fcells_at L k (by rw [HM.out]; exact hk2)).2.trans (by rw [hx])
          have x3 : (x.1 == 3) = false := by simp; exact hx3
          have kI : (k : Int) < (M : Int) := by omega
          have wk1 : IntKind.i64.wrap ((k : Int) + 1) = (k : Int) + 1 := IntWalk.i64_in _ ⟨by omega, by have := HMX.out; omega⟩
          have FX := Two.new wr x.1 x.2 63
          have ba : Below wr.heap.size wr (wr.alloc (.cells #[.int .i64 x.1, .int .i64 x.2] 63)) := (Below.refl _ _).alloc (Nat.le_refl _) _
          have hbr := hbr.trans (ba.mono hbr.size)
          clear hown hx hx3 ba
          go_upto_region 12 with fail
          generalize wr.alloc (.cells #[.int .i64 x.1, .int .i64 x.2] 63) = W9 at *
          have z0 := FX.c0
          clear FX y0 y1
          go_wp2_with fail
          go_roundw
          case rel => exact ⟨k + 1, by omega, by go_num, hbr⟩
          case measure => simp [intOf]; omega
        · have kD : decide ((k : Int) < (M : Int)) = false := by simp; omega
          have kD2 : decide (k < M) = false := by simp; omega
          go_wp2_with fail
          go_ret
          exact ⟨rfl, b4.trans (hbr.mono b4.size)⟩
theorem nogapslaw (u : Value) (rs : List Rung) (p q : Int) (w : World) (hu : Rungs w u rs) (hwf : ∀ y ∈ rs, y.nm.size ≤ maxLen) :
    Calls Try.prog 10 #[u, .agg #[.int .i64 p, .int .i64 q]] w fun e w' => e = .returned (.bool true) ∧ Below w.heap.size w w' := by
  by_cases h0 : stepsB rs p q = true
  · have h1 := h0
    unfold stepsB at h1
    simp only [Bool.and_eq_true, decide_eq_true_eq] at h1
    obtain ⟨hst, hn, hg⟩ := h1
    have hok := (stF_zero rs p q).1 hst
    obtain ⟨e, he⟩ : ∃ e, rs.length - 1 = e := ⟨_, rfl⟩
    have hne : rs.length = e + 1 := by omega
    have hall : ∀ j, j < rs.length → gapAt rs p q j = false := by
      intro j hj
      unfold noGapB at hg
      rw [List.all_eq_true] at hg
      simpa using hg j (by simpa using hj)
    have hng : NoGaps rs p q e := noGaps_of (by rw [← hne]; exact hall)
    have hx := fun j hj => nextN_ok rs p q e hng j hj
    have hrow : RowOk rs p q e 0 (stepsN (nextN rs p q e) e) := walk_ok rs p q (nextN rs p q e) e hx (e - 0) 0 (Nat.zero_le _) (Nat.le_refl _)
    have hsl : stepsL rs p q = natI (stepsN (nextN rs p q e) e) := by rw [stepsL, if_pos h0, he]
    obtain ⟨xs, hxs⟩ : ∃ xs, stepsN (nextN rs p q e) e = xs := ⟨_, rfl⟩
    rw [hxs] at hrow hsl
    obtain ⟨hso, hsg⟩ := hrow.some hok.ok (by omega)
    have hxl : xs.length ≤ 100 := by have := hso.len; rwa [someR_len] at this
    have hst2 : stF (someR rs xs) p q = 0 := (stF_zero _ _ _).2 ⟨hso, hok.hp, hok.hq, hok.le⟩
    have hwf2 : ∀ y ∈ someR rs xs, y.nm.size ≤ maxLen := by
      intro y hy
      obtain ⟨x, hx, rfl⟩ := List.mem_map.1 hy
      have := hrow.le x hx
      rw [List.getD_eq_getElem?_getD, List.getElem?_eq_getElem (by omega)]
      exact hwf _ (List.getElem_mem _)
    obtain ⟨a, cap, rfl⟩ := hu.parts
    refine nogaps_walk _ rs.length cap a e rs xs p q w rfl (Lib.hid hne) hok.ok.len hxl hrow.ne hrow.first hrow.last ?_ ?_ ?_
    · refine Lib.hid fun W hb => ?_
      have h := Steps_any _ rs p q W (hu.below hb (Nat.le_refl _)) hwf
      rw [h0, hst, hsl] at h
      exact h
    · refine Lib.hid fun W v hb hv => ?_
      exact some_any _ v rs xs W (hu.below hb (Nat.le_refl _)) hv.nums hrow.ne hxl hok.ok.len (fun j hj => by
        have h3 : xs.getD j 0 = xs[j] := by rw [List.getD_eq_getElem?_getD, List.getElem?_eq_getElem hj]; rfl
        have := hrow.le xs[j] (List.getElem_mem hj)
        omega)
    · refine Lib.hid fun W y hy => ?_
      obtain ⟨b, off, cap, rfl, hb, hl, hm⟩ := hy.spot (by rw [someR_len]; exact hrow.ne)
      refine (wrong_walk b off _ cap (someR rs xs) p q W rfl hb hy hst2 hwf2 ⟨hl, hm⟩).mono ?_
      rintro r w' ⟨⟨v, Z, rfl, hv⟩, hb'⟩
      exact ⟨⟨v, Z, _, rfl, hv, flTo_nogap _ _ p q _ (fun j hj => hsg j hj)⟩, hb'⟩
  · exact nogaps_none u rs p q w hu hwf (Bool.eq_false_iff.2 h0)

end Go.Proofs.Ytfjgpafcdkodmaa
