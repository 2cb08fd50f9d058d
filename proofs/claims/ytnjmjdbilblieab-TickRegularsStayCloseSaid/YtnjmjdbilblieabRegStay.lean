/- TickRegularsStayClose: whatever the input, the law returns true. Plain facts first, then the walk. No conditions. -/
import Derived.Test.YtnjmjdbilblieabRegLaw
namespace Go.Proofs.Ytnjmjdbilblieab
set_option linter.unusedVariables false
set_option linter.unusedSimpArgs false
open Go.RowKit

theorem getD_snoc_old (ts : List Int) (x : Int) (j : Nat) (h : j < ts.length) : (ts ++ [x]).getD j 0 = ts.getD j 0 := by
  rw [List.getD_eq_getElem?_getD, List.getElem?_append_left h, ← List.getD_eq_getElem?_getD]
theorem getD_snoc_new (ts : List Int) (x : Int) (j : Nat) (h : j = ts.length) : (ts ++ [x]).getD j 0 = x := by
  subst h
  rw [List.getD_eq_getElem?_getD, List.getElem?_append_right (Nat.le_refl _), Nat.sub_self]
  rfl

theorem regTo_close (step slack : Int) (zs : List Int) (h0 : 0 ≤ slack) : ∀ k j, j < k → (((regTo step slack zs k).1.getD j 0 - zs.getD j 0).natAbs : Int) ≤ slack
  | 0, j, hj => by omega
  | k + 1, j, hj => by
    have ih := regTo_close step slack zs h0 k
    have hl := regTo_len step slack zs k
    unfold regTo
    split
    · by_cases hjk : j < k
      · show (((_ ++ [_] : List Int).getD j 0 - _).natAbs : Int) ≤ slack
        rw [getD_snoc_old _ _ _ (by omega)]
        exact ih j hjk
      · show (((_ ++ [_] : List Int).getD j 0 - _).natAbs : Int) ≤ slack
        have hjk2 : j = k := by omega
        subst hjk2
        rw [getD_snoc_new _ _ _ (by omega)]
        omega
    · rename_i hc
      by_cases hjk : j < k
      · show (((_ ++ [_] : List Int).getD j 0 - _).natAbs : Int) ≤ slack
        rw [getD_snoc_old _ _ _ (by omega)]
        exact ih j hjk
      · show (((_ ++ [_] : List Int).getD j 0 - _).natAbs : Int) ≤ slack
        have hjk2 : j = k := by omega
        subst hjk2
        rw [getD_snoc_new _ _ _ (by omega)]
        omega

theorem near_grid (g step n m : Int) (hs : 1 ≤ step) (h : n - g = step * m) : nearQ g step n = n := by
  unfold nearQ
  rw [h, Int.add_comm (step * m), Int.add_mul_ediv_left _ _ (by omega), Int.ediv_eq_zero_of_lt (by omega) (by omega), Int.zero_add, Int.mul_comm m, ← h]
  omega

theorem regTo_grid (step slack : Int) (zs : List Int) (hs : 1 ≤ step) (hg : ∀ j, j < zs.length → (zs.getD j 0 - zs.getD 0 0) % step = 0) :
    ∀ k, k ≤ zs.length → (regTo step slack zs k).1 = zs.take k ∧ (0 < k → ∃ m, (regTo step slack zs k).2 - zs.getD 0 0 = step * m)
  | 0, _ => ⟨by simp [regTo], fun h => by omega⟩
  | k + 1, hk => by
    obtain ⟨i1, i2⟩ := regTo_grid step slack zs hs hg k (by omega)
    have hd : ∃ m, zs.getD k 0 - zs.getD 0 0 = step * m := ⟨(zs.getD k 0 - zs.getD 0 0) / step, by
      have := Int.mul_ediv_add_emod (zs.getD k 0 - zs.getD 0 0) step
      rw [hg k (by omega)] at this
      omega⟩
    have ht : zs.take (k + 1) = zs.take k ++ [zs.getD k 0] := by
      rw [List.take_succ_eq_append_getElem (by omega), getD_eq_get _ _ (by omega)]
    unfold regTo
    split
    · exact ⟨by show _ ++ _ = _; rw [i1, ht], fun _ => hd⟩
    · rename_i hc
      have hk0 : 0 < k := by omega
      obtain ⟨m, hm⟩ := i2 hk0
      obtain ⟨m', hm'⟩ := hd
      have hn : nearQ (regTo step slack zs k).2 step (zs.getD k 0) = zs.getD k 0 := by
        refine near_grid _ _ _ (m' - m) hs ?_
        rw [Int.mul_sub]; omega
      exact ⟨by show _ ++ _ = _; rw [hn, i1, ht], fun _ => ⟨m, hm⟩⟩

theorem reg_form {zs : List Int} {step slack : Int} (h : regF zs step slack = 0) : stepOk step slack ∧ riseF zs = 0 ∧ regL zs step slack = (regTo step slack zs zs.length).1 ∧ ∀ t ∈ (regTo step slack zs zs.length).1, isTimeN t := by
  have hl : regL zs step slack = (regTo step slack zs zs.length).1 := by rw [regL, if_pos h]
  unfold regF at h
  split at h
  · omega
  · rename_i h1
    split at h
    · omega
    · split at h
      · exact ⟨Decidable.byContradiction h1, by omega, hl, by assumption⟩
      · omega

set_option maxRecDepth 100000 in
set_option maxHeartbeats 4000000 in
theorem stay_fail (v : Value) (zs : List Int) (step slack : Int) (w : World) (h : Nums w v zs) (hf : regF zs step slack ≠ 0) :
    Calls Try.prog 4 #[v, .int .i64 step, .int .i64 slack] w fun e w' => e = .returned (.bool true) ∧ Below w.heap.size w w' := by
  have hl : regL zs step slack = [] := by rw [regL, if_neg hf]
  obtain ⟨f, hf2⟩ : ∃ f, regF zs step slack = f := ⟨_, rfl⟩
  rw [hf2] at hf
  have HF := Lib.hid hf2
  have HL := Lib.hid hl
  clear hf2 hl
  have hb : (f == 0) = false := by simp [hf]
  have hb2 : (f != 0) = true := by simp [hf]
  go_enter Try.func4, Try.ntmps4
  go_wp2_with fail
  refine (reg_any _ zs _ _ _ h).mono ?_; rintro e w1 ⟨⟨u1, rfl, n1⟩, b1⟩
  rw [HF.out]; rw [HL.out] at n1
  obtain ⟨a1, c1, rfl, -⟩ := n1.parts
  clear n1
  go_wp2_with fail
  refine (awake_any _).mono ?_; rintro e w' ⟨rfl, q3, rfl⟩
  go_wp2_with fail
  go_ret
  exact ⟨rfl, below_drewN b1 _⟩

set_option maxRecDepth 100000 in
set_option maxHeartbeats 4000000 in
theorem stay_walk (b off n cap : Nat) (zs : List Int) (step slack : Int) (w : World) (hz : zs.length = n) (hn0 : 0 < n) (hlt : b < w.heap.size) (hf : regF zs step slack = 0)
    (hc : ∀ j, j < n → w.cell? ⟨b, off + j, none⟩ = some (.int .i64 (zs.getD j 0))) :
    Calls Try.prog 4 #[.slice (some ⟨b, off, none⟩) n cap, .int .i64 step, .int .i64 slack] w fun e w' => e = .returned (.bool true) ∧ Below w.heap.size w w' := by
  obtain ⟨hs, hr, hl, htm⟩ := reg_form hf
  have h5 := rise_small zs hr
  have hN : Nums w (.slice (some ⟨b, off, none⟩) n cap) zs := .inr ⟨b, off, cap, by rw [hz], fun h => by subst h; simp at hz; omega, hlt, by unfold maxLen; omega, by rw [hz]; exact hc⟩
  have hrt : riseTo zs n = 0 := by rw [← hr]; unfold riseF; rw [hz, if_neg (by omega)]
  have HT := Lib.hid (riseTo_zero zs n hrt)
  have hgrid := regTo_grid step slack zs hs.1.1
  have hclose := regTo_close step slack zs hs.2.1 n
  have hlen := regTo_len step slack zs n
  rw [hz] at hl htm h5
  obtain ⟨⟨s0, s1⟩, ⟨l0, l1⟩⟩ := hs
  have HF := Lib.hid hf
  have HL := Lib.hid hl
  have HZ := Lib.hid hz
  have HC := Lib.hid hc
  have HG := Lib.hid hgrid
  have HCL := Lib.hid hclose
  have HLN := Lib.hid hlen
  have HTM := Lib.hid htm
  have hse : (step == 0) = false := by simp; omega
  clear hz hc hrt hr hl htm hgrid hclose hlen hf
  go_enter Try.func4, Try.ntmps4
  go_wp2_with fail
  refine (reg_any _ zs _ _ _ hN).mono ?_; rintro e w1 ⟨⟨u1, rfl, n1⟩, b1⟩
  rw [HF.out]
  have hN1 := hN.below b1 (Nat.le_refl _)
  have HC1 : Hid (∀ j, j < n → w1.cell? ⟨b, off + j, none⟩ = some (.int .i64 (zs.getD j 0))) := Lib.hid (fun j hj => by
    rw [b1.cell (p := ⟨b, off + j, none⟩) hlt]; exact HC.out j hj)
  rw [HL.out] at n1
  have hN2 := n1
  rcases n1 with ⟨a3, c3, rfl, hnil⟩ | ⟨b3, o3, c3, rfl, hne3, hlt3, hm3, hc3⟩
  · have := HLN.out; rw [hnil] at this; simp at this; omega
  · rw [HLN.out] at hc3 hN2 ⊢
    have HC3 := Lib.hid hc3
    clear hc3 hm3 hne3 hN
    go_wp2_with fail
    go_loopw [9, 10] (fun g i wr => ∃ (k q : Nat) (gb : Bool), k ≤ n ∧ g = .bool gb ∧ i = .int .i64 k ∧ wr = w1.drewN q ∧ Hid (gb = true → ∀ j, j < k → (zs.getD j 0 - zs.getD 0 0) % step = 0)) (fun _ i _ => n - (intOf i).toNat)
    case atStart => exact ⟨0, 0, true, by omega, rfl, rfl, rfl, Lib.hid (fun _ j hj => by omega)⟩
    case round =>
      obtain ⟨k, q, gb, hk, rfl, rfl, rfl, HI⟩ := hrel
      by_cases hlt2 : k < n
      · obtain ⟨x, hx⟩ : ∃ x, zs.getD k 0 = x := ⟨_, rfl⟩
        obtain ⟨y, hy⟩ : ∃ y, zs.getD 0 0 = y := ⟨_, rfl⟩
        obtain ⟨a, ha⟩ : ∃ a, (regTo step slack zs n).1.getD k 0 = a := ⟨_, rfl⟩
        have cx := HC1.out k hlt2
        have cy := HC1.out 0 (by omega)
        have ca := HC3.out k hlt2
        have tx := HT.out.1 k hlt2
        have ty := HT.out.1 0 (by omega)
        have hcl := HCL.out k hlt2
        have hmono : y ≤ x := by
          have : ∀ j, j < n → zs.getD 0 0 ≤ zs.getD j 0 := by
            intro j
            induction j with
            | zero => intro _; exact Int.le_refl _
            | succ j ih => intro hj; have := HT.out.2 (j + 1) (by omega) hj; rw [Nat.add_sub_cancel] at this; exact Int.le_trans (ih (by omega)) this
          rw [← hx, ← hy]; exact this k hlt2
        rw [hx] at cx tx hcl
        rw [hy, Nat.add_zero] at cy
        rw [hy] at ty
        rw [ha] at ca hcl
        obtain ⟨tx0, tx1⟩ := tx
        obtain ⟨ty0, ty1⟩ := ty
        have HX := Lib.hid hx
        have HY := Lib.hid hy
        have e0 : decide (slack < a - x) = false := by simp; omega
        have e1 : decide (a - x < -slack) = false := by simp; omega
        clear hx hy ha
        cases gb with
        | false =>
          go_wp2_with fail
          go_quiet (fail)
          go_wp2_with fail
          go_quiet (fail)
          go_wp2_with fail
          go_roundw
          case rel => exact ⟨k + 1, _, false, by omega, rfl, by go_num, rfl, Lib.hid (fun h => by simp at h)⟩
          case measure => simp [intOf]; omega
        | true =>
          by_cases hmod : (x - y) % step = 0
          · have em : ((x - y) % step == 0) = true := by simp [hmod]
            have HM := Lib.hid hmod
            clear hmod
            go_wp2_with fail
            go_quiet (fail)
            go_wp2_with fail
            go_quiet (fail)
            go_wp2_with fail
            go_roundw
            case rel =>
              refine ⟨k + 1, _, true, by omega, rfl, by go_num, rfl, Lib.hid (fun _ j hj => ?_)⟩
              by_cases hjk : j = k
              · subst hjk; rw [HX.out, HY.out]; exact HM.out
              · exact HI.out (by simp) j (by omega)
            case measure => simp [intOf]; omega
          · have em : ((x - y) % step == 0) = false := by simp [hmod]
            clear hmod
            go_wp2_with fail
            go_quiet (fail)
            go_wp2_with fail
            go_quiet (fail)
            go_wp2_with fail
            go_roundw
            case rel => exact ⟨k + 1, _, false, by omega, rfl, by go_num, rfl, Lib.hid (fun h => by simp at h)⟩
            case measure => simp [intOf]; omega
      · have hkn : k = n := by omega
        have HKN := Lib.hid hkn
        clear hkn
        cases gb with
        | false =>
          go_wp2_with fail
          refine (awake_any _).mono ?_; rintro e w' ⟨rfl, q3, rfl⟩
          go_wp2_with fail
          go_ret
          exact ⟨rfl, below_drewN b1 _⟩
        | true =>
          have heq : (regTo step slack zs n).1 = zs := by
            have := (HG.out (fun j hj => HI.out (by simp) j (by rw [HKN.out]; rw [HZ.out] at hj; exact hj)) n (by rw [HZ.out]; exact Nat.le_refl _)).1
            rw [this, ← HZ.out, List.take_length]
          rw [heq] at hN2
          clear heq
          go_wp2_with fail
          refine (equal_any _ _ _ _ _ (hN2.drewN _) (hN1.drewN _)).mono ?_; rintro e w' ⟨rfl, q1, rfl⟩
          rw [beq_refl_list]
          go_wp2_with fail
          refine (awake_any _).mono ?_; rintro e w' ⟨rfl, q3, rfl⟩
          go_wp2_with fail
          go_ret
          exact ⟨rfl, below_drewN b1 _⟩

set_option maxRecDepth 100000 in
set_option maxHeartbeats 4000000 in
theorem stay_empty (a : Option Addr) (cap : Nat) (step slack : Int) (w : World) (hs : stepOk step slack) :
    Calls Try.prog 4 #[.slice a 0 cap, .int .i64 step, .int .i64 slack] w fun e w' => e = .returned (.bool true) ∧ Below w.heap.size w w' := by
  have hN : Nums w (.slice a 0 cap) [] := .inl ⟨a, cap, rfl, rfl⟩
  obtain ⟨f1, f2⟩ := reg_none step slack hs
  have F1 := Lib.hid f1
  have F2 := Lib.hid f2
  clear f1 f2 hs
  go_enter Try.func4, Try.ntmps4
  go_wp2_with fail
  refine (reg_any _ [] _ _ _ hN).mono ?_; rintro e w1 ⟨⟨u1, rfl, n1⟩, b1⟩
  rw [F1.out]; rw [F2.out] at n1
  have hN1 := hN.below b1 (Nat.le_refl _)
  have n1' := n1
  obtain ⟨a1, c1, rfl, -⟩ := n1.parts
  clear hN n1
  go_wp2_with fail
  refine wp_loop_rounds 1 ?_
  rw [rounds_succ]
  go_wp2_with fail
  refine (equal_any _ _ _ _ _ n1' hN1).mono ?_; rintro e w' ⟨rfl, q1, rfl⟩
  rw [beq_refl_list]
  go_wp2_with fail
  refine (awake_any _).mono ?_; rintro e w' ⟨rfl, q3, rfl⟩
  go_wp2_with fail
  go_ret
  exact ⟨rfl, below_drewN b1 _⟩

theorem stay_any (v : Value) (zs : List Int) (step slack : Int) (w : World) (h : Nums w v zs) :
    Calls Try.prog 4 #[v, .int .i64 step, .int .i64 slack] w fun e w' => e = .returned (.bool true) ∧ Below w.heap.size w w' := by
  by_cases hf : regF zs step slack = 0
  · rcases h with ⟨a, c, rfl, rfl⟩ | ⟨b, o, c, rfl, hne, hlt, hm, hc⟩
    · exact stay_empty a c step slack w (reg_form hf).1
    · exact stay_walk b o _ c zs step slack w rfl (List.length_pos_iff.2 hne) hlt hf hc
  · exact stay_fail v zs step slack w h hf

end Go.Proofs.Ytnjmjdbilblieab
