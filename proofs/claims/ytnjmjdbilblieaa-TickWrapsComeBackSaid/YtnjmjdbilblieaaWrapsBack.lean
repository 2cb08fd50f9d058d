/- TickWrapsComeBack: whatever the input, the law returns true. Plain facts first, then the walk. No conditions. -/
import Derived.Test.YtnjmjdbilblieaaWrapsLaw
namespace Go.Proofs.Ytnjmjdbilblieaa
set_option linter.unusedVariables false
set_option linter.unusedSimpArgs false
open Go.RowKit

theorem unwrapNext_mod (B : Nat) (ts : List Int) (c : Int) (hc : 0 ≤ c ∧ c < 2 ^ B) : unwrapNext B ts c % 2 ^ B = c := by
  unfold unwrapNext
  split
  · exact Int.emod_eq_of_lt hc.1 hc.2
  · rw [Int.add_emod, Int.emod_emod_of_dvd _ (Int.dvd_refl _), ← Int.add_emod]
    rw [show ts.getD (ts.length - 1) 0 - 2 ^ (B - 1) + (c - ts.getD (ts.length - 1) 0 + 2 ^ (B - 1)) = c by omega]
    exact Int.emod_eq_of_lt hc.1 hc.2

theorem unwrapTo_back (B : Nat) (zs : List Int) : ∀ (k : Nat) (ts : List Int), k ≤ zs.length → unwrapTo B zs k = some ts → ts.map (· % 2 ^ B) = zs.take k
  | 0, ts, _, h => by simp [unwrapTo] at h; subst h; rfl
  | k + 1, ts, hk, h => by
    unfold unwrapTo at h
    split at h
    · simp at h
    · rename_i ts' h'
      split at h
      · rename_i hc
        simp only [Option.some.injEq] at h
        subst h
        have ih := unwrapTo_back B zs k ts' (by omega) h'
        rw [List.map_append, ih, List.map_singleton, unwrapNext_mod B ts' _ hc.1, List.take_succ_eq_append_getElem (by omega), getD_eq_get _ _ (by omega)]
      · simp at h

theorem unwrap_form {zs : List Int} {bits : Int} (h : unwrapF zs bits = 0) : ckF zs.length bits = 0 ∧ ∃ ts, unwrapTo bits.toNat zs zs.length = some ts ∧ unwrapL zs bits = ts := by
  have hl : unwrapL zs bits = (unwrapTo bits.toNat zs zs.length).getD [] := by rw [unwrapL, if_pos h]
  unfold unwrapF at h
  split at h
  · omega
  · rename_i hc
    split at h
    · rename_i hs
      obtain ⟨ts, hts⟩ := Option.isSome_iff_exists.1 hs
      exact ⟨by omega, ts, hts, by rw [hl, hts]; rfl⟩
    · omega

/-- Counters that are made whole wrap to themselves. -/
theorem back_first {zs : List Int} {bits : Int} (h : unwrapF zs bits = 0) : wrapF (unwrapL zs bits) bits = 0 ∧ wrapL (unwrapL zs bits) bits = zs := by
  obtain ⟨hc, ts, hts, hl⟩ := unwrap_form h
  have hlen := unwrapTo_len _ _ _ _ hts
  have e0 : wrapF ts bits = 0 := by
    unfold wrapF
    rw [hlen, hc, if_neg (by simp), if_pos (unwrapTo_time _ _ _ _ hts)]
  rw [hl]
  refine ⟨e0, ?_⟩
  rw [wrapL, if_pos e0, unwrapTo_back _ _ _ _ (Nat.le_refl _) hts, List.take_length]

theorem next_same (M H D z y : Int) (q : Int) (hD : D = M * q) (hM : 0 < M) (hMH : M = 2 * H) (h0 : -H ≤ z - y) (h1 : z - y < H) :
    (y + D) - H + (z % M - (y + D) + H) % M = z + D := by
  have e : z % M - (y + D) + H = (z - y + H) + M * (-q - z / M) := by
    have := Int.mul_ediv_add_emod z M
    rw [Int.mul_sub, Int.mul_neg, ← hD]
    omega
  rw [e, Int.add_mul_emod_self_left, Int.emod_eq_of_lt (by omega) (by omega)]
  omega

/-- None is half a round or more from the one before it, as far as k. -/
def Near (B : Nat) (zs : List Int) (k : Nat) : Prop := ∀ j, 1 ≤ j → j < k → -(2 ^ (B - 1)) ≤ zs.getD j 0 - zs.getD (j - 1) 0 ∧ zs.getD j 0 - zs.getD (j - 1) 0 < 2 ^ (B - 1)

theorem unwrapTo_near (B : Nat) (zs cs : List Int) (hb : 2 ≤ B) (hcs : cs = zs.map (· % 2 ^ B)) (hnear : Near B zs zs.length) : ∀ (k : Nat) (ts : List Int), k ≤ zs.length → unwrapTo B cs k = some ts →
    ∀ j, j < k → ts.getD j 0 = zs.getD j 0 + (zs.getD 0 0 % 2 ^ B - zs.getD 0 0)
  | 0, ts, _, _ => fun j hj => by omega
  | k + 1, ts, hk, h => by
    have hp : (0 : Int) < 2 ^ B := Int.pow_pos (by omega)
    unfold unwrapTo at h
    split at h
    · simp at h
    · rename_i ts' h'
      split at h
      · rename_i hc
        simp only [Option.some.injEq] at h
        have ih := unwrapTo_near B zs cs hb hcs hnear k ts' (by omega) h'
        have hl := unwrapTo_len _ _ _ _ h'
        have hck : cs.getD k 0 = zs.getD k 0 % 2 ^ B := by
          rw [hcs, getD_eq_get _ _ (by simp; omega), getD_eq_get _ _ (by omega), List.getElem_map]
        have hD : zs.getD 0 0 % 2 ^ B - zs.getD 0 0 = 2 ^ B * (-(zs.getD 0 0 / 2 ^ B)) := by
          have := Int.mul_ediv_add_emod (zs.getD 0 0) (2 ^ B)
          rw [Int.mul_neg]; omega
        have hMH : (2 : Int) ^ B = 2 * 2 ^ (B - 1) := by
          have : B = (B - 1) + 1 := by omega
          rw [this, Int.pow_succ, show B - 1 + 1 - 1 = B - 1 by omega]; omega
        have hx : unwrapNext B ts' (cs.getD k 0) = zs.getD k 0 + (zs.getD 0 0 % 2 ^ B - zs.getD 0 0) := by
          unfold unwrapNext
          rw [hl, hck]
          by_cases hk0 : k = 0
          · subst hk0; rw [if_pos rfl]; omega
          · rw [if_neg hk0, ih (k - 1) (by omega)]
            obtain ⟨n0, n1⟩ := hnear k (by omega) (by omega)
            exact next_same _ _ _ _ _ _ hD hp hMH (by omega) (by omega)
        intro j hj
        subst h
        by_cases hjk : j < k
        · rw [List.getD_eq_getElem?_getD, List.getElem?_append_left (by omega), ← List.getD_eq_getElem?_getD]
          exact ih j hjk
        · have : j = k := by omega
          subst this
          rw [List.getD_eq_getElem?_getD, List.getElem?_append_right (by omega), hl, Nat.sub_self, List.getElem?_cons_zero, Option.getD_some]
          exact hx
      · simp at h

theorem wrap_form {zs : List Int} {bits : Int} (h : wrapF zs bits = 0) : ckF zs.length bits = 0 ∧ (∀ z ∈ zs, isTimeN z) ∧ wrapL zs bits = zs.map (· % 2 ^ bits.toNat) := by
  have hl : wrapL zs bits = zs.map (· % 2 ^ bits.toNat) := by rw [wrapL, if_pos h]
  unfold wrapF at h
  split at h
  · omega
  · rename_i hc
    split at h
    · exact ⟨by omega, by assumption, hl⟩
    · omega

theorem unwrapF_cases {zs : List Int} {bits : Int} (h : ckF zs.length bits = 0) : unwrapF zs bits = 0 ∨ (unwrapF zs bits = 1 ∧ unwrapL zs bits = []) := by
  by_cases hs : (unwrapTo bits.toNat zs zs.length).isSome
  · left; unfold unwrapF; rw [h, if_neg (by simp), if_pos hs]
  · right
    have : unwrapF zs bits = 1 := by unfold unwrapF; rw [h, if_neg (by simp), if_neg hs]
    exact ⟨this, by rw [unwrapL, if_neg (by omega)]⟩

/-- Times are made whole again, less one number. -/
theorem back_second {zs : List Int} {B : Nat} (hb : 2 ≤ B) (h : wrapF zs B = 0) (hn : Near B zs zs.length) :
    (unwrapF (wrapL zs B) B = 0 ∧ (unwrapL (wrapL zs B) B).length = zs.length ∧ (∀ t ∈ unwrapL (wrapL zs B) B, isTimeN t) ∧ ∃ D, ∀ j, j < zs.length → (unwrapL (wrapL zs B) B).getD j 0 = zs.getD j 0 + D) ∨
    (unwrapF (wrapL zs B) B = 1 ∧ unwrapL (wrapL zs B) B = []) := by
  obtain ⟨hc, ht, hl⟩ := wrap_form h
  have hlen : (wrapL zs B).length = zs.length := by rw [hl]; simp
  rcases unwrapF_cases (zs := wrapL zs B) (bits := B) (by rw [hlen]; exact hc) with h1 | h1
  · left
    obtain ⟨-, ts, hts, hul⟩ := unwrap_form h1
    have hul2 := unwrapTo_len _ _ _ _ hts
    rw [hul]
    refine ⟨h1, by omega, unwrapTo_time _ _ _ _ hts, zs.getD 0 0 % 2 ^ B - zs.getD 0 0, fun j hj => ?_⟩
    rw [hlen] at hts
    exact unwrapTo_near B zs (wrapL zs B) hb (by rw [hl]; simp) hn zs.length ts (Nat.le_refl _) (by simpa using hts) j hj
  · exact .inr h1

theorem drewN_add (w : World) (a b : Nat) : (w.drewN a).drewN b = w.drewN (a + b) := by
  unfold World.drewN
  simp [Nat.add_assoc]

theorem Near.succ {B : Nat} {zs : List Int} {j : Nat} (h : Near B zs (j + 1)) (h1 : -(2 ^ (B - 1)) ≤ zs.getD (j + 1) 0 - zs.getD j 0) (h2 : zs.getD (j + 1) 0 - zs.getD j 0 < 2 ^ (B - 1)) : Near B zs (j + 1 + 1) := by
  intro i h3 h4
  by_cases hi : i = j + 1
  · subst hi; exact ⟨h1, h2⟩
  · exact h i h3 (by omega)

set_option maxRecDepth 100000 in
set_option maxHeartbeats 4000000 in
theorem back_walk (b off n cap : Nat) (zs : List Int) (bits : Int) (w : World) (hz : zs.length = n) (hn0 : 0 < n) (hm : n ≤ maxLen) (hlt : b < w.heap.size)
    (hc : ∀ j, j < n → w.cell? ⟨b, off + j, none⟩ = some (.int .i64 (zs.getD j 0))) :
    Calls Try.prog 5 #[.slice (some ⟨b, off, none⟩) n cap, .int .i64 bits] w fun e w' => e = .returned (.bool true) ∧ Below w.heap.size w w' := by
  have hN : Nums w (.slice (some ⟨b, off, none⟩) n cap) zs := .inr ⟨b, off, cap, by rw [hz], fun h => by subst h; simp at hz; omega, hlt, by omega, by rw [hz]; exact hc⟩
  have hmm : n ≤ 9223372036854775807 := by unfold maxLen at hm; omega
  have HZ := Lib.hid hz
  have HC := Lib.hid hc
  clear hz hc hm
  go_enter Try.func5, Try.ntmps5
  go_wp2_with fail
  refine (unwrap_any _ zs _ _ hN).mono ?_; rintro e w1 ⟨⟨u1, rfl, n1⟩, b1⟩
  have hN1 := hN.below b1 (Nat.le_refl _)
  obtain ⟨f1, hf1⟩ : ∃ f, unwrapF zs bits = f := ⟨_, rfl⟩
  rw [hf1]
  go_upto_if 21 with fail
  go_cut [4] (fun s4 wx => s4 = .bool false ∧ Below w.heap.size w wx)
  case first =>
    by_cases h0 : f1 = 0
    · subst h0
      obtain ⟨p1, p2⟩ := back_first hf1
      have P1 := Lib.hid p1; have P2 := Lib.hid p2
      clear hf1 p1 p2
      go_wp2_with fail
      refine (wrap_any _ _ _ _ n1).mono ?_; rintro e w2 ⟨⟨u2, rfl, n2⟩, b2⟩
      rw [P1.out]
      rw [P2.out] at n2
      go_wp2_with fail
      refine (equal_any _ _ _ _ _ n2 (hN1.below b2 (Nat.le_refl _))).mono ?_; rintro e w' ⟨rfl, q1, rfl⟩
      rw [beq_refl_list]
      go_wp2_with fail
      go_meet
      exact ⟨rfl, below_drewN (b1.trans (b2.mono b1.size)) _⟩
    · have hb : (f1 == 0) = false := by simp [h0]
      clear hf1
      go_wp2_with fail
      go_meet
      exact ⟨rfl, b1⟩
  case rest =>
    obtain ⟨rfl, bc⟩ := hcut
    clear n1 hN1 b1 hf1
    have hNc := hN.below bc (Nat.le_refl _)
    clear hN
    go_wp2_with fail
    refine (wrap_any _ zs _ _ hNc).mono ?_; rintro e w2 ⟨⟨u2, rfl, n2⟩, b2⟩
    have b02 := bc.trans (b2.mono bc.size)
    obtain ⟨f2, hf2⟩ : ∃ f, wrapF zs bits = f := ⟨_, rfl⟩
    rw [hf2]
    by_cases h0 : f2 = 0
    · subst h0
      obtain ⟨hck, htime, hwl⟩ := wrap_form hf2
      obtain ⟨⟨B, rfl, hb2, hb48⟩, h5⟩ := ckF_zero hck
      obtain ⟨p0, p1⟩ := pow_bd B hb2 hb48
      obtain ⟨hh0, hh1⟩ := half_bd B hb2 hb48
      have HT : Hid (∀ j, j < n → isTimeN (zs.getD j 0)) := Lib.hid (fun j hj => by
        rw [getD_eq_get _ _ (by rw [HZ.out]; exact hj)]; exact htime _ (List.getElem_mem _))
      have HF2 := Lib.hid hf2
      have HC2 : Hid (∀ j, j < n → w2.cell? ⟨b, off + j, none⟩ = some (.int .i64 (zs.getD j 0))) := Lib.hid (fun j hj => by
        rw [b02.cell (p := ⟨b, off + j, none⟩) hlt]; exact HC.out j hj)
      have hlt2 : b < w2.heap.size := Nat.lt_of_lt_of_le hlt b02.size
      have hn5 : n ≤ 5000 := by rw [← HZ.out]; exact h5
      have hN2 := hNc.below b2 (Nat.le_refl _)
      clear hck htime hf2 hwl h5 hNc b2 bc hlt
      go_wp2_with fail
      go_loopw [10] (fun i wr => ∃ k q : Nat, 1 ≤ k ∧ k ≤ n + 1 ∧ i = .int .i64 k ∧ wr = w2.drewN q ∧ Hid (Near B zs k)) (fun i _ => n - (intOf i).toNat)
      case atStart => exact ⟨1, 0, by omega, by omega, rfl, rfl, Lib.hid (fun j h1 h2 => by omega)⟩
      case round =>
        obtain ⟨k, q, hk1, hkn, rfl, rfl, HN⟩ := hrel
        by_cases hk : k < n
        · obtain ⟨j, rfl⟩ : ∃ j, k = j + 1 := ⟨k - 1, by omega⟩
          obtain ⟨x, hx⟩ : ∃ x, zs.getD (j + 1) 0 = x := ⟨_, rfl⟩
          obtain ⟨y, hy⟩ : ∃ y, zs.getD j 0 = y := ⟨_, rfl⟩
          have cx := HC2.out (j + 1) hk
          have cy := HC2.out j (by omega)
          rw [hx] at cx
          rw [hy] at cy
          obtain ⟨tx0, tx1⟩ := HT.out (j + 1) hk
          obtain ⟨ty0, ty1⟩ := HT.out j (by omega)
          rw [hx] at tx0 tx1
          rw [hy] at ty0 ty1
          have HX := Lib.hid hx
          have HY := Lib.hid hy
          clear hx hy
          go_wp2_with fail
          go_quiet (fail)
          go_upto_region 13 with fail
          by_cases hA : 2 ^ (B - 1) ≤ x - y
          · go_wp2_with fail
            refine (awake_any _).mono ?_; rintro e w' ⟨rfl, q3, rfl⟩
            go_wp2_with fail
            go_ret
            exact ⟨rfl, below_drewN b02 _⟩
          · by_cases hB : x - y < -(2 ^ (B - 1))
            · go_wp2_with fail
              refine (awake_any _).mono ?_; rintro e w' ⟨rfl, q3, rfl⟩
              go_wp2_with fail
              go_ret
              exact ⟨rfl, below_drewN b02 _⟩
            · go_wp2_with fail
              go_roundw
              case rel => exact ⟨j + 1 + 1, q + nq, by omega, by omega, by go_num, rfl, Lib.hid (Near.succ HN.out (by rw [HX.out, HY.out]; omega) (by rw [HX.out, HY.out]; omega))⟩
              case measure => simp [intOf]; omega
        · have hnear : Near B zs zs.length := fun i h3 h4 => HN.out i h3 (by have := HZ.out; omega)
          have n2q := n2.drewN q
          have nq := hN2.drewN q
          go_wp2_with fail
          refine (unwrap_any _ _ _ _ n2q).mono ?_; rintro e w3 ⟨⟨u3, rfl, n3⟩, b3⟩
          have b03 : Below w.heap.size w w3 := (below_drewN b02 q).trans (b3.mono b02.size)
          have HC3 : Hid (∀ j, j < n → w3.cell? ⟨b, off + j, none⟩ = some (.int .i64 (zs.getD j 0))) := Lib.hid (fun j hj => by
            rw [b3.cell (p := ⟨b, off + j, none⟩) hlt2]; exact HC2.out j hj)
          rcases back_second hb2 HF2.out hnear with ⟨g1, g2, g3, D, g4⟩ | ⟨g1, g2⟩
          · have G1 := Lib.hid g1
            rw [HZ.out] at g2
            rcases n3 with ⟨a3, c3, rfl, hnil⟩ | ⟨b3', o3, c3, rfl, hne3, hlt3, hm3, hc3⟩
            · rw [hnil] at g2; simp at g2; omega
            · rw [g2] at hc3 ⊢
              rw [HZ.out] at g4
              have HD : Hid (∀ j, j < n → w3.cell? ⟨b3', o3 + j, none⟩ = some (.int .i64 (zs.getD j 0 + D))) := Lib.hid (fun j hj => by rw [hc3 j hj, g4 j hj])
              have HTD : Hid (∀ j, j < n → isTimeN (zs.getD j 0 + D)) := Lib.hid (fun j hj => by
                rw [← g4 j hj, getD_eq_get _ _ (by omega)]; exact g3 _ (List.getElem_mem _))
              clear hc3 g1 g2 g3 g4 hm3 hne3 b3 n2 n2q nq hN2 hnear b02
              rw [G1.out]
              go_wp2_with fail
              go_loopw [13] (fun i wr => ∃ k q : Nat, k ≤ n ∧ i = .int .i64 k ∧ wr = w3.drewN q) (fun i _ => n - (intOf i).toNat)
              case atStart => exact ⟨0, 0, by omega, rfl, rfl⟩
              case round =>
                obtain ⟨k, q, hkn, rfl, rfl⟩ := hrel
                by_cases hk : k < n
                · obtain ⟨x, hx⟩ : ∃ x, zs.getD k 0 = x := ⟨_, rfl⟩
                  obtain ⟨y, hy⟩ : ∃ y, zs.getD 0 0 = y := ⟨_, rfl⟩
                  have cx := HC3.out k hk
                  have cy := HC3.out 0 (by omega)
                  have dx := HD.out k hk
                  have dy := HD.out 0 (by omega)
                  obtain ⟨tx0, tx1⟩ := HT.out k hk
                  obtain ⟨ty0, ty1⟩ := HT.out 0 (by omega)
                  obtain ⟨sx0, sx1⟩ := HTD.out k hk
                  obtain ⟨sy0, sy1⟩ := HTD.out 0 (by omega)
                  rw [hx] at cx dx tx0 tx1 sx0 sx1
                  rw [hy] at cy dy ty0 ty1 sy0 sy1
                  rw [Nat.add_zero] at cy dy
                  have e1 : x + D - x = D := by omega
                  have e2 : y + D - y = D := by omega
                  clear hx hy
                  go_wp2_with fail
                  go_quiet (fail)
                  go_wp2_with fail
                  go_roundw
                  case rel => exact ⟨k + 1, q + nq, by omega, by go_num, rfl⟩
                  case measure => simp [intOf]; omega
                · go_wp2_with fail
                  refine (awake_any _).mono ?_; rintro e w' ⟨rfl, q3, rfl⟩
                  go_wp2_with fail
                  go_ret
                  exact ⟨rfl, below_drewN b03 _⟩
          · have G1 := Lib.hid g1
            rw [g2] at n3
            obtain ⟨a3, c3, rfl, -⟩ := n3.parts
            clear n3 g1 g2 b3 n2 n2q nq hN2 hnear b02
            rw [G1.out]
            go_wp2_with fail
            refine wp_loop_rounds 1 ?_
            rw [rounds_succ]
            go_wp2_with fail
            refine (awake_any _).mono ?_; rintro e w' ⟨rfl, q3, rfl⟩
            go_wp2_with fail
            go_ret
            exact ⟨rfl, below_drewN b03 _⟩
    · have hb : (f2 == 0) = false := by simp [h0]
      have hl2 : wrapL zs bits = [] := by rw [wrapL, if_neg (by omega)]
      rw [hl2] at n2
      obtain ⟨a2, c2, hu2, -⟩ := n2.parts
      rw [hu2]
      clear hf2 hl2 hu2 n2
      go_wp2_with fail
      refine (awake_any _).mono ?_; rintro e w' ⟨rfl, q3, rfl⟩
      go_wp2_with fail
      go_ret
      exact ⟨rfl, below_drewN b02 _⟩

theorem none_forms (bits : Int) : unwrapF [] bits = ckF 0 bits ∧ unwrapL [] bits = [] ∧ wrapF [] bits = ckF 0 bits ∧ wrapL [] bits = [] := by
  have hl : ([] : List Int).length = 0 := rfl
  by_cases h : ckF 0 bits = 0
  · have e1 : unwrapF [] bits = 0 := by unfold unwrapF; rw [hl, h]; simp [unwrapTo]
    have e2 : wrapF [] bits = 0 := by unfold wrapF; rw [hl, h]; simp
    refine ⟨by omega, ?_, by omega, ?_⟩
    · simp [unwrapL, unwrapTo]
    · simp [wrapL]
  · have e1 : unwrapF [] bits = ckF 0 bits := by unfold unwrapF; rw [hl, if_pos h]
    have e2 : wrapF [] bits = ckF 0 bits := by unfold wrapF; rw [hl, if_pos h]
    refine ⟨e1, ?_, e2, ?_⟩
    · rw [unwrapL, if_neg (by omega)]
    · rw [wrapL, if_neg (by omega)]

set_option maxRecDepth 100000 in
set_option maxHeartbeats 4000000 in
theorem back_empty (a : Option Addr) (cap : Nat) (bits : Int) (w : World) :
    Calls Try.prog 5 #[.slice a 0 cap, .int .i64 bits] w fun e w' => e = .returned (.bool true) ∧ Below w.heap.size w w' := by
  have hN : Nums w (.slice a 0 cap) [] := .inl ⟨a, cap, rfl, rfl⟩
  obtain ⟨m1, m2, m3, m4⟩ := none_forms bits
  obtain ⟨c0, hc0⟩ : ∃ c, ckF 0 bits = c := ⟨_, rfl⟩
  rw [hc0] at m1 m3
  have M1 := Lib.hid m1; have M2 := Lib.hid m2; have M3 := Lib.hid m3; have M4 := Lib.hid m4
  clear m1 m2 m3 m4 hc0
  by_cases h0 : c0 = 0
  · subst h0
    go_enter Try.func5, Try.ntmps5
    go_wp2_with fail
    refine (unwrap_any _ [] _ _ hN).mono ?_; rintro e w1 ⟨⟨u1, rfl, n1⟩, b1⟩
    rw [M1.out]; rw [M2.out] at n1
    have hN1 := hN.below b1 (Nat.le_refl _)
    go_wp2_with fail
    refine (wrap_any _ [] _ _ n1).mono ?_; rintro e w2 ⟨⟨u2, rfl, n2⟩, b2⟩
    rw [M3.out]; rw [M4.out] at n2
    have hN2 := hN1.below b2 (Nat.le_refl _)
    have b02 := b1.trans (b2.mono b1.size)
    go_wp2_with fail
    refine (equal_any _ _ _ _ _ n2 hN2).mono ?_; rintro e w' ⟨rfl, q1, rfl⟩
    rw [beq_refl_list]
    go_wp2_with fail
    refine (wrap_any _ [] _ _ (hN2.drewN q1)).mono ?_; rintro e w3 ⟨⟨u3, rfl, n3⟩, b3⟩
    have b03 := (below_drewN b02 q1).trans (b3.mono b02.size)
    rw [M3.out]; rw [M4.out] at n3
    obtain ⟨a3, c3, rfl, -⟩ := n3.parts
    go_wp2_with fail
    refine wp_loop_rounds 1 ?_
    rw [rounds_succ]
    go_wp2_with fail
    refine (unwrap_any _ [] _ _ n3).mono ?_; rintro e w4 ⟨⟨u4, rfl, n4⟩, b4⟩
    have b04 := b03.trans (b4.mono b03.size)
    rw [M1.out]; rw [M2.out] at n4
    obtain ⟨a4, c4, rfl, -⟩ := n4.parts
    clear hN hN1 hN2 n1 n2 n3 n4 b1 b2 b3 b4 b02 b03
    go_wp2_with fail
    refine wp_loop_rounds 1 ?_
    rw [rounds_succ]
    go_wp2_with fail
    refine (awake_any _).mono ?_; rintro e w' ⟨rfl, q3, rfl⟩
    go_wp2_with fail
    go_ret
    exact ⟨rfl, below_drewN b04 _⟩
  · have hb : (c0 == 0) = false := by simp [h0]
    go_enter Try.func5, Try.ntmps5
    go_wp2_with fail
    refine (unwrap_any _ [] _ _ hN).mono ?_; rintro e w1 ⟨⟨u1, rfl, n1⟩, b1⟩
    rw [M1.out]
    have hN1 := hN.below b1 (Nat.le_refl _)
    go_wp2_with fail
    refine (wrap_any _ [] _ _ hN1).mono ?_; rintro e w2 ⟨⟨u2, rfl, n2⟩, b2⟩
    rw [M3.out]; rw [M4.out] at n2
    obtain ⟨a2, c2, rfl, -⟩ := n2.parts
    have b02 := b1.trans (b2.mono b1.size)
    clear n1 n2 hN hN1 b1 b2
    go_wp2_with fail
    refine (awake_any _).mono ?_; rintro e w' ⟨rfl, q3, rfl⟩
    go_wp2_with fail
    go_ret
    exact ⟨rfl, below_drewN b02 _⟩

theorem back_any (v : Value) (zs : List Int) (bits : Int) (w : World) (h : Nums w v zs) :
    Calls Try.prog 5 #[v, .int .i64 bits] w fun e w' => e = .returned (.bool true) ∧ Below w.heap.size w w' := by
  rcases h with ⟨a, c, rfl, rfl⟩ | ⟨b, o, c, rfl, hne, hlt, hm, hc⟩
  · exact back_empty a c bits w
  · exact back_walk b o _ c zs bits w rfl (List.length_pos_iff.2 hne) hm hlt hc

end Go.Proofs.Ytnjmjdbilblieaa
