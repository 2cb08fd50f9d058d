/- CutChoosesBest: whatever the input, the law returns true. -/
import Derived.Test.YtgbdmgmbdjajeaaChoose
namespace Go.Proofs.Ytgbdmgmbdjajeaa
set_option linter.unusedVariables false
set_option linter.unusedSimpArgs false
open Go.RowKit Go.Deep

theorem fIf_or (c : Bool) (x : Int) : fIf c x = 0 ∨ fIf c x = x := by cases c <;> simp [fIf]
theorem fst_mem (zs : List Int) : fstF zs = 0 ∨ fstF zs ∈ zs := by
  induction zs with
  | nil => left; rfl
  | cons f r ih =>
    rw [fstF]
    split
    · rcases ih with h | h
      · exact .inl h
      · exact .inr (List.mem_cons_of_mem _ h)
    · exact .inr (List.mem_cons_self ..)
theorem risesF_vals (zs : List Int) : risesF zs = 0 ∨ risesF zs = 1 ∨ risesF zs = 8 := by
  rcases fst_mem ((List.range zs.length).map (riseE zs)) with h | h
  · exact .inl h
  · obtain ⟨i, -, hi⟩ := List.mem_map.1 h
    have hr : risesF zs = riseE zs i := hi.symm
    rw [hr, riseE]
    rcases fst_mem [fIf (!inB (zs.getD i 0) (-1000000000000000) 1000000000000000) 1, fIf (decide (0 < i) && decide (zs.getD i 0 ≤ zs.getD (i - 1) 0)) 8] with h | h
    · exact .inl h
    · simp only [List.mem_cons, List.not_mem_nil, or_false] at h
      rcases h with h | h <;> rw [h]
      · rcases fIf_or (!inB (zs.getD i 0) (-1000000000000000) 1000000000000000) 1 with e | e <;> rw [e] <;> simp
      · rcases fIf_or (decide (0 < i) && decide (zs.getD i 0 ≤ zs.getD (i - 1) 0)) 8 with e | e <;> rw [e] <;> simp
theorem placesF_vals (zs : List Int) (sc T M : Int) (h : 0 < zs.length) : placesF zs sc T M ≠ 9 := by
  intro h9
  rcases fst_mem [fIf (!inB sc 1 1000000000) 1, fIf (!inB T 1 50000000) 1, fIf (!inB M T 50000000) 1, riseF zs] with e | e
  · rw [placesF, e] at h9; omega
  · change placesF zs sc T M ∈ _ at e
    rw [h9] at e
    simp only [List.mem_cons, List.not_mem_nil, or_false] at e
    rcases e with e | e | e | e
    · rcases fIf_or (!inB sc 1 1000000000) 1 with q | q <;> omega
    · rcases fIf_or (!inB T 1 50000000) 1 with q | q <;> omega
    · rcases fIf_or (!inB M T 50000000) 1 with q | q <;> omega
    · rw [riseF, if_neg (by omega)] at e
      split at e
      · omega
      · rcases risesF_vals zs with q | q | q <;> omega
theorem endF_vals (zs : List Int) (en : Int) : endF zs en ≠ 9 := by
  intro h9
  rcases fst_mem [fIf (!inB en (-1000000000000000) 1000000000000000) 1, fIf (decide (en ≤ zs.getD (zs.length - 1) 0)) 8, fIf (decide (1000000000000 < IntKind.i64.wrap (en - zs.getD 0 0))) 1] with e | e
  · rw [endF, e] at h9; omega
  · change endF zs en ∈ _ at e
    rw [h9] at e
    simp only [List.mem_cons, List.not_mem_nil, or_false] at e
    rcases e with e | e | e
    · rcases fIf_or (!inB en (-1000000000000000) 1000000000000000) 1 with q | q <;> omega
    · rcases fIf_or (decide (en ≤ zs.getD (zs.length - 1) 0)) 8 with q | q <;> omega
    · rcases fIf_or (decide (1000000000000 < IntKind.i64.wrap (en - zs.getD 0 0))) 1 with q | q <;> omega
/-- With places, an answer OK or ErrNone means that places and end are right. -/
theorem choose_right {zs : List Int} {en sc T M : Int} (h : 0 < zs.length) (hF : chooseF zs en sc T M = 0 ∨ chooseF zs en sc T M = 9) : placesF zs sc T M = 0 ∧ endF zs en = 0 := by
  by_cases h0 : placesF zs sc T M = 0
  · refine ⟨h0, ?_⟩
    by_cases h1 : endF zs en = 0
    · exact h1
    · rw [chooseF, if_neg (by simp [h0]), if_pos h1] at hF
      rcases hF with e | e
      · exact e
      · exact absurd e (endF_vals zs en)
  · rw [chooseF, if_pos h0] at hF
    rcases hF with e | e
    · exact absurd e h0
    · exact absurd e (placesF_vals zs sc T M h)
set_option maxHeartbeats 4000000 in
theorem choose_any (v : Value) (zs : List Int) (en sc ta mo : Int) (w : World) (h : NumsC w v zs) :
    Calls Try.prog 21 #[v, .int .i64 en, .agg #[.int .i64 sc, .int .i64 ta, .int .i64 mo]] w fun e w' => (∃ u, e = .returned (.tuple #[u, .int .i64 (chooseS zs en sc ta mo), .int .i64 (chooseF zs en sc ta mo)]) ∧ NumsC w' u (chooseL zs en sc ta mo)) ∧ Below w.heap.size w w' := by
  obtain ⟨g, hg⟩ : ∃ g, placesF zs sc ta mo = g := ⟨_, rfl⟩
  have hN := Lib.hid h.nums
  have HF := Lib.hid hg
  by_cases h0 : g = 0
  · subst h0
    obtain ⟨f, hf⟩ : ∃ f, endF zs en = f := ⟨_, rfl⟩
    have hR := ((placesF_zero zs sc ta mo).1 hg).2.2.2
    rcases h with ⟨a, cap, rfl, rfl⟩ | ⟨b, off, cap, rfl, hne, hlt, hl, hm, hc⟩
    · exact absurd hR.pos (by simp)
    by_cases h1 : f = 0
    · subst h1
      exact choose_mid b off _ cap zs en sc ta mo w rfl hlt hc hg hf
    · have eF : chooseF zs en sc ta mo = f := by rw [chooseF, if_neg (by simp [hg]), hf, if_pos h1]
      have eS : chooseS zs en sc ta mo = 0 := by rw [chooseS, eF, if_neg h1]
      have eL : chooseL zs en sc ta mo = [] := by rw [chooseL, eF, if_neg h1]
      rw [eF, eS, eL]
      have HE := Lib.hid hf
      have hn := hR.len
      have hn0 := hR.pos
      have hb : (f == 0) = false := by simp [h1]
      have HC := Lib.hid hc
      obtain ⟨n, hn'⟩ : ∃ n, zs.length = n := ⟨_, rfl⟩
      have HZ := Lib.hid hn'
      rw [hn'] at hN hn hn0 HC ⊢
      clear hg hf hc eF eS eL h1 hR hn'
      go_enter Try.func21, Try.ntmps21
      go_wp2_with fail
      refine (places_any _ zs _ _ _ _ (hN.out.below ((Below.refl _ _).alloc (Nat.le_refl _) _) (Nat.le_refl _))).mono ?_; rintro e w1 ⟨rfl, b1⟩
      rw [HF.out]
      have b0 : Below w.heap.size w w1 := ((Below.refl _ _).alloc (Nat.le_refl _) _).trans (b1.mono (by simp))
      go_wp2_with fail
      refine (endck_walk b off n cap zs en _ HZ.out hn0 hn (Nat.lt_of_lt_of_le hlt b0.size) (fun j hj => by rw [b0.cell (p := ⟨b, off + j, none⟩) hlt]; exact HC.out j hj)).mono ?_; rintro e w2 ⟨rfl, b2⟩
      rw [HE.out]
      go_wp2_with fail
      go_ret3
      exact ⟨⟨_, rfl, .inl ⟨_, _, rfl, rfl⟩⟩, b0.trans (b2.mono b0.size)⟩
  · have eF : chooseF zs en sc ta mo = g := by rw [chooseF, hg, if_pos h0]
    have eS : chooseS zs en sc ta mo = 0 := by rw [chooseS, eF, if_neg h0]
    have eL : chooseL zs en sc ta mo = [] := by rw [chooseL, eF, if_neg h0]
    rw [eF, eS, eL]
    have hb : (g == 0) = false := by simp [h0]
    obtain ⟨a, cap, rfl, hmx⟩ := h.parts
    clear hg h h0 eF eS eL
    go_enter Try.func21, Try.ntmps21
    go_wp2_with fail
    refine (places_any _ zs _ _ _ _ (hN.out.below ((Below.refl _ _).alloc (Nat.le_refl _) _) (Nat.le_refl _))).mono ?_; rintro e w1 ⟨rfl, b1⟩
    rw [HF.out]
    have b0 : Below w.heap.size w w1 := ((Below.refl _ _).alloc (Nat.le_refl _) _).trans (b1.mono (by simp))
    go_wp2_with fail
    go_ret3
    exact ⟨⟨_, rfl, .inl ⟨_, _, rfl, rfl⟩⟩, b0⟩
set_option maxRecDepth 100000 in
set_option maxHeartbeats 8000000 in
theorem chooselaw_mid (b off n cap : Nat) (zs : List Int) (en sc T M set : Int) (w : World) (hz : zs.length = n) (hlt : b < w.heap.size) (hnc : n ≤ cap) (hcm : cap ≤ maxLen) (hc : ∀ j, j < n → w.cell? ⟨b, off + j, none⟩ = some (.int .i64 (zs.getD j 0))) (hp : placesF zs sc T M = 0) (he : endF zs en = 0) :
    Calls Try.prog 7 #[.slice (some ⟨b, off, none⟩) n cap, .int .i64 en, .agg #[.int .i64 sc, .int .i64 T, .int .i64 M], .int .i64 set] w fun e w' => e = .returned (.bool true) ∧ Below w.heap.size w w' := by
  obtain ⟨-, ⟨t1, t2⟩, ⟨m1, m2⟩, hR⟩ := (placesF_zero zs sc T M).1 hp
  obtain ⟨⟨en1, en2⟩, hen, -⟩ := endF_zero hR he
  have hst := stops_of hR hen ⟨t1, t2⟩ ⟨m1, m2⟩
  rw [hz] at hst
  have hn : n ≤ 1000 := by rw [← hz]; exact hR.len
  have hn0 : 0 < n := by rw [← hz]; exact hR.pos
  have HST := Lib.hid hst; have HRI := Lib.hid hR; have HZ := Lib.hid hz; have HC := Lib.hid hc
  obtain ⟨F, hF⟩ : ∃ F, chooseF zs en sc T M = F := ⟨_, rfl⟩
  obtain ⟨N, hN⟩ : ∃ N, chooseS zs en sc T M = N := ⟨_, rfl⟩
  obtain ⟨L, hL⟩ : ∃ L, chooseL zs en sc T M = L := ⟨_, rfl⟩
  have HF := Lib.hid hF; have HN := Lib.hid hN; have HL := Lib.hid hL
  have hFv : F = if (planOf (stopF zs en) T M n 0).many = 0 then 9 else 0 := by rw [← hF, chooseF, if_neg (by simp [hp]), if_neg (by simp [he]), hz]
  have HFV := Lib.hid hFv
  have HNV : Hid (F = 0 → N = (planOf (stopF zs en) T M n 0).sum ∧ L.length = (planOf (stopF zs en) T M n 0).many) := Lib.hid (fun h => by
    have := chooseL_len (hF.trans h)
    rw [hL, hz] at this
    exact ⟨by rw [← hN, chooseS, if_pos (hF.trans h), hz], this.2.2.2⟩)
  have hF9 : F = 0 ∨ F = 9 := by
    rw [hFv]
    split
    · exact .inr rfl
    · exact .inl rfl
  have hC : NumsC w (.slice (some ⟨b, off, none⟩) n cap) zs := .inr ⟨b, off, cap, by rw [hz], fun h => by subst h; simp at hz; omega, hlt, by rw [hz]; exact hnc, hcm, by rw [hz]; exact hc⟩
  have HNC := Lib.hid hC
  unfold maxLen at hcm
  have b0 : Below w.heap.size w (w.alloc (.cells #[.int .i64 sc, .int .i64 T, .int .i64 M] 24)) := (Below.refl _ _).alloc (Nat.le_refl _) _
  have q1 : (w.alloc (.cells #[.int .i64 sc, .int .i64 T, .int .i64 M] 24)).cell? ⟨w.heap.size, 1, none⟩ = some (.int .i64 T) := by simp
  have q2 : (w.alloc (.cells #[.int .i64 sc, .int .i64 T, .int .i64 M] 24)).cell? ⟨w.heap.size, 2, none⟩ = some (.int .i64 M) := by simp
  have z0 : w.heap.size < (w.alloc (.cells #[.int .i64 sc, .int .i64 T, .int .i64 M] 24)).heap.size := by simp
  clear hp he hz hR hc hC hF hN hL hst hen hFv
  rcases hF9 with hF0 | hF0
  all_goals
    go_enter Try.func7, Try.ntmps7
    go_wp2_with fail
    refine (choose_any _ zs _ _ _ _ _ (HNC.out.below b0 (Nat.le_refl _))).mono ?_; rintro e w1 ⟨⟨u, rfl, hu⟩, b1⟩
    rw [HF.out, HN.out]; rw [HL.out] at hu
    have bw : Below w.heap.size w w1 := b0.trans (b1.mono b0.size)
    have f1 : w1.cell? ⟨w.heap.size, 1, none⟩ = some (.int .i64 T) := by rw [b1.cell (p := ⟨w.heap.size, 1, none⟩) z0]; exact q1
    have f2 : w1.cell? ⟨w.heap.size, 2, none⟩ = some (.int .i64 M) := by rw [b1.cell (p := ⟨w.heap.size, 2, none⟩) z0]; exact q2
    have hQ1 : w.heap.size < w1.heap.size := Nat.lt_of_lt_of_le z0 b1.size
    obtain ⟨ua, uc, rfl, hul⟩ := hu.parts
    unfold maxLen at hul
    have hb1 : b < w1.heap.size := Nat.lt_of_lt_of_le hlt bw.size
    have c0 : w1.cell? ⟨b, off, none⟩ = some (.int .i64 (zs.getD 0 0)) := by rw [bw.cell (p := ⟨b, off, none⟩) hlt]; exact HC.out 0 hn0
    obtain ⟨p0, hp0⟩ : ∃ p0, zs.getD 0 0 = p0 := ⟨_, rfl⟩
    rw [hp0] at c0
    have HP0 := Lib.hid hp0
    clear hu hp0 b1 q1 q2 z0
    subst hF0
    go_upto_region 6 with fail
    go_quiet (fail)
    go_wp2_with fail
    go_loopw [12, 13, 14, 15] (fun v12 v13 v14 v15 wr => ∃ (k l m mm : Nat) (S : Int), v15 = .int .i64 (k : Int) ∧ v12 = .int .i64 S ∧ v13 = .int .i64 (mm : Int) ∧ v14 = .int .i64 (stopF zs en l) ∧ 1 ≤ k ∧ k ≤ n + 1 ∧ (k ≤ n → l < k ∧ l < n ∧ mm = m + 1) ∧ (k = n + 1 → l = n ∧ mm = m) ∧ m ≤ l ∧ l ≤ n ∧ 0 ≤ S ∧ S ≤ (m : Int) * 2500000000000000 ∧ Below w1.heap.size w1 wr ∧ Hid (∀ s' m', Chain (stopF zs en) T M n l s' m' → Chain (stopF zs en) T M n 0 (S + s') (m + m'))) (fun _ _ _ v15 _ => n + 1 - (intOf v15).toNat)
    case atStart => exact ⟨1, 0, 0, 1, 0, rfl, rfl, rfl, by rw [stopF_lt zs en 0 (by rw [HZ.out]; exact hn0), HP0.out], by omega, by omega, fun _ => ⟨by omega, hn0, rfl⟩, fun h => by omega, by omega, by omega, by omega, by omega, below_drewN (Below.refl _ _) _, Lib.hid (fun s' m' h => by simpa using h)⟩
    case round =>
      obtain ⟨k, l, m, mm, S, rfl, rfl, rfl, rfl, hk1, hk2, hka, hkb, hml, hln, hS0, hS1, hbel, HCH⟩ := hrel
      have g1 : wr.cell? ⟨w.heap.size, 1, none⟩ = some (.int .i64 T) := by rw [hbel.cell (p := ⟨w.heap.size, 1, none⟩) hQ1]; exact f1
      have g2 : wr.cell? ⟨w.heap.size, 2, none⟩ = some (.int .i64 M) := by rw [hbel.cell (p := ⟨w.heap.size, 2, none⟩) hQ1]; exact f2
      have hmm : m ≤ 1000 := by omega
      have hS2 : S ≤ 2500000000000000000 := by omega
      obtain ⟨sl, hsl⟩ : ∃ sl, stopF zs en l = sl := ⟨_, rfl⟩
      have HSL := Lib.hid hsl
      have hslb : -1000000000000000 ≤ sl ∧ sl ≤ 1000000000000000 := by
        rw [← hsl]
        by_cases h : l < n
        · rw [stopF_lt zs en l (by rw [HZ.out]; exact h)]; exact HRI.out.time l (by rw [HZ.out]; exact h)
        · rw [show l = zs.length by rw [HZ.out]; omega, stopF_end]; exact ⟨en1, en2⟩
      obtain ⟨sl1, sl2⟩ := hslb
      rw [hsl]
      have hfin := bw.trans (hbel.mono bw.size)
      clear hsl
      by_cases hkn : k ≤ n
      · obtain ⟨hlk, hln2, hmme⟩ := hka hkn
        clear hka hkb
        subst hmme
        by_cases hlt2 : k < n
        · obtain ⟨sx, hsx⟩ : ∃ sx, stopF zs en k = sx := ⟨_, rfl⟩
          have hzk : zs.getD k 0 = sx := by rw [← hsx, stopF_lt zs en k (by rw [HZ.out]; exact hlt2)]
          have dk : wr.cell? ⟨b, off + k, none⟩ = some (.int .i64 sx) := by rw [hfin.cell (p := ⟨b, off + k, none⟩) hlt, ← hzk]; exact HC.out k hlt2
          have hsxb := HRI.out.time k (by rw [HZ.out]; exact hlt2)
          rw [hzk] at hsxb
          obtain ⟨sx1, sx2⟩ := hsxb
          have HSX := Lib.hid hsx
          have hlx : l < k := hlk
          have hxn : k ≤ n := hkn
          have i0 : (0 : Int) ≤ (k : Int) := by omega
          clear hsx hzk
          go_upto_region 12 with fail
          go_cut [69] (fun c wx => ∃ bb : Bool, c = .bool bb ∧ wx = wr)
          case first =>
            by_cases h60 : 60 < k
            · have h61 : (60 : Int) < (k : Int) := by omega
              clear h60
              go_wp2_with fail
              go_meet
              exact ⟨_, rfl, rfl⟩
            · have h61 : decide ((60 : Int) < (k : Int)) = false := by simp; omega
              clear h60
              go_wp2_with fail
              go_meet
              exact ⟨_, rfl, rfl⟩
          case rest =>
            obtain ⟨bb, rfl, rfl⟩ := hcut
            cases bb
            · clear hkn
          
              have hgt := HST.out.lt l k hlx hxn
              rw [HSL.out, HSX.out] at hgt
              have hw1 : IntKind.i64.wrap (sx - sl) = sx - sl := IntWalk.i64_in _ ⟨by omega, by omega⟩
              by_cases hgap : sx - sl ≤ M
              · have hgd : decide (M < sx - sl) = false := by simp; omega
                obtain ⟨D, hD⟩ : ∃ D, sx - sl - T = D := ⟨_, rfl⟩
                obtain ⟨DD, hDD⟩ : ∃ DD, D * D = DD := ⟨_, rfl⟩
                have hsq := sq_bd (d := sx - sl) (by omega) hgap ⟨t1, t2⟩ ⟨m1, m2⟩
                rw [hD, hDD] at hsq
                obtain ⟨dd1, dd2⟩ := hsq
                have hDb1 : -50000000 ≤ D := by omega
                have hDb2 : D ≤ 50000000 := by omega
                have hw2 : IntKind.i64.wrap (sx - sl - T) = D := by rw [hD]; exact IntWalk.i64_in _ ⟨by omega, by omega⟩
                have hwD : IntKind.i64.wrap (D * D) = DD := by rw [hDD]; exact IntWalk.i64_in _ ⟨by omega, by omega⟩
                have hwS : IntKind.i64.wrap (S + DD) = S + DD := IntWalk.i64_in _ ⟨by omega, by omega⟩
                have HCN : Hid (∀ s' m', Chain (stopF zs en) T M n k s' m' → Chain (stopF zs en) T M n 0 (S + DD + s') (m + 1 + m')) := Lib.hid (fun s' m' hch => by
                  have h1 := Chain.go (T := T) hlx hxn (by rw [HSL.out, HSX.out]; exact hgap) hch
                  have h2 := HCH.out _ _ h1
                  rw [HSL.out, HSX.out, hD, hDD] at h2
                  rw [show S + DD + s' = S + (DD + s') by omega, show m + 1 + m' = m + (m' + 1) by omega]
                  exact h2)
                clear hD hDD
                go_wp2_with fail
                go_roundw
                case rel => exact ⟨k + 1, k, m + 1, m + 1 + 1, S + DD, by go_num, rfl, by go_num, by rw [HSX.out], by omega, by omega, fun h => ⟨by omega, by omega, by omega⟩, fun h => ⟨by omega, by omega⟩, by omega, by omega, by omega, by omega, hbel, HCN⟩
                case measure => (simp [intOf] <;> omega)
              · have hgd : decide (M < sx - sl) = true := by simp; omega
                have hgd2 : M < sx - sl := by omega
                go_wp2_with fail
                refine (awake4_any _).mono ?_; rintro e w3 ⟨rfl, b3⟩
                go_wp2_with fail
                go_ret
                exact ⟨rfl, hfin.trans (b3.mono hfin.size)⟩
            · go_wp2_with fail
              go_roundw
              case rel => exact ⟨k + 1, l, m, m + 1, S, by go_num, rfl, rfl, by rw [HSL.out], by omega, by omega, fun h => ⟨by omega, by omega, rfl⟩, fun h => ⟨by omega, by omega⟩, by omega, by omega, by omega, by omega, hbel, HCH⟩
              case measure => (simp [intOf] <;> omega)
          
        · have hke : k = n := by omega
          subst hke
          have hd : decide (k < k) = false := by simp
          obtain ⟨sx, hsx⟩ : ∃ sx, stopF zs en k = sx := ⟨_, rfl⟩
          have hxe : sx = en := by rw [← hsx, ← HZ.out, stopF_end]
          have HSX0 := Lib.hid hsx
          have sx1 : -1000000000000000 ≤ sx := by omega
          have sx2 : sx ≤ 1000000000000000 := by omega
          have HSX : Hid (stopF zs en k = sx) := Lib.hid hsx
          have hlx : l < k := hlk
          have hxn : k ≤ k := Nat.le_refl _
          subst hxe
          clear hsx hlt2
          
          have hgt := HST.out.lt l k hlx hxn
          rw [HSL.out, HSX.out] at hgt
          have hw1 : IntKind.i64.wrap (sx - sl) = sx - sl := IntWalk.i64_in _ ⟨by omega, by omega⟩
          by_cases hgap : sx - sl ≤ M
          · have hgd : decide (M < sx - sl) = false := by simp; omega
            obtain ⟨D, hD⟩ : ∃ D, sx - sl - T = D := ⟨_, rfl⟩
            obtain ⟨DD, hDD⟩ : ∃ DD, D * D = DD := ⟨_, rfl⟩
            have hsq := sq_bd (d := sx - sl) (by omega) hgap ⟨t1, t2⟩ ⟨m1, m2⟩
            rw [hD, hDD] at hsq
            obtain ⟨dd1, dd2⟩ := hsq
            have hDb1 : -50000000 ≤ D := by omega
            have hDb2 : D ≤ 50000000 := by omega
            have hw2 : IntKind.i64.wrap (sx - sl - T) = D := by rw [hD]; exact IntWalk.i64_in _ ⟨by omega, by omega⟩
            have hwD : IntKind.i64.wrap (D * D) = DD := by rw [hDD]; exact IntWalk.i64_in _ ⟨by omega, by omega⟩
            have hwS : IntKind.i64.wrap (S + DD) = S + DD := IntWalk.i64_in _ ⟨by omega, by omega⟩
            have HCN : Hid (∀ s' m', Chain (stopF zs sx) T M k k s' m' → Chain (stopF zs sx) T M k 0 (S + DD + s') (m + 1 + m')) := Lib.hid (fun s' m' hch => by
              have h1 := Chain.go (T := T) hlx hxn (by rw [HSL.out, HSX.out]; exact hgap) hch
              have h2 := HCH.out _ _ h1
              rw [HSL.out, HSX.out, hD, hDD] at h2
              rw [show S + DD + s' = S + (DD + s') by omega, show m + 1 + m' = m + (m' + 1) by omega]
              exact h2)
            clear hD hDD
            go_wp2_with fail
            go_roundw
            case rel => exact ⟨k + 1, k, m + 1, m + 1, S + DD, by go_num, rfl, by go_num, by rw [HSX.out], by omega, by omega, fun h => ⟨by omega, by omega, by omega⟩, fun h => ⟨by omega, by omega⟩, by omega, by omega, by omega, by omega, hbel, HCN⟩
            case measure => (simp [intOf] <;> omega)
          · have hgd : decide (M < sx - sl) = true := by simp; omega
            have hgd2 : M < sx - sl := by omega
            go_wp2_with fail
            refine (awake4_any _).mono ?_; rintro e w3 ⟨rfl, b3⟩
            go_wp2_with fail
            go_ret
            exact ⟨rfl, hfin.trans (b3.mono hfin.size)⟩
      · have hke : k = n + 1 := by omega
        obtain ⟨hl, hm⟩ := hkb hke
        have hd : decide (k ≤ n) = false := by simp; omega
        have hbest := (HCH.out 0 0 (by rw [hl]; exact Chain.last)).best hn0
        obtain ⟨hb1', hb2'⟩ := hbest
        have hfv := HFV.out
        rw [if_neg hb1'] at hfv
        first
        | exact absurd hfv (by decide)
        |
          obtain ⟨hnv, hlv⟩ := HNV.out (by first | trivial | rfl)
          have hcmp : N < S ∨ N = S ∧ L.length ≤ m := by
            rw [hnv, hlv]
            simpa using hb2'
          subst hm
          clear hke hl hfv hb1' hb2' hnv hlv hkn hka hkb
          rcases hcmp with hc1 | ⟨hc1, hc2⟩
          · have hd2 : decide (N < S) = true := by simp; omega
            clear hc1
            go_wp2_with fail
            refine (awake4_any _).mono ?_; rintro e w3 ⟨rfl, b3⟩
            go_wp2_with fail
            go_ret
            exact ⟨rfl, hfin.trans (b3.mono hfin.size)⟩
          · subst hc1
            have hd2 : decide (N < N) = false := by simp
            have hd3 : decide (L.length ≤ mm) = true := by simp; omega
            have hd4 : (L.length : Int) ≤ (mm : Int) := by omega
            go_wp2_with fail
            refine (awake4_any _).mono ?_; rintro e w3 ⟨rfl, b3⟩
            go_wp2_with fail
            go_ret
            exact ⟨rfl, hfin.trans (b3.mono hfin.size)⟩
theorem chooselaw (v : Value) (zs : List Int) (en sc T M set : Int) (w : World) (h : NumsC w v zs) :
    Calls Try.prog 7 #[v, .int .i64 en, .agg #[.int .i64 sc, .int .i64 T, .int .i64 M], .int .i64 set] w fun e w' => e = .returned (.bool true) ∧ Below w.heap.size w w' := by
  obtain ⟨F, hF⟩ : ∃ F, chooseF zs en sc T M = F := ⟨_, rfl⟩
  have HF := Lib.hid hF
  have HNC := Lib.hid h
  have b0 : Below w.heap.size w (w.alloc (.cells #[.int .i64 sc, .int .i64 T, .int .i64 M] 24)) := (Below.refl _ _).alloc (Nat.le_refl _) _
  by_cases h9 : F = 0 ∨ F = 9
  · rcases h with ⟨a, cap, rfl, rfl⟩ | ⟨b, off, cap, rfl, hne, hlt, hl, hm, hc⟩
    · rcases h9 with h9 | h9
      all_goals
        subst h9
        clear hF
        go_enter Try.func7, Try.ntmps7
        go_wp2_with fail
        refine (choose_any _ [] _ _ _ _ _ (HNC.out.below b0 (Nat.le_refl _))).mono ?_; rintro e w1 ⟨⟨u, rfl, hu⟩, b1⟩
        rw [HF.out]
        have bw : Below w.heap.size w w1 := b0.trans (b1.mono b0.size)
        go_wp2_with fail
        refine (awake4_any _).mono ?_; rintro e w3 ⟨rfl, b3⟩
        go_wp2_with fail
        go_ret
        exact ⟨rfl, bw.trans (b3.mono bw.size)⟩
    · obtain ⟨hp, he⟩ := choose_right (zs := zs) (en := en) (sc := sc) (T := T) (M := M) (List.length_pos_iff.2 hne) (by rw [hF]; exact h9)
      exact chooselaw_mid b off _ cap zs en sc T M set w rfl hlt hl hm hc hp he
  · have hf0 : F ≠ 0 := fun h => h9 (.inl h)
    have hf9 : F ≠ 9 := fun h => h9 (.inr h)
    have HS : Hid (chooseS zs en sc T M = 0) := Lib.hid (by rw [chooseS, hF, if_neg hf0])
    have HL : Hid (chooseL zs en sc T M = []) := Lib.hid (by rw [chooseL, hF, if_neg hf0])
    have e0 : (F == 0) = false := by simp [hf0]
    have e9 : (F == 9) = false := by simp [hf9]
    have e1 : (F != 0) = true := by simp [hf0]
    have e2 : (F != 9) = true := by simp [hf9]
    obtain ⟨a, cap, rfl, hmx⟩ := h.parts
    clear hF h h9
    go_enter Try.func7, Try.ntmps7
    go_wp2_with fail
    refine (choose_any _ zs _ _ _ _ _ (HNC.out.below b0 (Nat.le_refl _))).mono ?_; rintro e w1 ⟨⟨u, rfl, hu⟩, b1⟩
    rw [HF.out, HS.out]; rw [HL.out] at hu
    obtain ⟨a1, c1, rfl, -⟩ := hu.parts
    clear hu
    have bw : Below w.heap.size w w1 := b0.trans (b1.mono b0.size)
    go_wp2_with fail
    refine (awake4_any _).mono ?_; rintro e w3 ⟨rfl, b3⟩
    go_wp2_with fail
    go_ret
    exact ⟨rfl, bw.trans (b3.mono bw.size)⟩

end Go.Proofs.Ytgbdmgmbdjajeaa
