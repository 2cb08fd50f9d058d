/- cut.Choose. -/
import Derived.Test.YtgbdmgmbdjajeaaChooseEnd
namespace Go.Proofs.Ytgbdmgmbdjajeaa
set_option linter.unusedVariables false
set_option linter.unusedSimpArgs false
open Go.RowKit Go.Deep

theorem carryQ {w W' w3 : World} {Q : Nat} {sc ta mo : Int} (h : W'.cell? ⟨Q, 0, none⟩ = some (.int .i64 sc) ∧ W'.cell? ⟨Q, 1, none⟩ = some (.int .i64 ta) ∧ W'.cell? ⟨Q, 2, none⟩ = some (.int .i64 mo) ∧ Below w.heap.size w W' ∧ Q < W'.heap.size) (b3 : Below W'.heap.size W' w3) : w3.cell? ⟨Q, 0, none⟩ = some (.int .i64 sc) ∧ w3.cell? ⟨Q, 1, none⟩ = some (.int .i64 ta) ∧ w3.cell? ⟨Q, 2, none⟩ = some (.int .i64 mo) ∧ Below w.heap.size w w3 ∧ Q < w3.heap.size := by
  obtain ⟨h0, h1, h2, hb, hs⟩ := h
  exact ⟨(b3.cell (p := ⟨Q, 0, none⟩) hs).trans h0, (b3.cell (p := ⟨Q, 1, none⟩) hs).trans h1, (b3.cell (p := ⟨Q, 2, none⟩) hs).trans h2, hb.trans (b3.mono hb.size), Nat.lt_of_lt_of_le hs b3.size⟩
theorem news1 {w : World} {B : Nat} {v : Value} (h : w.cell? ⟨B, 0, none⟩ = some v) : ∀ j u, [v][j]? = some u → w.cell? ((⟨B, 0, none⟩ : Addr).add j) = some u := fun j u hu => by
  cases j with
  | zero =>
    have e : u = v := by simpa using hu.symm
    have hadd : (⟨B, 0, none⟩ : Addr).add 0 = ⟨B, 0, none⟩ := by unfold Addr.add; split <;> simp_all
    rw [hadd, e]; exact h
  | succ j => simp at hu
theorem ret3_vii {u v : Value} {a b c d : Int} (hu : u = v) (h : a = b) (h2 : c = d) : Ending.returned (.tuple #[u, .int .i64 a, .int .i64 c]) = .returned (.tuple #[v, .int .i64 b, .int .i64 d]) := by rw [hu, h, h2]
set_option maxRecDepth 100000 in
set_option maxHeartbeats 8000000 in
theorem choose_mid (b off n cap : Nat) (zs : List Int) (en sc ta mo : Int) (w : World) (hz : zs.length = n) (hlt : b < w.heap.size) (hc : ∀ j, j < n → w.cell? ⟨b, off + j, none⟩ = some (.int .i64 (zs.getD j 0))) (hp : placesF zs sc ta mo = 0) (he : endF zs en = 0) :
    Calls Try.prog 21 #[.slice (some ⟨b, off, none⟩) n cap, .int .i64 en, .agg #[.int .i64 sc, .int .i64 ta, .int .i64 mo]] w fun e w' => (∃ u, e = .returned (.tuple #[u, .int .i64 (chooseS zs en sc ta mo), .int .i64 (chooseF zs en sc ta mo)]) ∧ NumsC w' u (chooseL zs en sc ta mo)) ∧ Below w.heap.size w w' := by
  obtain ⟨ti, hi, hi0, hi1, hi2⟩ := info_parts Try.infoInt8
  obtain ⟨-, ⟨t1, t2⟩, ⟨m1, m2⟩, hR⟩ := (placesF_zero zs sc ta mo).1 hp
  obtain ⟨⟨en1, en2⟩, hen, -⟩ := endF_zero hR he
  have hst := stops_of hR hen ⟨t1, t2⟩ ⟨m1, m2⟩
  rw [hz] at hst
  have hn : n ≤ 1000 := by rw [← hz]; exact hR.len
  have hn0 : 0 < n := by rw [← hz]; exact hR.pos
  obtain ⟨FF, hFF⟩ : ∃ FF, chooseF zs en sc ta mo = FF := ⟨_, rfl⟩
  obtain ⟨SS, hSS⟩ : ∃ SS, chooseS zs en sc ta mo = SS := ⟨_, rfl⟩
  obtain ⟨LL, hLL⟩ : ∃ LL, chooseL zs en sc ta mo = LL := ⟨_, rfl⟩
  rw [hFF, hSS, hLL]
  have HFF : Hid (FF = if (planOf (stopF zs en) ta mo n 0).many = 0 then 9 else 0) := Lib.hid (by rw [← hFF, chooseF, if_neg (by simp [hp]), if_neg (by simp [he]), hz])
  have HSS : Hid (SS = if FF = 0 then (planOf (stopF zs en) ta mo n 0).sum else 0) := Lib.hid (by rw [← hSS, chooseS, hFF, hz])
  have HLL : Hid (LL = if FF = 0 then chainP (stopF zs en) (planOf (stopF zs en) ta mo n) n n 0 else []) := Lib.hid (by rw [← hLL, chooseL, hFF, hz])
  have HR := Lib.hid hR; have HST := Lib.hid hst
  have HP := Lib.hid hp; have HE := Lib.hid he; have HZ := Lib.hid hz; have HC := Lib.hid hc
  have hN : Nums w (.slice (some ⟨b, off, none⟩) n cap) zs := .inr ⟨b, off, cap, by rw [hz], fun h => by subst h; simp at hz; omega, hlt, by rw [hz]; unfold maxLen; omega, by rw [hz]; exact hc⟩
  have HN := Lib.hid hN
  have q0 : (w.alloc (.cells #[.int .i64 sc, .int .i64 ta, .int .i64 mo] 24)).cell? ⟨w.heap.size, 0, none⟩ = some (.int .i64 sc) := by simp
  have q1 : (w.alloc (.cells #[.int .i64 sc, .int .i64 ta, .int .i64 mo] 24)).cell? ⟨w.heap.size, 1, none⟩ = some (.int .i64 ta) := by simp
  have q2 : (w.alloc (.cells #[.int .i64 sc, .int .i64 ta, .int .i64 mo] 24)).cell? ⟨w.heap.size, 2, none⟩ = some (.int .i64 mo) := by simp
  have b0 : Below w.heap.size w (w.alloc (.cells #[.int .i64 sc, .int .i64 ta, .int .i64 mo] 24)) := (Below.refl _ _).alloc (Nat.le_refl _) _
  have z0 : w.heap.size < (w.alloc (.cells #[.int .i64 sc, .int .i64 ta, .int .i64 mo] 24)).heap.size := by simp
  clear hp he hz hR hc hN hFF hSS hLL hst hen
  go_enter Try.func21, Try.ntmps21
  go_upto_region 1 with fail
  generalize w.alloc (.cells #[.int .i64 sc, .int .i64 ta, .int .i64 mo] 24) = w0 at *
  obtain ⟨Q, hQ⟩ : ∃ Q, w.heap.size = Q := ⟨_, rfl⟩
  have HQ := Lib.hid hQ
  rw [hQ] at q0 q1 q2 z0
  simp only [hQ]
  have hS : w0.cell? ⟨Q, 0, none⟩ = some (.int .i64 sc) ∧ w0.cell? ⟨Q, 1, none⟩ = some (.int .i64 ta) ∧ w0.cell? ⟨Q, 2, none⟩ = some (.int .i64 mo) ∧ Below w.heap.size w w0 ∧ Q < w0.heap.size := ⟨q0, q1, q2, b0, z0⟩
  clear hQ
  go_wp2_with fail
  refine (places_any _ zs _ _ _ _ (HN.out.below b0 (Nat.le_refl _))).mono ?_; rintro e w1 ⟨rfl, b1⟩
  rw [HP.out]
  have hS := carryQ hS b1
  clear q0 q1 q2 b0 z0
  go_wp2_with fail
  refine (endck_walk b off n cap zs en _ HZ.out hn0 hn (Nat.lt_of_lt_of_le hlt hS.2.2.2.1.size) (fun j hj => by rw [hS.2.2.2.1.cell (p := ⟨b, off + j, none⟩) hlt]; exact HC.out j hj)).mono ?_; rintro e w2 ⟨rfl, b2⟩
  rw [HE.out]
  have hS := carryQ hS b2
  go_upto_region 7 with fail
  have HCL : Hid (∀ W', Below w.heap.size w W' → Calls Try.prog 44 #[.slice (some ⟨b, off, none⟩) n cap] W' fun e w' => ∃ v', e = .returned v' ∧ w'.ownsRow W'.heap.size 3 1 v' n (zs.map (Value.int .i64)) ∧ v' ≠ .slice none 0 0 ∧ Below W'.heap.size W' w') := Lib.hid (fun W' hb => by
    have := Try.slices_Clone_int b off n cap zs W' (by rw [HZ.out]; exact Nat.le_refl _) (by omega) (fun j hj => by rw [hb.cell (p := ⟨b, off + j, none⟩) hlt]; exact HC.out j (by rw [← HZ.out]; exact hj))
    rw [List.take_of_length_le (by rw [HZ.out]; exact Nat.le_refl _)] at this
    exact this)
  have HPL : Hid (∀ (g cp : Nat) (base : Nat) (W' : World), W'.ownsRow base 3 1 (.slice (some ⟨g, 0, none⟩) (n + 1) cp) (n + 1) (zs.map (Value.int .i64) ++ [.int .i64 en]) → Calls Try.prog 43 #[.slice (some ⟨g, 0, none⟩) (n + 1) cp, .agg #[.int .i64 sc, .int .i64 ta, .int .i64 mo]] W' fun e' w' => (∃ P, e' = .returned (.slice (some ⟨P, 0, none⟩) (n + 1) (n + 1)) ∧ PlAt w' P (n + 1) (planOf (stopF zs en) ta mo n) ∧ W'.heap.size ≤ P ∧ P < w'.heap.size) ∧ Below W'.heap.size W' w') := Lib.hid (fun g cp base W' hown => by
    refine plansOf_walk g 0 (n + 1) cp n (zs ++ [en]) sc ta mo W' rfl (by simp [HZ.out]) hn (hown.lt _ rfl).2 (fun j hj => ?_) HST.out (fun j hj => ?_)
    · rw [Nat.zero_add, World.ownsRow.cellAt hown j (by omega), show zs.map (Value.int .i64) ++ [.int .i64 en] = (zs ++ [en]).map (Value.int .i64) by simp]
      have hj2 : j < (zs ++ [en]).length := by simp [HZ.out]; omega
      rw [List.getElem?_map, List.getElem?_eq_getElem hj2, Option.map_some, getD_eq_get _ _ hj2]
    · by_cases h : j < n
      · rw [getD_snoc_lt _ _ _ (by rw [HZ.out]; exact h)]; exact HR.out.time j (by rw [HZ.out]; exact h)
      · rw [getD_snoc_eq _ _ _ (by rw [HZ.out]; omega)]; exact ⟨en1, en2⟩)
  go_cut [11] (fun s11 wx => ∃ P, s11 = .slice (some ⟨P, 0, none⟩) (n + 1) (n + 1) ∧ PlAt wx P (n + 1) (planOf (stopF zs en) ta mo n) ∧ P < wx.heap.size ∧ Below w.heap.size w wx)
  case first =>
    refine wp_region_noPanic ?_
    refine wp_region_held_drew (S := fun w' => w'.cell? ⟨Q, 0, none⟩ = some (.int .i64 sc) ∧ w'.cell? ⟨Q, 1, none⟩ = some (.int .i64 ta) ∧ w'.cell? ⟨Q, 2, none⟩ = some (.int .i64 mo) ∧ Below w.heap.size w w' ∧ Q < w'.heap.size) (by kernel_rfl) ?hS0 (fun hHeld => ?_)
    case hS0 => exact carryQ hS (Below.refl _ _).drew
    have hS := carryQ hS (Below.refl _ _).drew
    generalize w2.drew = wd at *
    refine wpAnyH_take (i := 0) (v := ?_) rfl (by kernel_rfl) (by kernel_rfl) (by kernel_rfl) (fun _ _ _ h => h) (Or.inl ⟨by kernel_rfl, ?hy⟩) (by assumption) ?_
    case hy => (intro w hSw; (try dsimp only at hSw); go_simp; try (with_reducible rfl))
    try simp only [Act.put, List.setIfInBounds_toArray, List.set_cons_zero, List.set_cons_succ]
    refine wpAnyH_take (i := 2) (v := ?_) rfl (by kernel_rfl) (by kernel_rfl) (by kernel_rfl) (fun _ _ _ h => h) (Or.inl ⟨by kernel_rfl, ?hy⟩) (by assumption) ?_
    case hy => (intro w hSw; (try dsimp only at hSw); go_simp; try (with_reducible rfl))
    try simp only [Act.put, List.setIfInBounds_toArray, List.set_cons_zero, List.set_cons_succ]
    refine wpAnyH_take (i := 5) (v := ?_) rfl (by kernel_rfl) (by kernel_rfl) (by kernel_rfl) (fun _ _ _ h => h) (Or.inl ⟨by kernel_rfl, ?hy⟩) (by assumption) ?_
    case hy => (intro w hSw; (try dsimp only at hSw); go_simp; try (with_reducible rfl))
    try simp only [Act.put, List.setIfInBounds_toArray, List.set_cons_zero, List.set_cons_succ]
    refine wpAnyH_ready (rs := [1, 3]) (by kernel_rfl) (by simp) ?_
    have hSd := hS
    refine AllReadyH.cons rfl (fun K hK => ?_) (AllReadyH.cons rfl (fun K hK => ?_) AllReadyH.nil)
    · go_simp
      refine (HCL.out _ hS.2.2.2.1).mono ?_; rintro e wc1 ⟨vc, rfl, hown, -, bc1⟩
      have hS := carryQ hS bc1
      refine hK.out _ _ hS (fun hHeld => ?_)
      clear hK K
      try simp only [Act.put, List.setIfInBounds_toArray, List.set_cons_zero, List.set_cons_succ]
      refine wpAnyH_ready (rs := [3]) (by kernel_rfl) (by simp) ?_
      refine AllReadyH.cons rfl (fun K hK => ?_) AllReadyH.nil
      go_simp
      have HBL : Below wd.heap.size wd (wc1.alloc (.cells #[.int .i64 en] 3)) := bc1.alloc bc1.size _
      have hnw : (wc1.alloc (.cells #[.int .i64 en] 3)).cell? ⟨wc1.heap.size, 0, none⟩ = some (.int .i64 en) := by simp
      refine hK.out _ _ (carryQ hS ((Below.refl _ _).alloc (Nat.le_refl _) _)) (fun hHeld => ?_)
      clear hK K
      try simp only [Act.put, List.setIfInBounds_toArray, List.set_cons_zero, List.set_cons_succ]
      refine wpAnyH_ready (rs := [4]) (by kernel_rfl) (by simp) ?_
      refine AllReadyH.cons rfl (fun K hK => ?_) AllReadyH.nil
      have hownA := hown.alloc (.cells #[.int .i64 en] 3)
      have hbs := hownA.1
      refine step_append_lies _ rfl (.tmp 27) (.tmp 29) 22 rfl _ 3 ti (.int .i64 0) 1 8 Try.underlying22 hi hi0 hi1 hi2 rfl (by decide) vc n (zs.map (Value.int .i64)) (by rfl) hownA _ 1 1 [.int .i64 en] (by rfl) rfl (news1 hnw) ?h1 (by omega) ?h63 ?hby ?hbase _ rfl ?_
      case h1 => simp [Value.oneCell']
      case h63 => unfold maxLen; omega
      case hby => omega
      case hbase => (have h2 := bc1.size; simp at h2 ⊢; omega)
      intro g6 cp6 w6 hown6 hgrow6 hat6 hlt6
      have hbl : Below wd.heap.size wd w6 := HBL.grown hgrow6 (by have := HBL.size; omega) (fun q hq => by have := (hownA.lt q hq).1; omega)
      have hS := carryQ hSd hbl
      refine hK.out _ _ hS (fun hHeld => ?_)
      clear hgrow6 hat6
      clear hK K
      try simp only [Act.put, List.setIfInBounds_toArray, List.set_cons_zero, List.set_cons_succ]
      refine wpAnyH_ready (rs := [6]) (by kernel_rfl) (by simp) ?_
      refine AllReadyH.cons rfl (fun K hK => ?_) AllReadyH.nil
      go_simp
      refine (HPL.out _ _ _ _ hown6).mono ?_; rintro e w7 ⟨⟨P, rfl, hpl, hPa, hPb⟩, b7⟩
      have hS := carryQ hS b7
      refine hK.out _ _ hS (fun hHeld => ?_)
      clear hK K
      try simp only [Act.put, List.setIfInBounds_toArray, List.set_cons_zero, List.set_cons_succ]
      refine wpAnyH_ready (rs := [7]) (by kernel_rfl) (by simp) ?_
      refine AllReadyH.cons rfl (fun K hK => ?_) AllReadyH.nil
      go_simp
      refine hK.out _ _ hS (fun hHeld => ?_)
      clear hK K
      try simp only [Act.put, List.setIfInBounds_toArray, List.set_cons_zero, List.set_cons_succ]
      refine wpAnyH_done (by kernel_rfl) ?_ _
      refine NoPanic.normal ?_
      go_wp2_with fail
      go_meet
      exact ⟨P, rfl, hpl, hPb, hS.2.2.2.1⟩
    · go_simp
      have hAl : Below wd.heap.size wd (wd.alloc (.cells #[.int .i64 en] 3)) := (Below.refl _ _).alloc (Nat.le_refl _) _
      have hnw0 : (wd.alloc (.cells #[.int .i64 en] 3)).cell? ⟨wd.heap.size, 0, none⟩ = some (.int .i64 en) := by simp
      have hz1 : wd.heap.size < (wd.alloc (.cells #[.int .i64 en] 3)).heap.size := by simp
      have hS := carryQ hS hAl
      refine hK.out _ _ hS (fun hHeld => ?_)
      clear hK K
      try simp only [Act.put, List.setIfInBounds_toArray, List.set_cons_zero, List.set_cons_succ]
      refine wpAnyH_ready (rs := [1]) (by kernel_rfl) (by simp) ?_
      refine AllReadyH.cons rfl (fun K hK => ?_) AllReadyH.nil
      go_simp
      refine (HCL.out _ hS.2.2.2.1).mono ?_; rintro e wc1 ⟨vc, rfl, hown, -, bc1⟩
      have hS := carryQ hS bc1
      refine hK.out _ _ hS (fun hHeld => ?_)
      clear hK K
      try simp only [Act.put, List.setIfInBounds_toArray, List.set_cons_zero, List.set_cons_succ]
      have HBL : Below wd.heap.size wd wc1 := hAl.trans (bc1.mono (by simp))
      have hnw := (bc1.cell (p := ⟨wd.heap.size, 0, none⟩) hz1).trans hnw0
      refine wpAnyH_ready (rs := [4]) (by kernel_rfl) (by simp) ?_
      refine AllReadyH.cons rfl (fun K hK => ?_) AllReadyH.nil
      have hownA := hown
      have hbs := hownA.1
      refine step_append_lies _ rfl (.tmp 27) (.tmp 29) 22 rfl _ 3 ti (.int .i64 0) 1 8 Try.underlying22 hi hi0 hi1 hi2 rfl (by decide) vc n (zs.map (Value.int .i64)) (by rfl) hownA _ 1 1 [.int .i64 en] (by rfl) rfl (news1 hnw) ?h1 (by omega) ?h63 ?hby ?hbase _ rfl ?_
      case h1 => simp [Value.oneCell']
      case h63 => unfold maxLen; omega
      case hby => omega
      case hbase => (have h2 := bc1.size; simp at h2 ⊢; omega)
      intro g6 cp6 w6 hown6 hgrow6 hat6 hlt6
      have hbl : Below wd.heap.size wd w6 := HBL.grown hgrow6 (by have := HBL.size; omega) (fun q hq => by have := (hownA.lt q hq).1; omega)
      have hS := carryQ hSd hbl
      refine hK.out _ _ hS (fun hHeld => ?_)
      clear hgrow6 hat6
      clear hK K
      try simp only [Act.put, List.setIfInBounds_toArray, List.set_cons_zero, List.set_cons_succ]
      refine wpAnyH_ready (rs := [6]) (by kernel_rfl) (by simp) ?_
      refine AllReadyH.cons rfl (fun K hK => ?_) AllReadyH.nil
      go_simp
      refine (HPL.out _ _ _ _ hown6).mono ?_; rintro e w7 ⟨⟨P, rfl, hpl, hPa, hPb⟩, b7⟩
      have hS := carryQ hS b7
      refine hK.out _ _ hS (fun hHeld => ?_)
      clear hK K
      try simp only [Act.put, List.setIfInBounds_toArray, List.set_cons_zero, List.set_cons_succ]
      refine wpAnyH_ready (rs := [7]) (by kernel_rfl) (by simp) ?_
      refine AllReadyH.cons rfl (fun K hK => ?_) AllReadyH.nil
      go_simp
      refine hK.out _ _ hS (fun hHeld => ?_)
      clear hK K
      try simp only [Act.put, List.setIfInBounds_toArray, List.set_cons_zero, List.set_cons_succ]
      refine wpAnyH_done (by kernel_rfl) ?_ _
      refine NoPanic.normal ?_
      go_wp2_with fail
      go_meet
      exact ⟨P, rfl, hpl, hPb, hS.2.2.2.1⟩
  case rest =>
    obtain ⟨P, rfl, hpl, hPs, hbel⟩ := hcut
    have hpl0 := (hpl 0 (by omega)).1
    obtain ⟨l0, l1, l2⟩ := hpl0
    simp only [Nat.zero_mul, Nat.zero_add] at l0 l1 l2
    obtain ⟨r, hr⟩ : ∃ r, planOf (stopF zs en) ta mo n 0 = r := ⟨_, rfl⟩
    rw [hr] at l0 l1 l2 HFF HSS
    have HRR := Lib.hid hr
    obtain ⟨rs, rm, rn⟩ := r
    simp only at l0 l1 l2 HFF HSS
    have HPL2 := Lib.hid hpl
    clear hpl hr hS
    by_cases h0 : rm = 0
    · have hF := HFF.out
      rw [if_pos h0] at hF
      have hSS := HSS.out
      rw [hF, if_neg (by decide)] at hSS
      have hLL := HLL.out
      rw [hF, if_neg (by decide)] at hLL
      subst hF hSS hLL h0
      go_wp2_with fail
      go_ret3
      exact ⟨⟨_, rfl, .inl ⟨_, _, rfl, rfl⟩⟩, hbel⟩
    · have hF := HFF.out
      rw [if_neg h0] at hF
      have hSS := HSS.out
      rw [hF, if_pos rfl] at hSS
      have HL2 : Hid (chainP (stopF zs en) (planOf (stopF zs en) ta mo n) n n 0 = LL) := Lib.hid (by rw [HLL.out, hF, if_pos rfl])
      have hm0 : ((rm : Int) == 0) = false := by simp; omega
      have HM0 : Hid ((planOf (stopF zs en) ta mo n 0).many ≠ 0) := Lib.hid (by rw [HRR.out]; exact h0)
      subst hF hSS
      clear h0
      go_wp2_with fail
      go_loopw [12, 13] (fun v12 v13 wr => ∃ (f i : Nat) (B : List Int), v13 = .int .i64 (i : Int) ∧ i ≤ n ∧ n - i ≤ f ∧ B.length ≤ i ∧ wr.ownsRow wc.heap.size 3 1 v12 B.length (B.map (Value.int .i64)) ∧ wc.heap.size ≤ wr.heap.size ∧ Below wc.heap.size wc wr ∧ Hid (i < n → (planOf (stopF zs en) ta mo n i).many ≠ 0) ∧ Hid (B ++ chainP (stopF zs en) (planOf (stopF zs en) ta mo n) n f i = LL)) (fun _ v13 _ => n - (intOf v13).toNat)
      case atStart => exact ⟨n, 0, [], rfl, by omega, by omega, by simp, World.ownsRow_nil _ _ _ _, Nat.le_refl _, Below.refl _ _, Lib.hid (fun _ => HM0.out), Lib.hid HL2.out⟩
      case round =>
        obtain ⟨f, i, B, rfl, hin, hf, hBl, hown, hsz, hbr, HMI, HCH⟩ := hrel
        have k0 : wr.cell? ⟨P, 0, none⟩ = some (.int .i64 SS) := by rw [hbr.cell (p := ⟨P, 0, none⟩) hPs]; exact l0
        by_cases hlt2 : i < n
        · obtain ⟨f', hf1, hf2, hf3, hf4, hf5, hf6⟩ := chain_step HST.out hlt2 (HMI.out hlt2) hf
          obtain ⟨⟨-, -, k2⟩, -⟩ := HPL2.out i (by omega)
          obtain ⟨y, hy⟩ : ∃ y, (planOf (stopF zs en) ta mo n i).next = y := ⟨_, rfl⟩
          rw [hy] at hf2 hf3 hf4 hf5 hf6 k2
          have k2' : wr.cell? ⟨P, i * 3 + 2, none⟩ = some (.int .i64 (y : Int)) := by rw [hbr.cell (p := ⟨P, i * 3 + 2, none⟩) hPs]; exact k2
          have hlw : b < wc.heap.size := Nat.lt_of_lt_of_le hlt hbel.size
          obtain ⟨x, hx⟩ : ∃ x, zs.getD i 0 = x := ⟨_, rfl⟩
          have d0 : wr.cell? ⟨b, off + i, none⟩ = some (.int .i64 x) := by rw [hbr.cell (p := ⟨b, off + i, none⟩) hlw, hbel.cell (p := ⟨b, off + i, none⟩) hlt, ← hx]; exact HC.out i hlt2
          have HN2 : Hid ((B ++ [x]) ++ chainP (stopF zs en) (planOf (stopF zs en) ta mo n) n f' y = LL) := Lib.hid (by
            rw [← HCH.out, hf2, stopF_lt zs en i (by rw [HZ.out]; exact hlt2), hx]
            simp)
          have HF6 := Lib.hid hf6
          have hPn : P < wr.heap.size := by omega
          have hi9 : (i : Int) < ((n : Int) + 1) := by omega
          obtain ⟨a7, c7, rfl⟩ := own_form hown
          have hrowne : ∀ q, Value.ownBlock (.slice a7 B.length c7) = some q → wc.heap.size ≤ q := fun q hq => (hown.lt q hq).1
          clear hf1 hf2 hf6 hy hx k2 k0
          go_wp2_with (at_builtin; refine wpList_append_own _ rfl _ _ 22 rfl wc.heap.size 3 ti (.int .i64 0) 1 8 Try.underlying22 hi hi0 hi1 hi2 rfl (by decide) _ _ _ rfl (hown.alloc _) ⟨wr.heap.size, 0, none⟩ 1 1 [.int .i64 x] rfl rfl ?e1 ?e2 ?e3 ?e4 ?e5 ?_)
          case e1 =>
            have := World.news_of_block (cs := #[.int .i64 x]) (t := 3) (fr := (0, 0)) (heap_alloc_new wr (.cells #[.int .i64 x] 3))
            simpa using this
          case e2 => simp [Value.oneCell']
          case e3 => unfold maxLen; omega
          case e4 => omega
          case e5 => first | omega | (simp; omega)
          intro v' w5 hown5 hgrow5 _
          have hb5 : Below wc.heap.size wc w5 := ((hbr.alloc hsz _).grown hgrow5 (by simp; omega) (fun q hq => hrowne q hq))
          have hs5 : wc.heap.size ≤ w5.heap.size := by have := hgrow5.size; simp at this; omega
          have k5 : w5.cell? ⟨P, i * 3 + 2, none⟩ = some (.int .i64 (y : Int)) := by
            rw [World.grownBy.cell_far hgrow5 ⟨P, i * 3 + 2, none⟩ (by simp; omega) (fun h => by have := hrowne P h.symm; omega), World.cell?_alloc_past _ _ _ hPn]
            exact k2'
          clear hgrow5 hown k2' d0
          go_wp2_with fail
          go_roundw
          case rel => exact ⟨f', y, B ++ [x], rfl, hf4, hf5, by simp; omega, by simpa using hown5, hs5, hb5, HF6, HN2⟩
          case measure => simp [intOf]; omega
        · have hd : decide (i < n) = false := by simp; omega
          have hie : i = n := by omega
          have HB : Hid (B = LL) := Lib.hid (by
            rw [← HCH.out, hie]
            cases f with
            | zero => simp [chainP]
            | succ f => simp [chainP])
          have hfin := hbel.trans (hbr.mono hbel.size)
          obtain ⟨a7, c7, rfl⟩ := own_form hown
          clear hie hlt2
          go_upto_region 15 with fail
          go_quiet (fail)
          go_wp2_with fail
          go_ret3
          refine ⟨⟨_, rfl, ?_⟩, below_drewN hfin _⟩
          rw [← HB.out]
          exact (NumsC.ofOwn (zs := B) hown).drewN _

end Go.Proofs.Ytgbdmgmbdjajeaa
