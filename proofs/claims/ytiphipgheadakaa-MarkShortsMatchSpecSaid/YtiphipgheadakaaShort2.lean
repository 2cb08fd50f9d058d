/- The reference's Shortened; MarkShortsMatchSpec: the walk. -/
import Derived.Test.YtiphipgheadakaaShort
namespace Go.Proofs.Ytiphipgheadakaa
set_option linter.unusedVariables false
set_option linter.unusedSimpArgs false
open Go.RowKit

theorem rshortened_bad (v : Value) (bs : List Bk) (e : Int) (w : World) (hS : Bks w v bs) (h0 : shF bs e ≠ 0) :
    Calls Try.prog 16 #[v, .int .i64 e] w fun r w' => (∃ u, r = .returned (.tuple #[u, .int .i64 (shF bs e)]) ∧ w'.ownsRow w.heap.size 35 3 u 0 (bcells [])) ∧ Below w.heap.size w w' := by
  have HCP := Lib.hid (rCheckBreaks_any v bs w hS)
  obtain ⟨F0, hF0⟩ : ∃ F0, bkF bs = F0 := ⟨_, rfl⟩
  obtain ⟨T1, hT1⟩ : ∃ T1, inB e 0 1000000000000000 = T1 := ⟨_, rfl⟩
  have HSM := Lib.hid (sh_sum F0 T1 bs e hF0 hT1)
  have HT1 : Hid (∀ W, Calls Try.prog 44 #[.int .i64 e, .int .i64 0, .int .i64 1000000000000000] W fun e w' => e = .returned (.bool T1) ∧ W = w') := Lib.hid (fun W => by rw [← hT1]; exact rwithin7_any e _ _ W)
  obtain ⟨R, hR⟩ : ∃ R, shF bs e = R := ⟨_, rfl⟩
  rw [hR] at h0 HSM ⊢
  rw [hF0] at HCP
  have H0 := Lib.hid h0
  clear hF0 hT1 hR hS h0
  by_cases hf : F0 = 0
  rotate_left
  · have r0 : (F0 == 0) = false := by simp; exact hf
    have r1 : (F0 != 0) = true := by simp; exact hf
    have e1 : R = F0 := by rw [← HSM.out, fstF, if_neg hf]
    subst e1
    clear hf
    go_enter Try.func16, Try.ntmps16
    go_wp2_with fail
    refine HCP.out.mono ?_; rintro r w1 ⟨rfl, b1⟩
    go_wp2_with fail
    go_ret2
    exact ⟨⟨_, rfl, World.ownsRow_nil _ _ _ _⟩, b1⟩
  · subst hf
    cases T1
    · have e1 : R = 1 := HSM.out.symm
      subst e1
      go_enter Try.func16, Try.ntmps16
      go_wp2_with fail
      refine HCP.out.mono ?_; rintro r w1 ⟨rfl, b1⟩
      go_wp2_with fail
      refine (HT1.out _).mono ?_; rintro r w' ⟨rfl, rfl⟩
      go_wp2_with fail
      go_ret2
      exact ⟨⟨_, rfl, World.ownsRow_nil _ _ _ _⟩, b1⟩
    · exact absurd HSM.out.symm H0.out
set_option maxRecDepth 100000 in
set_option maxHeartbeats 16000000 in
theorem rshortened_good (v : Value) (bs : List Bk) (e : Int) (w : World) (hS : Bks w v bs) (h0 : shF bs e = 0) :
    Calls Try.prog 16 #[v, .int .i64 e] w fun r w' => (∃ u, r = .returned (.tuple #[u, .int .i64 0]) ∧ w'.ownsRow w.heap.size 35 3 u (shTo bs e bs.length).length (bcells (shTo bs e bs.length))) ∧ Below w.heap.size w w' := by
  obtain ⟨i0, hi, hi0, hi1, hi2⟩ := info_parts Try.infoBk
  obtain ⟨hp0, he0, he1⟩ := shF_zero h0
  have hn5 := bk_len hp0
  obtain ⟨sa, cap, rfl⟩ := hS.parts
  obtain ⟨n, hn⟩ : ∃ n, bs.length = n := ⟨_, rfl⟩
  have HCP : Hid (∀ W, Below w.heap.size w W → Calls Try.prog 18 #[.slice sa n cap] W fun e w' => e = .returned (.int .i64 0) ∧ Below W.heap.size W w') := Lib.hid (fun W hb => by rw [← hp0, ← hn]; exact rCheckBreaks_any _ bs W (hS.below hb (Nat.le_refl _)))
  have HT1 : Hid (∀ W, Calls Try.prog 44 #[.int .i64 e, .int .i64 0, .int .i64 1000000000000000] W fun e w' => e = .returned (.bool true) ∧ W = w') := Lib.hid (fun W => by have := rwithin7_any e 0 1000000000000000 W; rw [inB_yes he0 he1] at this; exact this)
  have HS : Hid (∀ W, Below w.heap.size w W → Bks W (.slice sa n cap) bs) := Lib.hid (fun W hb => by rw [← hn]; exact hS.below hb (Nat.le_refl _))
  have HN := Lib.hid hn
  rw [hn] at hn5 ⊢
  have b0 : Below w.heap.size w w := Below.refl _ w
  clear hS hn h0 hp0
  go_enter Try.func16, Try.ntmps16
  go_wp2_with fail
  refine (HCP.out _ b0).mono ?_; rintro r w3 ⟨rfl, b1⟩
  go_wp2_with fail
  refine (HT1.out _).mono ?_; rintro r w' ⟨rfl, rfl⟩
  clear b0 HCP HT1
  obtain ⟨Z, hZ⟩ : ∃ Z, w3.heap.size = Z := ⟨_, rfl⟩
  have hZw : w.heap.size ≤ Z := by have := b1.size; omega
  have HBW : Hid (∀ wr, Below Z w3 wr → Below w.heap.size w wr) := Lib.hid (fun wr hb => b1.trans (hb.mono hZw))
  have HSZ : Hid (∀ wr, Below Z w3 wr → Z ≤ wr.heap.size) := Lib.hid (fun wr hb => by have := hb.size; omega)
  have hb3 : Below Z w3 w3 := Below.refl _ _
  clear hZ b1
  go_wp2_with fail
  go_loopw [7, 8] (fun v9 v36 wr => ∃ k : Nat, k ≤ n ∧ v36 = .int .i64 (k : Int) ∧ wr.ownsRow Z 35 3 v9 (shTo bs e k).length (bcells (shTo bs e k)) ∧ Below Z w3 wr) (fun _ v36 _ => n - (intOf v36).toNat)
  case atStart => exact ⟨0, Nat.zero_le _, rfl, World.ownsRow_nil _ _ _ _, hb3⟩
  case round =>
    clear hb3
    obtain ⟨k, hk, rfl, hown, hbr⟩ := hrel
    by_cases hk2 : k < n
    rotate_left
    · have hkn : k = n := by omega
      have kD : decide ((k : Int) < (n : Int)) = false := by simp; omega
      have kD2 : decide (k < n) = false := by simp; omega
      rw [hkn] at hown
      have hfin := own_base hown hZw
      clear hkn hown
      go_wp2_with fail
      go_ret2
      exact ⟨⟨_, rfl, hfin⟩, HBW.out _ hbr⟩
    · have hSW := HS.out _ (HBW.out _ hbr)
      obtain ⟨bb, off, cap', hv, hlt, -, -⟩ := hSW.spot (by rw [HN.out]; omega)
      simp only [Value.slice.injEq] at hv
      obtain ⟨rfl, -, rfl⟩ := hv
      obtain ⟨c0, c1, c2⟩ := hSW.cells k (by rw [HN.out]; exact hk2)
      have hzr := HSZ.out _ hbr
      have HSK : Hid (shTo bs e (k + 1) = if (bs.getD k bk0).be < e then shTo bs e k ++ [cutB e (bs.getD k bk0)] else shTo bs e k) := Lib.hid rfl
      obtain ⟨x, hx⟩ : ∃ x, bs.getD k bk0 = x := ⟨_, rfl⟩
      rw [hx] at c0 c1 c2 HSK
      have hL5 := shTo_len bs e k
      have kI : (k : Int) < (n : Int) := by omega
      have hwI : IntKind.i64.wrap ((k : Int) + 1) = (k : Int) + 1 := IntWalk.i64_in _ ⟨by omega, by omega⟩
      obtain ⟨va, vc, rfl⟩ := iown7_form hown
      have PX := BBox.new wr x 35
      have hne9 : (Value.slice va (shTo bs e k).length vc).ownBlock ≠ some wr.heap.size := fun h => by have := (hown.lt _ h).2; omega
      have hown := hown.alloc (.cells #[.int .i64 x.ev, .int .i64 x.be, .int .i64 x.en] 35)
      have hbr := hbr.alloc (o := .cells #[.int .i64 x.ev, .int .i64 x.be, .int .i64 x.en] 35) hzr
      have fz : (wr.alloc (.cells #[.int .i64 x.ev, .int .i64 x.be, .int .i64 x.en] 35)).frozen? ⟨wr.heap.size, 2, none⟩ = false := World.frozen?_alloc_at _ _ _ _ rfl
      have hZ9 : Z ≤ wr.heap.size := hzr
      have hsz9 : Z ≤ (wr.alloc (.cells #[.int .i64 x.ev, .int .i64 x.be, .int .i64 x.en] 35)).heap.size := Nat.le_trans hzr (by simp)
      clear hx hSW hzr
      go_upto_region 11 with fail
      generalize wr.alloc (.cells #[.int .i64 x.ev, .int .i64 x.be, .int .i64 x.en] 35) = W9 at *
      generalize wr.heap.size = X9 at *
      clear c0 c1 c2
      have y0 := PX.c0; have y1 := PX.c1; have y2 := PX.c2; have yl := PX.lt
      by_cases hbe : x.be < e
      rotate_left
      · have hq : e ≤ x.be := by omega
        have HS2 : Hid (shTo bs e (k + 1) = shTo bs e k) := Lib.hid (by rw [HSK.out, if_neg hbe])
        clear hbe
        go_wp2_with fail
        go_roundw
        case rel => exact ⟨k + 1, by omega, by go_num, by rw [HS2.out]; exact hown, hbr⟩
        case measure => simp [intOf]; omega
      · have HS2 : Hid (shTo bs e (k + 1) = shTo bs e k ++ [cutB e x]) := Lib.hid (by rw [HSK.out, if_pos hbe])
        have hq : decide (e ≤ x.be) = false := by simp; omega
        have HCE : Hid ((cutB e x).en = if x.en = -1 then e else min x.en e) := Lib.hid rfl
        obtain ⟨e2, he2⟩ : ∃ e2, (cutB e x).en = e2 := ⟨_, rfl⟩
        have HCB : Hid (cutB e x = ⟨x.ev, x.be, e2⟩) := Lib.hid (by rw [← he2]; rfl)
        rw [he2] at HCE
        rw [HCB.out] at HS2
        clear hbe he2
        by_cases hm : x.en = -1
        · have hq2 : (x.en == -1) = true := by simp; exact hm
          have e5 : e2 = e := by rw [HCE.out, if_pos hm]
          subst e5
          clear hm
          go_upto_region 14 with fail
          have PX2 : BBox (W9.setCell ⟨X9, 2, none⟩ (.int .i64 e2)) X9 ⟨x.ev, x.be, e2⟩ := ⟨by simpa using PX.lt, by rw [World.cell?_setCell_other (h := by simp)]; exact PX.c0, by rw [World.cell?_setCell_other (h := by simp)]; exact PX.c1, World.cell?_setCell_same _ _ _ PX.c2⟩
          have hown := own_set hown (p := ⟨X9, 2, none⟩) hne9 (.int .i64 e2)
          have hbr := hbr.setCell (p := ⟨X9, 2, none⟩) hZ9 (.int .i64 e2)
          clear PX y0 y1 y2 yl fz
          generalize W9.setCell ⟨X9, 2, none⟩ (.int .i64 e2) = W6 at *
          have y0 := PX2.c0; have y1 := PX2.c1; have y2 := PX2.c2; have yl := PX2.lt
          go_wp2_with (at_builtin; refine wpList_append_own _ rfl _ _ 28 rfl Z 35 i0 (.agg #[.int .i64 0, .int .i64 0, .int .i64 0]) 3 24 Try.underlying28 hi hi0 hi1 hi2 rfl (by decide) _ _ _ rfl (hown.alloc _) ⟨W6.heap.size, 0, none⟩ 1 1 [.int .i64 x.ev, .int .i64 x.be, .int .i64 e2] rfl rfl (by have := World.news_of_block (cs := #[.int .i64 x.ev, .int .i64 x.be, .int .i64 e2]) (t := 35) (fr := (0, 0)) (heap_alloc_new W6 (.cells #[.int .i64 x.ev, .int .i64 x.be, .int .i64 e2] 35)); simpa using this) ?b2 ?b3 ?b4 ?b5 ?_)
          case b2 => simp [Value.oneCell']
          case b3 => unfold maxLen; omega
          case b4 => omega
          case b5 => have := HSZ.out _ hbr; first | omega | (simp; omega)
          intro v' w6 hown1 hgrow _
          have hs6 := HSZ.out _ hbr
          have hb6 : Below Z w3 w6 := (hbr.alloc hs6 _).grown hgrow (by simp; omega) (fun q hq => (hown.lt q hq).1)
          have hown6 : w6.ownsRow Z 35 3 v' (shTo bs e2 (k + 1)).length (bcells (shTo bs e2 (k + 1))) := by rw [HS2.out, List.length_append, bcells_snoc]; exact hown1
          clear hown1 hgrow hown
          go_wp2_with fail
          go_roundw
          case rel => exact ⟨k + 1, by omega, by go_num, hown6, hb6⟩
          case measure => simp [intOf]; omega
        · have hq2 : (x.en == -1) = false := by simp; exact hm
          have e5 : e2 = min x.en e := by rw [HCE.out, if_neg hm]
          by_cases hg : e < x.en
          · have e6 : e2 = e := by omega
            clear e5 hm
            subst e6
            go_upto_region 14 with fail
            have PX2 : BBox (W9.setCell ⟨X9, 2, none⟩ (.int .i64 e2)) X9 ⟨x.ev, x.be, e2⟩ := ⟨by simpa using PX.lt, by rw [World.cell?_setCell_other (h := by simp)]; exact PX.c0, by rw [World.cell?_setCell_other (h := by simp)]; exact PX.c1, World.cell?_setCell_same _ _ _ PX.c2⟩
            have hown := own_set hown (p := ⟨X9, 2, none⟩) hne9 (.int .i64 e2)
            have hbr := hbr.setCell (p := ⟨X9, 2, none⟩) hZ9 (.int .i64 e2)
            clear PX y0 y1 y2 yl fz
            generalize W9.setCell ⟨X9, 2, none⟩ (.int .i64 e2) = W6 at *
            have y0 := PX2.c0; have y1 := PX2.c1; have y2 := PX2.c2; have yl := PX2.lt
            go_wp2_with (at_builtin; refine wpList_append_own _ rfl _ _ 28 rfl Z 35 i0 (.agg #[.int .i64 0, .int .i64 0, .int .i64 0]) 3 24 Try.underlying28 hi hi0 hi1 hi2 rfl (by decide) _ _ _ rfl (hown.alloc _) ⟨W6.heap.size, 0, none⟩ 1 1 [.int .i64 x.ev, .int .i64 x.be, .int .i64 e2] rfl rfl (by have := World.news_of_block (cs := #[.int .i64 x.ev, .int .i64 x.be, .int .i64 e2]) (t := 35) (fr := (0, 0)) (heap_alloc_new W6 (.cells #[.int .i64 x.ev, .int .i64 x.be, .int .i64 e2] 35)); simpa using this) ?b2 ?b3 ?b4 ?b5 ?_)
            case b2 => simp [Value.oneCell']
            case b3 => unfold maxLen; omega
            case b4 => omega
            case b5 => have := HSZ.out _ hbr; first | omega | (simp; omega)
            intro v' w6 hown1 hgrow _
            have hs6 := HSZ.out _ hbr
            have hb6 : Below Z w3 w6 := (hbr.alloc hs6 _).grown hgrow (by simp; omega) (fun q hq => (hown.lt q hq).1)
            have hown6 : w6.ownsRow Z 35 3 v' (shTo bs e2 (k + 1)).length (bcells (shTo bs e2 (k + 1))) := by rw [HS2.out, List.length_append, bcells_snoc]; exact hown1
            clear hown1 hgrow hown
            go_wp2_with fail
            go_roundw
            case rel => exact ⟨k + 1, by omega, by go_num, hown6, hb6⟩
            case measure => simp [intOf]; omega
          · have e6 : e2 = x.en := by omega
            have hq3 : decide (e < x.en) = false := decide_eq_false hg
            clear e5 hm hg
            subst e6
            go_upto_region 14 with fail
            generalize W9 = W6 at *
            go_wp2_with (at_builtin; refine wpList_append_own _ rfl _ _ 28 rfl Z 35 i0 (.agg #[.int .i64 0, .int .i64 0, .int .i64 0]) 3 24 Try.underlying28 hi hi0 hi1 hi2 rfl (by decide) _ _ _ rfl (hown.alloc _) ⟨W6.heap.size, 0, none⟩ 1 1 [.int .i64 x.ev, .int .i64 x.be, .int .i64 x.en] rfl rfl (by have := World.news_of_block (cs := #[.int .i64 x.ev, .int .i64 x.be, .int .i64 x.en]) (t := 35) (fr := (0, 0)) (heap_alloc_new W6 (.cells #[.int .i64 x.ev, .int .i64 x.be, .int .i64 x.en] 35)); simpa using this) ?b2 ?b3 ?b4 ?b5 ?_)
            case b2 => simp [Value.oneCell']
            case b3 => unfold maxLen; omega
            case b4 => omega
            case b5 => have := HSZ.out _ hbr; first | omega | (simp; omega)
            intro v' w6 hown1 hgrow _
            have hs6 := HSZ.out _ hbr
            have hb6 : Below Z w3 w6 := (hbr.alloc hs6 _).grown hgrow (by simp; omega) (fun q hq => (hown.lt q hq).1)
            have hown6 : w6.ownsRow Z 35 3 v' (shTo bs e (k + 1)).length (bcells (shTo bs e (k + 1))) := by rw [HS2.out, List.length_append, bcells_snoc]; exact hown1
            clear hown1 hgrow hown
            go_wp2_with fail
            go_roundw
            case rel => exact ⟨k + 1, by omega, by go_num, hown6, hb6⟩
            case measure => simp [intOf]; omega
theorem rShortened_any (v : Value) (bs : List Bk) (e : Int) (w : World) (hS : Bks w v bs) :
    Calls Try.prog 16 #[v, .int .i64 e] w fun r w' => (∃ u, r = .returned (.tuple #[u, .int .i64 (shF bs e)]) ∧ w'.ownsRow w.heap.size 35 3 u (shL bs e).length (bcells (shL bs e))) ∧ Below w.heap.size w w' := by
  by_cases h0 : shF bs e = 0
  · have e1 : shL bs e = shTo bs e bs.length := if_pos h0
    rw [e1, h0]
    exact rshortened_good v bs e w hS h0
  · have e1 : shL bs e = [] := if_neg h0
    rw [e1]
    exact rshortened_bad v bs e w hS h0
set_option maxRecDepth 100000 in
set_option maxHeartbeats 8000000 in
theorem shortslaw (v : Value) (bs : List Bk) (e : Int) (w : World) (hS : Bks w v bs) (hwf : ∀ y ∈ bs, bkWf y) :
    Calls Try.prog 4 #[v, .int .i64 e] w fun r w' => r = .returned (.bool true) ∧ Below w.heap.size w w' := by
  have HD := Lib.hid (Shortened_any v bs e w hS hwf)
  have HR : Hid (∀ W, Below w.heap.size w W → Calls Try.prog 16 #[v, .int .i64 e] W fun r w' => (∃ u, r = .returned (.tuple #[u, .int .i64 (shF bs e)]) ∧ w'.ownsRow W.heap.size 35 3 u (shL bs e).length (bcells (shL bs e))) ∧ Below W.heap.size W w') := Lib.hid (fun W hb => rShortened_any v bs e W (hS.below hb (Nat.le_refl _)))
  have HC : Hid (∀ W, Below w.heap.size w W → Calls Try.prog 17 #[v] W fun r w' => r = .returned (.int .i64 (bkF bs)) ∧ Below W.heap.size W w') := Lib.hid (fun W hb => CheckBreaks_any v bs W (hS.below hb (Nat.le_refl _)) hwf)
  have HQ : Hid (∀ W, Below w.heap.size w W → Calls Try.prog 18 #[v] W fun r w' => r = .returned (.int .i64 (bkF bs)) ∧ Below W.heap.size W w') := Lib.hid (fun W hb => rCheckBreaks_any v bs W (hS.below hb (Nat.le_refl _)))
  obtain ⟨F, hF⟩ : ∃ F, shF bs e = F := ⟨_, rfl⟩
  obtain ⟨L, hL⟩ : ∃ L, shL bs e = L := ⟨_, rfl⟩
  obtain ⟨G, hG⟩ : ∃ G, bkF bs = G := ⟨_, rfl⟩
  rw [hF, hL] at HD HR
  rw [hG] at HC HQ
  have eF : (F == F) = true := by simp
  have eG : (G == G) = true := by simp
  clear hF hL hG hS hwf
  go_enter Try.func4, Try.ntmps4
  go_wp2_with fail
  refine HD.out.mono ?_; rintro r w1 ⟨⟨u, rfl, hu⟩, b1⟩
  have U1 := Lib.hid (Bkr.ofOwn hu)
  clear hu HD
  go_wp2_with fail
  refine (HR.out _ b1).mono ?_; rintro r w2 ⟨⟨y, rfl, hy⟩, b2⟩
  have U2 := Lib.hid (Bkr.ofOwn hy)
  have U1 := Lib.hid (U1.out.below b2 (Nat.le_refl _))
  have b2 := b1.trans (b2.mono b1.size)
  clear hy HR b1
  go_wp2_with fail
  refine (HC.out _ b2).mono ?_; rintro r w3 ⟨rfl, b3⟩
  have U1 := Lib.hid (U1.out.below b3 (Nat.le_refl _))
  have U2 := Lib.hid (U2.out.below b3 (Nat.le_refl _))
  have b3 := b2.trans (b3.mono b2.size)
  clear b2 HC
  go_wp2_with fail
  refine (HQ.out _ b3).mono ?_; rintro r w4 ⟨rfl, b4⟩
  have U1 := Lib.hid (U1.out.below b4 (Nat.le_refl _))
  have U2 := Lib.hid (U2.out.below b4 (Nat.le_refl _))
  have b4 := b3.trans (b4.mono b3.size)
  clear b3 HQ
  go_wp2_with fail
  refine (equalB_same _ _ _ _ U1.out U2.out).mono ?_; rintro r w5 ⟨rfl, q, rfl⟩
  have b5 := below_drewN b4 q
  go_wp2_with fail
  refine (awake7_any _).mono ?_; rintro r w6 ⟨rfl, b6⟩
  go_wp2_with fail
  go_ret
  exact ⟨rfl, b5.trans (b6.mono b5.size)⟩

end Go.Proofs.Ytiphipgheadakaa
