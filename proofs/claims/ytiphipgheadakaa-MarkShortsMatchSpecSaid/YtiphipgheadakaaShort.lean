/- Shortened (program), and the law's. -/
import Derived.Test.YtiphipgheadakaaEqB
import Derived.Test.YtiphipgheadakaaDue
import Derived.Test.YtiphipgheadakaaSum
namespace Go.Proofs.Ytiphipgheadakaa
set_option linter.unusedVariables false
set_option linter.unusedSimpArgs false
open Go.RowKit

theorem endOf_any (x : Bk) (e : Int) (w : World) :
    Calls Try.prog 43 #[.agg #[.int .i64 x.ev, .int .i64 x.be, .int .i64 x.en], .int .i64 e] w fun r w' => r = .returned (.int .i64 (cutB e x).en) ∧ Below w.heap.size w w' := by
  have FX := BBox.new w x 35
  have b1 : Below w.heap.size w (w.alloc (.cells #[.int .i64 x.ev, .int .i64 x.be, .int .i64 x.en] 35)) := (Below.refl _ w).alloc (Nat.le_refl _) _
  have HR : Hid ((cutB e x).en = if x.en = -1 then e else min x.en e) := Lib.hid rfl
  obtain ⟨R, hR⟩ : ∃ R, (cutB e x).en = R := ⟨_, rfl⟩
  rw [hR] at HR ⊢
  clear hR
  by_cases h : x.en = -1
  · have hq : (x.en == -1) = true := by simp; exact h
    have e1 : R = e := by rw [HR.out, if_pos h]
    subst e1
    clear h HR
    go_enter Try.func43, Try.ntmps43
    go_upto_region 1 with fail
    generalize w.alloc (.cells #[.int .i64 x.ev, .int .i64 x.be, .int .i64 x.en] 35) = W at *
    have k2 := FX.c2; have kl := FX.lt
    clear FX
    go_wp2_with fail
    go_ret
    exact ⟨rfl, b1⟩
  · have hq : (x.en == -1) = false := by simp; exact h
    have HR2 : Hid (R = min x.en e) := Lib.hid (by rw [HR.out, if_neg h])
    clear h HR
    go_enter Try.func43, Try.ntmps43
    go_upto_region 1 with fail
    generalize w.alloc (.cells #[.int .i64 x.ev, .int .i64 x.be, .int .i64 x.en] 35) = W at *
    have k2 := FX.c2; have kl := FX.lt
    clear FX
    go_wp2_with fail
    all_goals
      go_ret
      exact ⟨bret_int (by rw [HR2.out]; first | done | omega), b1⟩
theorem sh_sum (F0 : Int) (T1 : Bool) (bs : List Bk) (e : Int) (h0 : bkF bs = F0) (h1 : inB e 0 1000000000000000 = T1) : fstF [F0, fIf (!T1) 1] = shF bs e := by
  unfold shF
  rw [h0, h1]
  by_cases h : F0 = 0
  · subst h; cases T1 <;> rfl
  · rw [fstF, if_neg h, if_neg h]
theorem shF_zero {bs : List Bk} {e : Int} (h : shF bs e = 0) : bkF bs = 0 ∧ 0 ≤ e ∧ e ≤ 1000000000000000 := by
  unfold shF at h
  split at h
  · rename_i h1
    rw [fIf_zero (by decide)] at h
    simp only [Bool.not_eq_false', inB_iff] at h
    exact ⟨h1, h⟩
  · contradiction
theorem bk_len {bs : List Bk} (h : bkF bs = 0) : bs.length ≤ 200 := by
  unfold bkF at h
  split at h
  · omega
  · omega
theorem own_set {w : World} {base : Nat} {e : TypeId} {size : Nat} {v : Value} {n : Nat} {xs : List Value} (h : w.ownsRow base e size v n xs) {p : Addr} (hp : v.ownBlock ≠ some p.block) (u : Value) : (w.setCell p u).ownsRow base e size v n xs :=
  h.kept (row := some p.block) ⟨rfl, rfl, rfl, by simp [World.setCell], fun k _ hk => Below.heap_setCell _ _ _ _ (fun e => hk (by rw [e]))⟩ (.inr hp)
theorem shortened_bad (v : Value) (bs : List Bk) (e : Int) (w : World) (hS : Bks w v bs) (hwf : ∀ y ∈ bs, bkWf y) (h0 : shF bs e ≠ 0) :
    Calls Try.prog 15 #[v, .int .i64 e] w fun r w' => (∃ u, r = .returned (.tuple #[u, .int .i64 (shF bs e)]) ∧ w'.ownsRow w.heap.size 35 3 u 0 (bcells [])) ∧ Below w.heap.size w w' := by
  have HCP := Lib.hid (CheckBreaks_any v bs w hS hwf)
  obtain ⟨F0, hF0⟩ : ∃ F0, bkF bs = F0 := ⟨_, rfl⟩
  obtain ⟨T1, hT1⟩ : ∃ T1, inB e 0 1000000000000000 = T1 := ⟨_, rfl⟩
  have HSM := Lib.hid (sh_sum F0 T1 bs e hF0 hT1)
  have HT1 : Hid (∀ W, Calls Try.prog 42 #[.int .i64 e] W fun e w' => e = .returned (.bool T1) ∧ W = w') := Lib.hid (fun W => by rw [← hT1]; exact tickP_any e W)
  obtain ⟨R, hR⟩ : ∃ R, shF bs e = R := ⟨_, rfl⟩
  rw [hR] at h0 HSM ⊢
  rw [hF0] at HCP
  have r0 : (R == 0) = false := by simp; exact h0
  have r1 : (R != 0) = true := by simp; exact h0
  clear hF0 hT1 hR hS hwf h0
  go_enter Try.func15, Try.ntmps15
  go_wp2_with fail
  refine HCP.out.mono ?_; rintro e w1 ⟨rfl, b1⟩
  go_wp2_with fail
  refine (HT1.out _).mono ?_; rintro e w' ⟨rfl, rfl⟩
  go_wp2_with fail
  refine (bfaultIf_any _ _ _).mono ?_; rintro e w' ⟨rfl, rfl⟩
  go_wp2_with fail
  refine (lfirst2 _ _ _).mono ?_; rintro e w' ⟨rfl, rfl⟩
  rw [HSM.out]
  have b1 := b1.alloc (o := .cells #[.int .i64 F0, .int .i64 (fIf (!T1) 1)] 29) b1.size
  go_wp2_with fail
  go_ret2
  exact ⟨⟨_, rfl, World.ownsRow_nil _ _ _ _⟩, b1⟩
set_option maxRecDepth 100000 in
set_option maxHeartbeats 16000000 in
theorem shortened_good (v : Value) (bs : List Bk) (e : Int) (w : World) (hS : Bks w v bs) (hwf : ∀ y ∈ bs, bkWf y) (h0 : shF bs e = 0) :
    Calls Try.prog 15 #[v, .int .i64 e] w fun r w' => (∃ u, r = .returned (.tuple #[u, .int .i64 0]) ∧ w'.ownsRow w.heap.size 35 3 u (shTo bs e bs.length).length (bcells (shTo bs e bs.length))) ∧ Below w.heap.size w w' := by
  obtain ⟨i0, hi, hi0, hi1, hi2⟩ := info_parts Try.infoBk
  obtain ⟨hp0, he0, he1⟩ := shF_zero h0
  have hn5 := bk_len hp0
  obtain ⟨sa, cap, rfl⟩ := hS.parts
  obtain ⟨n, hn⟩ : ∃ n, bs.length = n := ⟨_, rfl⟩
  have HCP : Hid (∀ W, Below w.heap.size w W → Calls Try.prog 17 #[.slice sa n cap] W fun e w' => e = .returned (.int .i64 0) ∧ Below W.heap.size W w') := Lib.hid (fun W hb => by rw [← hp0, ← hn]; exact CheckBreaks_any _ bs W (hS.below hb (Nat.le_refl _)) hwf)
  have HT1 : Hid (∀ W, Calls Try.prog 42 #[.int .i64 e] W fun e w' => e = .returned (.bool true) ∧ W = w') := Lib.hid (fun W => by have := tickP_any e W; rw [inB_yes he0 he1] at this; exact this)
  have HS : Hid (∀ W, Below w.heap.size w W → Bks W (.slice sa n cap) bs) := Lib.hid (fun W hb => by rw [← hn]; exact hS.below hb (Nat.le_refl _))
  have HN := Lib.hid hn
  rw [hn] at hn5 ⊢
  have b0 : Below w.heap.size w w := Below.refl _ w
  clear hS hn hwf h0 hp0
  go_enter Try.func15, Try.ntmps15
  go_wp2_with fail
  refine (HCP.out _ b0).mono ?_; rintro r w1 ⟨rfl, b1⟩
  go_wp2_with fail
  refine (HT1.out _).mono ?_; rintro r w' ⟨rfl, rfl⟩
  go_wp2_with fail
  refine (bfaultIf_any _ _ _).mono ?_; rintro r w' ⟨rfl, rfl⟩
  go_wp2_with fail
  refine (lfirst2 _ _ _).mono ?_; rintro r w' ⟨rfl, rfl⟩
  have b1 := b1.alloc (o := .cells #[.int .i64 0, .int .i64 (fIf false 1)] 29) b1.size
  have e1 : fstF [0, fIf false 1] = 0 := rfl
  rw [e1]
  generalize w1.alloc (.cells #[.int .i64 0, .int .i64 (fIf false 1)] 29) = w3 at *
  clear b0 HCP HT1 e1
  obtain ⟨Z, hZ⟩ : ∃ Z, w3.heap.size = Z := ⟨_, rfl⟩
  have hZw : w.heap.size ≤ Z := by have := b1.size; omega
  have HBW : Hid (∀ wr, Below Z w3 wr → Below w.heap.size w wr) := Lib.hid (fun wr hb => b1.trans (hb.mono hZw))
  have HSZ : Hid (∀ wr, Below Z w3 wr → Z ≤ wr.heap.size) := Lib.hid (fun wr hb => by have := hb.size; omega)
  have hb3 : Below Z w3 w3 := Below.refl _ _
  clear hZ b1
  go_wp2_with fail
  go_loopw [7, 23] (fun v9 v36 wr => ∃ k : Nat, k ≤ n ∧ v36 = .int .i64 (k : Int) ∧ wr.ownsRow Z 35 3 v9 (shTo bs e k).length (bcells (shTo bs e k)) ∧ Below Z w3 wr) (fun _ v36 _ => n - (intOf v36).toNat)
  case atStart => exact ⟨0, Nat.zero_le _, rfl, World.ownsRow_nil _ _ _ _, hb3⟩
  case round =>
    clear hb3
    obtain ⟨k, hk, rfl, hown, hbr⟩ := hrel
    by_cases hk2 : k < n
    rotate_left
    · have hkn : k = n := by omega
      have kD : decide ((k : Int) < (n : Int)) = false := by simp; omega
      have kD2 : decide (k < n) = false := by simp; omega
      rw [hkn] at hown
      have hfin := own_base hown hZw
      clear hkn hown
      go_wp2_with fail
      go_ret2
      exact ⟨⟨_, rfl, hfin⟩, HBW.out _ hbr⟩
    · have hSW := HS.out _ (HBW.out _ hbr)
      obtain ⟨bb, off, cap', hv, hlt, -, -⟩ := hSW.spot (by rw [HN.out]; omega)
      simp only [Value.slice.injEq] at hv
      obtain ⟨rfl, -, rfl⟩ := hv
      obtain ⟨c0, c1, c2⟩ := hSW.cells k (by rw [HN.out]; exact hk2)
      have hzr := HSZ.out _ hbr
      have HSK : Hid (shTo bs e (k + 1) = if (bs.getD k bk0).be < e then shTo bs e k ++ [cutB e (bs.getD k bk0)] else shTo bs e k) := Lib.hid rfl
      obtain ⟨x, hx⟩ : ∃ x, bs.getD k bk0 = x := ⟨_, rfl⟩
      rw [hx] at c0 c1 c2 HSK
      have hL5 := shTo_len bs e k
      have kI : (k : Int) < (n : Int) := by omega
      have hwI : IntKind.i64.wrap ((k : Int) + 1) = (k : Int) + 1 := IntWalk.i64_in _ ⟨by omega, by omega⟩
      obtain ⟨va, vc, rfl⟩ := iown7_form hown
      have PX := BBox.new wr x 35
      have hne9 : (Value.slice va (shTo bs e k).length vc).ownBlock ≠ some wr.heap.size := fun h => by have := (hown.lt _ h).2; omega
      have hown := hown.alloc (.cells #[.int .i64 x.ev, .int .i64 x.be, .int .i64 x.en] 35)
      have hbr := hbr.alloc (o := .cells #[.int .i64 x.ev, .int .i64 x.be, .int .i64 x.en] 35) hzr
      have fz : (wr.alloc (.cells #[.int .i64 x.ev, .int .i64 x.be, .int .i64 x.en] 35)).frozen? ⟨wr.heap.size, 2, none⟩ = false := World.frozen?_alloc_at _ _ _ _ rfl
      have hZ9 : Z ≤ wr.heap.size := hzr
      have hsz9 : Z ≤ (wr.alloc (.cells #[.int .i64 x.ev, .int .i64 x.be, .int .i64 x.en] 35)).heap.size := Nat.le_trans hzr (by simp)
      clear hx hSW hzr
      go_upto_region 8 with fail
      generalize wr.alloc (.cells #[.int .i64 x.ev, .int .i64 x.be, .int .i64 x.en] 35) = W9 at *
      generalize wr.heap.size = X9 at *
      clear c0 c1 c2
      have y0 := PX.c0; have y1 := PX.c1; have y2 := PX.c2; have yl := PX.lt
      by_cases hbe : x.be < e
      rotate_left
      · have hq : decide (x.be < e) = false := decide_eq_false hbe
        have HS2 : Hid (shTo bs e (k + 1) = shTo bs e k) := Lib.hid (by rw [HSK.out, if_neg hbe])
        clear hbe
        go_wp2_with fail
        go_roundw
        case rel => exact ⟨k + 1, by omega, by go_num, by rw [HS2.out]; exact hown, hbr⟩
        case measure => simp [intOf]; omega
      · have HS2 : Hid (shTo bs e (k + 1) = shTo bs e k ++ [cutB e x]) := Lib.hid (by rw [HSK.out, if_pos hbe])
        go_wp2_with fail
        refine (endOf_any x e _).mono ?_; rintro r w5 ⟨rfl, b5⟩
        have hown := ownsRow_kept hown b5 (Nat.le_refl _)
        have fz : w5.frozen? ⟨X9, 2, none⟩ = false := by rw [b5.frozen (p := ⟨X9, 2, none⟩) yl]; exact fz
        have hbr := hbr.trans (b5.mono hsz9)
        have PX := PX.below b5 PX.lt
        obtain ⟨e2, he2⟩ : ∃ e2, (cutB e x).en = e2 := ⟨_, rfl⟩
        have HCB : Hid (cutB e x = ⟨x.ev, x.be, e2⟩) := Lib.hid (by rw [← he2]; rfl)
        rw [he2]
        rw [HCB.out] at HS2
        clear y0 y1 y2 yl b5 he2 hbe
        have y2 := PX.c2; have yl := PX.lt
        go_upto_region 10 with fail
        have PX2 : BBox (w5.setCell ⟨X9, 2, none⟩ (.int .i64 e2)) X9 ⟨x.ev, x.be, e2⟩ := ⟨by simpa using PX.lt, by rw [World.cell?_setCell_other (h := by simp)]; exact PX.c0, by rw [World.cell?_setCell_other (h := by simp)]; exact PX.c1, World.cell?_setCell_same _ _ _ PX.c2⟩
        have hown := own_set hown (p := ⟨X9, 2, none⟩) hne9 (.int .i64 e2)
        have hbr := hbr.setCell (p := ⟨X9, 2, none⟩) hZ9 (.int .i64 e2)
        clear PX y2 yl fz
        generalize w5.setCell ⟨X9, 2, none⟩ (.int .i64 e2) = W6 at *
        have y0 := PX2.c0; have y1 := PX2.c1; have y2 := PX2.c2; have yl := PX2.lt
        go_wp2_with (at_builtin; refine wpList_append_own _ rfl _ _ 28 rfl Z 35 i0 (.agg #[.int .i64 0, .int .i64 0, .int .i64 0]) 3 24 Try.underlying28 hi hi0 hi1 hi2 rfl (by decide) _ _ _ rfl (hown.alloc _) ⟨W6.heap.size, 0, none⟩ 1 1 [.int .i64 x.ev, .int .i64 x.be, .int .i64 e2] rfl rfl (by have := World.news_of_block (cs := #[.int .i64 x.ev, .int .i64 x.be, .int .i64 e2]) (t := 35) (fr := (0, 0)) (heap_alloc_new W6 (.cells #[.int .i64 x.ev, .int .i64 x.be, .int .i64 e2] 35)); simpa using this) ?b2 ?b3 ?b4 ?b5 ?_)
        case b2 => simp [Value.oneCell']
        case b3 => unfold maxLen; omega
        case b4 => omega
        case b5 => have := HSZ.out _ hbr; first | omega | (simp; omega)
        intro v' w6 hown1 hgrow _
        have hs6 := HSZ.out _ hbr
        have hb6 : Below Z w3 w6 := (hbr.alloc hs6 _).grown hgrow (by simp; omega) (fun q hq => (hown.lt q hq).1)
        have hown6 : w6.ownsRow Z 35 3 v' (shTo bs e (k + 1)).length (bcells (shTo bs e (k + 1))) := by rw [HS2.out, List.length_append, bcells_snoc]; exact hown1
        clear hown1 hgrow hown
        go_wp2_with fail
        go_roundw
        case rel => exact ⟨k + 1, by omega, by go_num, hown6, hb6⟩
        case measure => simp [intOf]; omega
theorem Shortened_any (v : Value) (bs : List Bk) (e : Int) (w : World) (hS : Bks w v bs) (hwf : ∀ y ∈ bs, bkWf y) :
    Calls Try.prog 15 #[v, .int .i64 e] w fun r w' => (∃ u, r = .returned (.tuple #[u, .int .i64 (shF bs e)]) ∧ w'.ownsRow w.heap.size 35 3 u (shL bs e).length (bcells (shL bs e))) ∧ Below w.heap.size w w' := by
  by_cases h0 : shF bs e = 0
  · have e1 : shL bs e = shTo bs e bs.length := if_pos h0
    rw [e1, h0]
    exact shortened_good v bs e w hS hwf h0
  · have e1 : shL bs e = [] := if_neg h0
    rw [e1]
    exact shortened_bad v bs e w hS hwf h0

end Go.Proofs.Ytiphipgheadakaa
