/- Resume (program): its closure, and check.Each at numbers. -/
import Derived.Test.YtiphipgheadakaaStit
import Derived.Test.YtiphipgheadakaaIntSet
import Derived.Test.YtiphipgheadakaaChkB0
namespace Go.Proofs.Ytiphipgheadakaa
set_option linter.unusedVariables false
set_option linter.unusedSimpArgs false
open Go.RowKit

theorem snE_bad {ps : List Prt} {s : Int} (h : inB s 0 ((ps.length : Int) - 1) = false) : snE ps s = 1 := by unfold snE; rw [if_neg (by rw [h]; exact Bool.false_ne_true)]
theorem snE_in {ps : List Prt} {s : Int} (h : inB s 0 ((ps.length : Int) - 1) = true) : snE ps s = fIf (!isAd (ps.getD s.toNat prt0)) 6 := by unfold snE; rw [if_pos h]
set_option maxRecDepth 100000 in
set_option maxHeartbeats 8000000 in
theorem res1_any (i s : Int) (n cap : Nat) (a : Option Addr) (ps : List Prt) (LB SB MB m : Nat) (f : Int → Bool) (w : World) (hS : ∀ W, BelowX w.heap.size MB w W → Prts W (.slice a n cap) ps) (hn : ps.length = n) (hn5 : n ≤ 1000) (hL : w.cell? ⟨LB, 0, none⟩ = some (.slice a n cap)) (hLl : LB < w.heap.size) (hLM : LB ≠ MB) (hSc : w.cell? ⟨SB, 0, none⟩ = some (.map (some MB))) (hSl : SB < w.heap.size) (hM : Sn w MB m f) (hm : m < maxLen) (hw : (Lit.int .i64 s).wf = true) :
    Calls Try.prog 54 #[.int .i64 i, .int .i64 s, .pointer (some ⟨LB, 0, none⟩), .pointer (some ⟨SB, 0, none⟩)] w fun r w' => r = .returned (.int .i64 (snE ps s)) ∧ (snE ps s = 0 → Sn w' MB (m + 1) (fun y => y == s || f y)) ∧ BelowX w.heap.size MB w w' := by
  have HB : Hid (∀ W, Calls Try.prog 47 #[.int .i64 s, .int .i64 0, .int .i64 ((n : Int) - 1)] W fun e w' => e = .returned (.bool (inB s 0 ((n : Int) - 1))) ∧ W = w') := Lib.hid (fun W => bwithin_any _ _ _ W)
  have b0 : BelowX w.heap.size MB w w := BelowX.refl _ _ _
  have wN : IntKind.i64.wrap ((n : Int) - 1) = (n : Int) - 1 := IntWalk.i64_in _ ⟨by omega, by omega⟩
  cases hI : inB s 0 ((n : Int) - 1)
  · have e1 : snE ps s = 1 := snE_bad (by rw [hn]; exact hI)
    rw [e1]
    rw [hI] at HB
    have hc : ((1 : Int) = 0 → Sn w MB (m + 1) (fun y => y == s || f y)) := fun h => by cases h
    clear hI hS hn hM e1
    go_enter Try.func54, Try.ntmps54
    go_wp2_with fail
    refine (HB.out _).mono ?_; rintro e w' ⟨rfl, rfl⟩
    go_wp2_with fail
    go_ret
    exact ⟨rfl, by first | exact hc | trivial | simp, b0⟩
  · have e1 : snE ps s = fIf (!isAd (ps.getD s.toNat prt0)) 6 := snE_in (by rw [hn]; exact hI)
    rw [e1]
    rw [hI] at HB
    obtain ⟨hs0, hs1⟩ := inB_iff.1 hI
    obtain ⟨k, rfl⟩ : ∃ k : Nat, s = (k : Int) := ⟨s.toNat, (Int.toNat_of_nonneg hs0).symm⟩
    rw [Int.toNat_natCast]
    have hkn : k < n := by omega
    have HS := Lib.hid hS; have HN := Lib.hid hn; have HW := Lib.hid hw
    obtain ⟨x, hx⟩ : ∃ x, ps.getD k prt0 = x := ⟨_, rfl⟩
    have HXK := Lib.hid hx
    rw [hx]
    have HIP : Hid (∀ W, Calls Try.prog 48 #[.agg #[.string x.ad, .int .i64 x.fr, .int .i64 x.ln]] W fun e w' => e = .returned (.bool (!isAd x)) ∧ Below W.heap.size W w') := Lib.hid (fun W => isProg_any x.ad x.fr x.ln W)
    obtain ⟨B, hB⟩ : ∃ B, (!isAd x) = B := ⟨_, rfl⟩
    rw [hB] at HIP ⊢
    obtain ⟨R, hR⟩ : ∃ R, fIf B 6 = R := ⟨_, rfl⟩
    rw [hR]
    have HR := Lib.hid hR
    have k0 : (0 : Int) ≤ (k : Int) := by omega
    have kI : (k : Int) < (n : Int) := by omega
    clear hI hS hn hx e1 hs0 hs1 hw hB hR
    go_enter Try.func54, Try.ntmps54
    go_wp2_with fail
    refine (HB.out _).mono ?_; rintro e w' ⟨rfl, rfl⟩
    go_wp2_with (at_mapUpdate; refine wpList_set rfl _ _ _ rfl MB m f rfl hM hm (k : Int) rfl rfl HW.out ?_; intro w4 hM4 hg4; have b4 := b0.grown hg4 (Nat.le_refl _); have l4 := (b4.cell (p := ⟨LB, 0, none⟩) hLl hLM).trans hL; have ll := Nat.lt_of_lt_of_le hLl b4.size; have hSW := HS.out w4 b4; obtain ⟨b, off, cap', hv, hlt, -, -⟩ := hSW.spot (by rw [HN.out]; omega); simp only [Value.slice.injEq] at hv; obtain ⟨rfl, -, rfl⟩ := hv; obtain ⟨c0, c1, c2⟩ := hSW.cells k (by rw [HN.out]; exact hkn); rw [HXK.out] at c0 c1 c2; clear hSW hg4 hM hL hSc b0)
    refine (HIP.out _).mono ?_; rintro e w5 ⟨rfl, b5⟩
    have hM5 := hM4.below b5 (by have := hM4.lt; exact this)
    have b6 := b4.trans (BelowX.of (b5.mono b4.size))
    go_wp2_with fail
    refine (bfaultIf_any _ _ _).mono ?_; rintro e w' ⟨rfl, rfl⟩
    rw [HR.out]
    go_wp2_with fail
    go_ret
    exact ⟨rfl, fun _ => hM5, b6⟩
theorem snF_skip {ps : List Prt} {ss : List Int} {k : Nat} (hk : k ≤ ss.length) (h : ∀ i, i < k → snE ps (ss.getD i 0) = 0) : snF ps ss = fstF ((ss.map (snE ps)).drop k) := by
  unfold snF
  induction k with
  | zero => rw [List.drop_zero]
  | succ k ih =>
    rw [ih (by omega) (fun i hi => h i (by omega)), fstF_drop _ _ (by simp; omega)]
    have e : (ss.map (snE ps)).getD k 0 = snE ps (ss.getD k 0) := by simp [List.getD_eq_getElem?_getD, show k < ss.length by omega]
    rw [e, if_pos (h k (by omega))]
theorem snF_at {ps : List Prt} {ss : List Int} {k : Nat} (hk : k < ss.length) (h : ∀ i, i < k → snE ps (ss.getD i 0) = 0) (hz : snE ps (ss.getD k 0) ≠ 0) : snF ps ss = snE ps (ss.getD k 0) := by
  rw [snF_skip (by omega) h, fstF_drop _ _ (by simpa using hk)]
  have e : (ss.map (snE ps)).getD k 0 = snE ps (ss.getD k 0) := by simp [List.getD_eq_getElem?_getD, hk]
  rw [e, if_neg hz]
theorem snF_good {ps : List Prt} {ss : List Int} (h : ∀ i, i < ss.length → snE ps (ss.getD i 0) = 0) : snF ps ss = 0 := by
  rw [snF_skip (Nat.le_refl _) h, List.drop_of_length_le (by simp)]; rfl
/-- Whether one of the first k numbers is y. -/
def hasTo (ss : List Int) (k : Nat) (y : Int) : Bool := (List.range k).any fun j => ss.getD j 0 == y
theorem hasTo_succ (ss : List Int) (k : Nat) : (fun y => y == ss.getD k 0 || hasTo ss k y) = hasTo ss (k + 1) := by
  funext y
  unfold hasTo
  rw [List.range_succ, List.any_append]
  simp only [List.any_cons, List.any_nil, Bool.or_false]
  rw [Bool.or_comm]
  congr 1
  rw [Bool.eq_iff_iff, beq_iff_eq, beq_iff_eq]; exact eq_comm
theorem hasTo_all (ss : List Int) (y : Int) : hasTo ss ss.length y = ss.any (fun s => s == y) := by
  unfold hasTo
  rw [Bool.eq_iff_iff, List.any_eq_true, List.any_eq_true]
  constructor
  · rintro ⟨j, hj, h⟩
    have hj := List.mem_range.1 hj
    refine ⟨ss[j], List.getElem_mem hj, ?_⟩
    rwa [List.getD_eq_getElem?_getD, List.getElem?_eq_getElem hj] at h
  · rintro ⟨s, hs, h⟩
    obtain ⟨j, hj, rfl⟩ := List.mem_iff_getElem.1 hs
    refine ⟨j, List.mem_range.2 hj, ?_⟩
    rw [List.getD_eq_getElem?_getD, List.getElem?_eq_getElem hj]
    exact h
set_option maxRecDepth 100000 in
set_option maxHeartbeats 16000000 in
theorem eachs_walk (sv : Value) (ss : List Int) (a : Option Addr) (n cap : Nat) (ps : List Prt) (LB SB MB : Nat) (w : World) (hV : NumsC w sv ss) (hVM : ss ≠ [] → ∀ g o l c, sv = .slice (some ⟨g, o, none⟩) l c → g ≠ MB) (hwf : ∀ j, j < ss.length → (Lit.int .i64 (ss.getD j 0)).wf = true) (hS : ∀ W, BelowX w.heap.size MB w W → Prts W (.slice a n cap) ps) (hn : ps.length = n) (hn5 : n ≤ 1000)
    (hL : w.cell? ⟨LB, 0, none⟩ = some (.slice a n cap)) (hLl : LB < w.heap.size) (hLM : LB ≠ MB) (hSc : w.cell? ⟨SB, 0, none⟩ = some (.map (some MB))) (hSl : SB < w.heap.size) (hSM : SB ≠ MB) (hM : Sn w MB 0 (fun _ => false)) :
    Calls Try.prog 53 #[sv, .func (.func 54) #[] #[.pointer (some ⟨LB, 0, none⟩), .pointer (some ⟨SB, 0, none⟩)]] w fun r w' => r = .returned (.int .i64 (snF ps ss)) ∧ (snF ps ss = 0 → Sn w' MB ss.length (hasTo ss ss.length)) ∧ BelowX w.heap.size MB w w' := by
  obtain ⟨va, vc, rfl, hmx⟩ := hV.parts
  have HCL : Hid (∀ W k, k < ss.length → BelowX w.heap.size MB w W → ∃ g o, va = some ⟨g, o, none⟩ ∧ W.cell? ⟨g, o + k, none⟩ = some (.int .i64 (ss.getD k 0))) := Lib.hid (fun W k hk hb => by
    rcases hV with ⟨_, _, _, hz⟩ | ⟨g, o, c, hv, -, hg, -, -, hc⟩
    · rw [hz] at hk; simp at hk
    · have hne := hVM (by rintro rfl; simp at hk) _ _ _ _ hv
      simp only [Value.slice.injEq] at hv
      exact ⟨g, o, hv.1, by rw [hb.cell (p := ⟨g, o + k, none⟩) hg hne]; exact hc k hk⟩)
  have HC : Hid (∀ k W, k < ss.length → BelowX w.heap.size MB w W → Sn W MB k (hasTo ss k) → Calls Try.prog 54 #[.int .i64 k, .int .i64 (ss.getD k 0), .pointer (some ⟨LB, 0, none⟩), .pointer (some ⟨SB, 0, none⟩)] W fun r w' => r = .returned (.int .i64 (snE ps (ss.getD k 0))) ∧ (snE ps (ss.getD k 0) = 0 → Sn w' MB (k + 1) (hasTo ss (k + 1))) ∧ BelowX W.heap.size MB W w') := Lib.hid (fun k W hk hb hs => by
    have := res1_any k (ss.getD k 0) n cap a ps LB SB MB k (hasTo ss k) W (fun W' hb' => hS W' (hb.trans (hb'.mono hb.size))) hn hn5 ((hb.cell (p := ⟨LB, 0, none⟩) hLl hLM).trans hL) (Nat.lt_of_lt_of_le hLl hb.size) hLM ((hb.cell (p := ⟨SB, 0, none⟩) hSl hSM).trans hSc) (Nat.lt_of_lt_of_le hSl hb.size) hs (by omega) (hwf k hk)
    rw [hasTo_succ] at this
    exact this)
  obtain ⟨R, hR⟩ : ∃ R, snF ps ss = R := ⟨_, rfl⟩
  have HA : Hid (∀ k, k < ss.length → (∀ i, i < k → snE ps (ss.getD i 0) = 0) → snE ps (ss.getD k 0) ≠ 0 → R = snE ps (ss.getD k 0)) := Lib.hid (fun k hk h hz => by rw [← hR]; exact snF_at hk h hz)
  have HG : Hid ((∀ i, i < ss.length → snE ps (ss.getD i 0) = 0) → R = 0) := Lib.hid (fun h => by rw [← hR]; exact snF_good h)
  rw [hR]
  have hM : Sn w MB 0 (hasTo ss 0) := hM
  have b0 : BelowX w.heap.size MB w w := BelowX.refl _ _ _
  obtain ⟨l, hl⟩ : ∃ l, ss.length = l := ⟨_, rfl⟩
  rw [hl] at HCL HC HA HG hmx ⊢
  unfold maxLen at hmx
  clear hR hV hVM hwf hS hn hL hLl hLM hSc hSl hSM hl
  go_enter Try.func53, Try.ntmps53
  go_wp2_with fail
  go_loopw [10] (fun v wr => ∃ k : Nat, k ≤ l ∧ v = .int .i64 (k : Int) ∧ Sn wr MB k (hasTo ss k) ∧ BelowX w.heap.size MB w wr ∧ Hid (∀ i, i < k → snE ps (ss.getD i 0) = 0)) (fun v _ => l - (intOf v).toNat)
  case atStart => exact ⟨0, Nat.zero_le _, rfl, hM, b0, Lib.hid (fun i hi => by omega)⟩
  case round =>
    clear hM b0
    obtain ⟨k, hk, rfl, hM, hbr, HK⟩ := hrel
    by_cases hk2 : k < l
    rotate_left
    · have hkn : k = l := by omega
      have e1 : R = 0 := HG.out (fun i hi => HK.out i (by omega))
      have kD : decide ((k : Int) < (l : Int)) = false := by simp; omega
      have kD2 : decide (k < l) = false := by simp; omega
      subst e1
      rw [hkn] at hM
      have hfin : ((0 : Int) = 0 → Sn wr MB l (hasTo ss l)) := fun _ => hM
      clear hkn
      go_wp2_with fail
      go_ret
      exact ⟨rfl, by first | exact hfin | exact hM, hbr⟩
    · obtain ⟨g, o, hva, c0⟩ := HCL.out wr k hk2 hbr
      subst hva
      have HCK := Lib.hid (HC.out k wr hk2 hbr hM)
      have HAK := Lib.hid (HA.out k hk2 HK.out)
      have HNX : Hid (snE ps (ss.getD k 0) = 0 → ∀ i, i < k + 1 → snE ps (ss.getD i 0) = 0) := Lib.hid (fun h i hi => by
        by_cases e : i = k
        · subst e; exact h
        · exact HK.out i (by omega))
      obtain ⟨s, hs⟩ : ∃ s, ss.getD k 0 = s := ⟨_, rfl⟩
      rw [hs] at c0 HCK HAK HNX
      obtain ⟨z, hz⟩ : ∃ z, snE ps s = z := ⟨_, rfl⟩
      rw [hz] at HCK HAK HNX
      have kI : (k : Int) < (l : Int) := by omega
      have hwI : IntKind.i64.wrap ((k : Int) + 1) = (k : Int) + 1 := IntWalk.i64_in _ ⟨by omega, by omega⟩
      clear hs hz HK hM
      go_wp2_with fail
      refine HCK.out.mono ?_; rintro e w5 ⟨rfl, hM5, b5⟩
      have HM5 := Lib.hid hM5
      have hbn := hbr.trans (b5.mono hbr.size)
      clear c0 HCK hbr b5 hM5
      by_cases h0 : z = 0
      · have HN2 := Lib.hid (HNX.out h0)
        have hM5 := HM5.out h0
        subst h0
        go_wp2_with fail
        go_roundw
        case rel => exact ⟨k + 1, by omega, by go_num, hM5, hbn, HN2⟩
        case measure => simp [intOf]; omega
      · have q0 : (z == 0) = false := by simp; exact h0
        have q1 : (z != 0) = true := by simp; exact h0
        have e1 := HAK.out h0
        have hfin : (z = 0 → Sn w5 MB l (hasTo ss l)) := fun h => absurd h h0
        subst e1
        clear HAK HNX HM5
        go_wp2_with fail
        go_ret
        exact ⟨rfl, by first | exact hfin | (intro h; exact absurd h h0), hbn⟩

end Go.Proofs.Ytiphipgheadakaa
