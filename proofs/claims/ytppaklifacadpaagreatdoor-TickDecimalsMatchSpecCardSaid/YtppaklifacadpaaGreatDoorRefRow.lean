/- What the reference's ReadDecimal calls: row, TrimPrefix, Minus. -/
import Derived.Test.YtppaklifacadpaaGreatDoorRefDec
namespace Go.Proofs.YtppaklifacadpaaGreatDoor
set_option linter.unusedVariables false
set_option linter.unusedSimpArgs false
open Go.RowKit

set_option maxRecDepth 100000 in
set_option maxHeartbeats 1000000 in
theorem row_any (s : ByteArray) (w : World) (hl : s.size ≤ 1000000) :
    Calls Tryz.prog 31 #[.string s] w fun e w' => e = .returned (.bool (allDig s.data.toList)) ∧ w = w' := by
  obtain ⟨l, hll⟩ : ∃ l, s.data.toList = l := ⟨_, rfl⟩
  have hsz : s.size = l.length := by rw [← hll, Array.length_toList]; rfl
  rw [hll]
  have HL := Lib.hid hll; have HSZ := Lib.hid hsz
  clear hll hsz
  go_enter Tryz.func31, Tryz.ntmps31
  go_wp2_with fail
  go_loopw [3] (fun v wr => ∃ k : Nat, k ≤ s.size ∧ v = .int .i64 k ∧ Hid (∀ j (h : j < l.length), j < k → 48 ≤ l[j].toNat ∧ l[j].toNat ≤ 57) ∧ w = wr) (fun v _ => s.size - (intOf v).toNat)
  case atStart => exact ⟨0, Nat.zero_le _, rfl, Lib.hid (fun j h hj => by omega), rfl⟩
  case round =>
    obtain ⟨k, hk, rfl, HK, rfl⟩ := hrel
    by_cases hlt : k < s.size
    · have hkl : k < l.length := by rw [← HSZ.out]; exact hlt
      have hb := byte_at s l HL.out k hlt hkl
      obtain ⟨c, hc⟩ : ∃ c, s[k].toNat = c := ⟨_, rfl⟩
      have hc256 : c < 256 := by rw [← hc]; exact UInt8.toNat_lt _
      rw [hc] at hb
      have HBB := Lib.hid hb
      clear hb
      by_cases c1 : c < 48
      · have hno : allDig l = false := by
          cases h : allDig l with
          | false => rfl
          | true =>
            have := ((allDig_iff l).1 h).1 l[k] (List.getElem_mem hkl)
            rw [HBB.out] at this; omega
        have HNO := Lib.hid hno
        clear hno
        go_wp2_with fail
        go_ret
        exact ⟨ret_bool HNO.out.symm, rfl⟩
      · have c1' : decide (c < 48) = false := by simp only [decide_eq_false_iff_not]; exact c1
        by_cases c2 : 57 < c
        · have hno : allDig l = false := by
            cases h : allDig l with
            | false => rfl
            | true =>
              have := ((allDig_iff l).1 h).1 l[k] (List.getElem_mem hkl)
              rw [HBB.out] at this; omega
          have HNO := Lib.hid hno
          clear hno
          go_wp2_with fail
          go_ret
          exact ⟨ret_bool HNO.out.symm, rfl⟩
        · have c2' : decide (57 < c) = false := by simp only [decide_eq_false_iff_not]; exact c2
          have hnew : ∀ j (h : j < l.length), j < k + 1 → 48 ≤ l[j].toNat ∧ l[j].toNat ≤ 57 := by
            intro j h hj
            by_cases hjk : j = k
            · subst hjk; rw [HBB.out]; omega
            · exact HK.out j h (by omega)
          have HNEW := Lib.hid hnew
          clear hnew
          go_wp2_with fail
          go_roundw
          case rel => exact ⟨k + 1, by omega, by go_num, HNEW, trivial⟩
          case measure => simp [intOf]; omega
    · have hend : DigB l := by
        intro b hb
        obtain ⟨j, hj, rfl⟩ := List.mem_iff_getElem.1 hb
        exact HK.out j hj (by have := HSZ.out; omega)
      have HEND := Lib.hid hend
      have hlt' : decide (k < s.size) = false := by simp only [decide_eq_false_iff_not]; exact hlt
      clear hend hlt
      go_wp2_with fail
      go_ret
      refine ⟨ret_bool ?_, rfl⟩
      rw [ByteArray.toList_eq, HL.out]
      cases hem : l.isEmpty with
      | true =>
        have : allDig l = false := by unfold allDig; rw [hem]; simp
        rw [this]; rfl
      | false =>
        have : allDig l = true := (allDig_iff l).2 ⟨HEND.out, fun hx => by rw [hx] at hem; simp at hem⟩
        rw [this]; rfl


theorem rdecimal_bad (n s k : Int) (w : World) (h : ¬ (isTimeN n ∧ isScaleN s ∧ 0 ≤ k ∧ k ≤ 9)) :
    Calls Tryz.prog 5 #[.int .i64 n, .int .i64 s, .int .i64 k] w fun e w' => e = .returned (.tuple #[.string ⟨#[]⟩, .int .i64 1]) ∧ w = w' := by
  by_cases ht : isTimeN n
  · have HT := Lib.hid ht
    by_cases hs : isScaleN s
    · have HS := Lib.hid hs
      by_cases k0 : k < 0
      · have d0 : decide (k < 0) = true := by simp only [decide_eq_true_eq]; exact k0
        clear ht hs h k0
        go_enter Tryz.func5, Tryz.ntmps5
        go_wp2_with fail
        refine (rtime_yes _ _ HT.out).mono ?_; rintro e w' ⟨rfl, rfl⟩
        go_wp2_with fail
        refine (rscale_yes _ _ HS.out).mono ?_; rintro e w' ⟨rfl, rfl⟩
        go_wp2_with fail
        go_ret2
        exact ⟨rfl, rfl⟩
      · have d0 : decide (k < 0) = false := by simp only [decide_eq_false_iff_not]; exact k0
        have d1 : decide (9 < k) = true := by
          simp only [decide_eq_true_eq]
          apply Decidable.byContradiction; intro hx
          exact h ⟨ht, hs, by omega, by omega⟩
        clear ht hs h k0
        go_enter Tryz.func5, Tryz.ntmps5
        go_wp2_with fail
        refine (rtime_yes _ _ HT.out).mono ?_; rintro e w' ⟨rfl, rfl⟩
        go_wp2_with fail
        refine (rscale_yes _ _ HS.out).mono ?_; rintro e w' ⟨rfl, rfl⟩
        go_wp2_with fail
        go_ret2
        exact ⟨rfl, rfl⟩
    · have HS := Lib.hid hs
      clear ht hs h
      go_enter Tryz.func5, Tryz.ntmps5
      go_wp2_with fail
      refine (rtime_yes _ _ HT.out).mono ?_; rintro e w' ⟨rfl, rfl⟩
      go_wp2_with fail
      refine (rscale_no _ _ HS.out).mono ?_; rintro e w' ⟨rfl, rfl⟩
      go_wp2_with fail
      go_ret2
      exact ⟨rfl, rfl⟩
  · have HT := Lib.hid ht
    clear ht h
    go_enter Tryz.func5, Tryz.ntmps5
    go_wp2_with fail
    refine (rtime_no _ _ HT.out).mono ?_; rintro e w' ⟨rfl, rfl⟩
    go_wp2_with fail
    go_ret2
    exact ⟨rfl, rfl⟩

set_option maxHeartbeats 400000 in
theorem liteTrim_yes (s : ByteArray) (r : List UInt8) (w : World) (hl : s.data.toList = 45 :: r) (hs : s.size ≤ 9223372036854775807) :
    Calls Tryz.prog 51 #[.string s, .string ⟨#[45]⟩] w fun e w' => (∃ R, e = .returned (.string R) ∧ R.data.toList = r) ∧ w = w' := by
  have hp : Lib.hasPrefix s.data.toList (⟨#[45]⟩ : ByteArray).data.toList = true := by rw [hl]; simp [Lib.hasPrefix]
  have hsz := size_list s _ hl
  simp at hsz
  have h1 : 1 ≤ s.size := by omega
  have hr : (s.extract 1 s.size).data.toList = r := by rw [sub_from s _ hl]; rfl
  have HP := Lib.hid hp; have HR := Lib.hid hr
  clear hp hr hl hsz
  go_enter Tryz.func51, Tryz.ntmps51
  go_wp2_with fail
  refine (Tryz.stringslite_HasPrefix _ _ _).mono ?_; rintro e w' ⟨rfl, rfl⟩
  rw [HP.out]
  go_wp2_with fail
  go_ret
  exact ⟨⟨_, rfl, HR.out⟩, rfl⟩
theorem trim_yes (s : ByteArray) (r : List UInt8) (w : World) (hl : s.data.toList = 45 :: r) (hs : s.size ≤ 9223372036854775807) :
    Calls Tryz.prog 30 #[.string s, .string ⟨#[45]⟩] w fun e w' => (∃ R, e = .returned (.string R) ∧ R.data.toList = r) ∧ w = w' := by
  have HL := Lib.hid hl
  clear hl
  go_enter Tryz.func30, Tryz.ntmps30
  go_wp2_with fail
  refine (liteTrim_yes _ _ _ HL.out hs).mono ?_; rintro e w' ⟨⟨R, rfl, hR⟩, rfl⟩
  have HR := Lib.hid hR
  clear hR
  go_wp2_with fail
  go_ret
  exact ⟨⟨_, rfl, HR.out⟩, rfl⟩
theorem liteTrim_no (s : ByteArray) (w : World) (h : s.data.toList.head? ≠ some 45) :
    Calls Tryz.prog 51 #[.string s, .string ⟨#[45]⟩] w fun e w' => e = .returned (.string s) ∧ w = w' := by
  have hp : Lib.hasPrefix s.data.toList (⟨#[45]⟩ : ByteArray).data.toList = false := hasPrefix_no _ h
  have HP := Lib.hid hp
  clear hp h
  go_enter Tryz.func51, Tryz.ntmps51
  go_wp2_with fail
  refine (Tryz.stringslite_HasPrefix _ _ _).mono ?_; rintro e w' ⟨rfl, rfl⟩
  rw [HP.out]
  go_wp2_with fail
  go_ret
  exact ⟨rfl, rfl⟩
theorem trim_no (s : ByteArray) (w : World) (h : s.data.toList.head? ≠ some 45) :
    Calls Tryz.prog 30 #[.string s, .string ⟨#[45]⟩] w fun e w' => e = .returned (.string s) ∧ w = w' := by
  have HL := Lib.hid h
  clear h
  go_enter Tryz.func30, Tryz.ntmps30
  go_wp2_with fail
  refine (liteTrim_no _ _ HL.out).mono ?_; rintro e w' ⟨rfl, rfl⟩
  go_wp2_with fail
  go_ret
  exact ⟨rfl, rfl⟩

set_option maxHeartbeats 1000000 in
theorem minus_num (v : Value) (p q : Int) (w : World) (L : Nat) (hv : NumR w v p q L) :
    Calls Tryz.prog 35 #[v] w fun e w' => (∃ r, e = .returned r ∧ NumR w' r (-p) q L) ∧ Below w.heap.size w w' := by
  obtain ⟨hq, zs, ys, ⟨t, b, rfl, g1, g2, g3, g4, g5⟩, g6, g7, g8⟩ := hv
  obtain ⟨a1, c1, rfl, -, -⟩ := g1.parts
  obtain ⟨a2, c2, rfl, -, -⟩ := g2.parts
  have hlp : 0 < zs.length ↔ p ≠ 0 := by
    rw [List.length_pos_iff, ← canon_pos zs g3]
    have hb := (lval_bd zs g3.1).1
    constructor
    · intro h hp
      have h3 : lval zs * q = 0 := by rw [g6, hp]; simp
      rcases Int.mul_eq_zero.1 h3 with h1 | h1 <;> omega
    · intro h
      have h2 : 0 < (p.natAbs : Int) * lval ys := Int.mul_pos (by omega) g5
      rw [← g6] at h2
      apply Decidable.byContradiction; intro hx
      have : lval zs = 0 := by omega
      rw [this] at h2; simp at h2
  have hna : ((-p).natAbs : Int) = (p.natAbs : Int) := by omega
  have hfin : ∀ (W : World) (neg : Bool), Below w.heap.size w W → decide (-p < 0) = neg → NumR W (.agg #[.bool neg, .slice a1 zs.length c1, .slice a2 ys.length c2]) (-p) q L := by
    intro W neg hb hn
    exact ⟨hq, zs, ys, ⟨_, _, by rw [hn], g1.below hb (Nat.le_refl _), g2.below hb (Nat.le_refl _), g3, g4, g5⟩, by rw [hna]; exact g6, g7, g8⟩
  have HFIN := Lib.hid hfin
  by_cases hp : p < 0
  · have e1 : decide (p < 0) = true := by simp only [decide_eq_true_eq]; exact hp
    have e2 : decide (-p < 0) = false := by simp only [decide_eq_false_iff_not]; omega
    rw [e1]
    have E2 := Lib.hid e2
    clear e1 e2 hfin hlp hna g1 g2 g3 g4 g5 g6 hp
    go_enter Tryz.func35, Tryz.ntmps35
    go_wp2_with fail
    refine bodyPost_ret (by simp [results, Tryz.results35, go_sem]; try rfl) rfl ?_
    exact ⟨⟨_, rfl, HFIN.out _ _ (((Below.refl _ _).alloc (Nat.le_refl _) _).alloc (by simp) _) E2.out⟩, ((Below.refl _ _).alloc (Nat.le_refl _) _).alloc (by simp) _⟩
  · have e1 : decide (p < 0) = false := by simp only [decide_eq_false_iff_not]; exact hp
    rw [e1]
    by_cases h0 : p = 0
    · have e2 : decide (-p < 0) = false := by simp only [decide_eq_false_iff_not]; omega
      have e3 : decide (0 < zs.length) = false := by simp only [decide_eq_false_iff_not]; rw [hlp]; omega
      have E2 := Lib.hid e2
      clear e1 e2 hfin hlp hna g1 g2 g3 g4 g5 g6 hp h0
      go_enter Tryz.func35, Tryz.ntmps35
      go_wp2_with fail
      refine bodyPost_ret (by simp [results, Tryz.results35, go_sem]; try rfl) rfl ?_
      exact ⟨⟨_, rfl, HFIN.out _ _ (((Below.refl _ _).alloc (Nat.le_refl _) _).alloc (by simp) _) E2.out⟩, ((Below.refl _ _).alloc (Nat.le_refl _) _).alloc (by simp) _⟩
    · have e2 : decide (-p < 0) = true := by simp only [decide_eq_true_eq]; omega
      have e3 : decide (0 < zs.length) = true := by simp only [decide_eq_true_eq]; rw [hlp]; omega
      have E2 := Lib.hid e2
      clear e1 e2 hfin hlp hna g1 g2 g3 g4 g5 g6 hp h0
      go_enter Tryz.func35, Tryz.ntmps35
      go_wp2_with fail
      refine bodyPost_ret (by simp [results, Tryz.results35, go_sem]; try rfl) rfl ?_
      exact ⟨⟨_, rfl, HFIN.out _ _ (((Below.refl _ _).alloc (Nat.le_refl _) _).alloc (by simp) _) E2.out⟩, ((Below.refl _ _).alloc (Nat.le_refl _) _).alloc (by simp) _⟩

end Go.Proofs.YtppaklifacadpaaGreatDoor
