/- The reference's Round: walked. -/
import Derived.Test.YtppaklifacadpaaGreatDoorRoundN
namespace Go.Proofs.YtppaklifacadpaaGreatDoor
set_option linter.unusedVariables false
set_option linter.unusedSimpArgs false
open Go.RowKit

def sgnI (s : Bool) (A : Int) : Int := if s then -A else A

set_option maxRecDepth 100000 in
set_option maxHeartbeats 4000000 in
theorem roundn_walk (s : Bool) (a1 a2 : Option Addr) (n1 n2 c1 c2 : Nat) (p q : Int) (w : World) (way most : Int) (L : Nat) (htab : Tab w) (hv : NumR w (.agg #[.bool s, .slice a1 n1 c1, .slice a2 n2 c2]) p q L) (hs : decide (p < 0) = s) (hw : 1 ≤ way ∧ way ≤ 3) (hL : L ≤ 400)
    (h0 : 0 ≤ most) (h1 : most < 100000000000000000) :
    Calls Tryz.prog 36 #[.agg #[.bool s, .slice a1 n1 c1, .slice a2 n2 c2], .int .i64 way, .int .i64 most] w fun e w' =>
      e = .returned (.tuple #[.int .i64 (if most < rdV s way (p.natAbs : Int) q then 0 else sgnI s (rdV s way (p.natAbs : Int) q)), .bool (decide (rdV s way (p.natAbs : Int) q ≤ most))]) ∧ Below w.heap.size w w' := by
  have HTB := Lib.hid htab; have HV := Lib.hid hv; have HW := Lib.hid hw; have HS := Lib.hid hs
  have hv1 := hv.below ((Below.refl w.heap.size w).alloc (Nat.le_refl _) (.cells #[.bool s, .slice a1 n1 c1, .slice a2 n2 c2] 38)) (Nat.le_refl _)
  have HV1 := Lib.hid hv1
  have HB1 : Hid (Below w.heap.size w (w.alloc (.cells #[.bool s, .slice a1 n1 c1, .slice a2 n2 c2] 38))) := Lib.hid ((Below.refl _ _).alloc (Nat.le_refl _) _)
  have HS1 : Hid ((w.alloc (.cells #[.bool s, .slice a1 n1 c1, .slice a2 n2 c2] 38)).heap.size = w.heap.size + 1) := Lib.hid (by simp)
  have HC1 : Hid ((w.alloc (.cells #[.bool s, .slice a1 n1 c1, .slice a2 n2 c2] 38)).cell? ⟨w.heap.size, 0, none⟩ = some (.bool s)) := Lib.hid (World.cell?_alloc_new _ _ _ _)
  have hA0 : 0 ≤ rdV s way (p.natAbs : Int) q := by
    unfold rdV
    have := Int.ediv_nonneg (show (0 : Int) ≤ p.natAbs by omega) (Int.le_of_lt hv.1)
    split <;> omega
  obtain ⟨A, hA⟩ : ∃ A, rdV s way (p.natAbs : Int) q = A := ⟨_, rfl⟩
  rw [hA] at hA0 ⊢
  have HA := Lib.hid hA
  obtain ⟨X, hX⟩ : ∃ X : Int, (if most < A then 0 else sgnI s A) = X := ⟨_, rfl⟩
  rw [hX]
  have HX := Lib.hid hX
  obtain ⟨Y, hY⟩ : ∃ Y : Bool, decide (A ≤ most) = Y := ⟨_, rfl⟩
  rw [hY]
  have HY := Lib.hid hY
  have H0 := Lib.hid h0; have H1 := Lib.hid h1; have HA0 := Lib.hid hA0
  clear htab hv hw hv1 hA hX hY hs
  go_enter Tryz.func36, Tryz.ntmps36
  go_wp2_with fail
  refine (round_num _ p q _ way L HV1.out HW.out hL).mono ?_
  rintro e w2 ⟨⟨r, rfl, qs, g1, g2, g3, g4⟩, b2⟩
  rw [HS.out, HA.out] at g3
  have G1 := Lib.hid g1; have G2 := Lib.hid g2; have G3 := Lib.hid g3; have G4 := Lib.hid g4
  have B2 := Lib.hid (HB1.out.trans (b2.mono HB1.out.size))
  have hs2 : w.heap.size + 1 ≤ w2.heap.size := by have := b2.size; rw [HS1.out] at this; exact this
  have hc2 : w2.cell? ⟨w.heap.size, 0, none⟩ = some (.bool s) := by rw [b2.cell (by rw [HS1.out]; exact Nat.lt_succ_self _)]; exact HC1.out
  have HC2 := Lib.hid hc2; have HS2 := Lib.hid hs2
  clear g1 g2 g3 g4 b2 hc2 hs2
  go_wp2_with fail
  refine (itoa_any most (by omega) (by omega) _ (HTB.out.below B2.out (Nat.le_refl _))).mono ?_
  rintro e w3 ⟨rfl, b3⟩
  have hit : Lib.itoa most = Lib.decDigits most.toNat := by
    have := Lib.itoa_nonneg most.toNat
    rw [Int.toNat_of_nonneg h0] at this
    exact this
  rw [hit]
  obtain ⟨S, hS⟩ : ∃ S : ByteArray, (⟨(Lib.decDigits most.toNat).toArray⟩ : ByteArray) = S := ⟨_, rfl⟩
  rw [hS]
  have hSd : S.data.toList = Lib.decDigits most.toNat := by rw [← hS]
  have hSz : S.size ≤ 100 := by
    rw [← hS]
    show (Lib.decDigits most.toNat).toArray.size ≤ 100
    rw [List.size_toArray]
    exact dec_len100 _ (by omega)
  have B3 := Lib.hid b3; have HSD := Lib.hid hSd
  clear b3 hS hSd hit
  go_wp2_with fail
  refine (limbs_any S (by rw [HSD.out]; exact (decDigits_facts _).1) hSz _).mono ?_
  rintro e w4 ⟨⟨r4, rfl, ms, g1, g2, g3, g4⟩, b4⟩
  rw [HSD.out, (decDigits_facts _).2, Int.toNat_of_nonneg h0] at g3
  have M1 := Lib.hid g1; have M2 := Lib.hid g2; have M3 := Lib.hid g3
  have B24 : Hid (Below w2.heap.size w2 w4) := Lib.hid (B3.out.trans (b4.mono B3.out.size))
  have Q4 := Lib.hid (G1.out.below B24.out (Nat.le_refl _))
  clear g1 g2 g3 g4 b4
  go_wp2_with fail
  refine (cmp_any _ _ qs ms _ Q4.out M1.out G2.out M2.out).mono ?_
  rintro e w5 ⟨rfl, q5, hw5⟩
  have B45 : Hid (Below w4.heap.size w4 w5) := Lib.hid (by rw [hw5]; exact below_drewN (Below.refl _ _) _)
  have Q5 := Lib.hid (Q4.out.below B45.out (Nat.le_refl _))
  have B25 : Hid (Below w2.heap.size w2 w5) := Lib.hid (B24.out.trans (B45.out.mono B24.out.size))
  rw [G3.out, M3.out]
  obtain ⟨C, hC⟩ : ∃ C, cmpI A most = C := ⟨_, rfl⟩
  rw [hC]
  have HC := Lib.hid hC
  clear hC hw5
  by_cases hC0 : 0 < C
  · have hgt : most < A := by
      apply Decidable.byContradiction; intro hx
      have := HC.out
      rcases Int.lt_or_eq_of_le (show A ≤ most by omega) with h | h
      · have := cmpI_lt h; omega
      · have := cmpI_eq h; omega
    have HGT := Lib.hid hgt
    clear hgt
    go_wp2_with fail
    go_ret2
    have e1 : X = 0 := by rw [← HX.out, if_pos HGT.out]
    have e2 : Y = false := by rw [← HY.out]; simp; exact HGT.out
    rw [e1, e2]
    exact ⟨rfl, B2.out.trans (B25.out.mono B2.out.size)⟩
  · have hle : A ≤ most := by
      apply Decidable.byContradiction; intro hx
      have := HC.out
      have := cmpI_gt (show most < A by omega); omega
    have HLE := Lib.hid hle
    have hC0' : decide (0 < C) = false := by simp only [decide_eq_false_iff_not]; exact hC0
    have hlen : qs.length ≤ 5 := canon_len_bd qs G2.out (by rw [G3.out]; omega)
    have HLEN := Lib.hid hlen
    have HTB5 := Lib.hid (HTB.out.below (B2.out.trans (B25.out.mono B2.out.size)) (Nat.le_refl _))
    clear hle hlen
    go_wp2_with fail
    refine (digits_any _ qs _ HTB5.out Q5.out G2.out (by have := HLEN.out; omega)).mono ?_
    rintro e w6 ⟨⟨T, rfl, d1, d2, d3, d4⟩, b6⟩
    rw [G3.out] at d3
    have hT : T.size ≤ 18 := by
      apply Decidable.byContradiction; intro hx
      have := Nat.pow_le_pow_right (show 1 ≤ 10 by omega) (show 18 ≤ T.size - 1 by omega)
      have := HLE.out
      omega
    have D1 := Lib.hid d1; have D2 := Lib.hid d2; have D3 := Lib.hid d3; have HT18 := Lib.hid hT
    have B26 : Hid (Below w2.heap.size w2 w6) := Lib.hid (B25.out.trans (b6.mono B25.out.size))
    clear d1 d2 d3 d4 b6 hT
    go_wp2_with fail
    refine (atoi_any T D1.out D2.out HT18.out _).mono ?_
    rintro e w7 ⟨rfl, b7⟩
    rw [D3.out]
    have B27 : Hid (Below w2.heap.size w2 w7) := Lib.hid (B26.out.trans (b7.mono B26.out.size))
    have hc7 : w7.cell? ⟨w.heap.size, 0, none⟩ = some (.bool s) := by rw [B27.out.cell (by show w.heap.size < _; have := HS2.out; omega)]; exact HC2.out
    have e2 : Y = true := by rw [← HY.out]; simp; exact HLE.out
    have hA17 : A ≤ 100000000000000000 := by have := HLE.out; have := H1.out; omega
    clear b7
    cases s
    · go_wp2_with fail
      go_ret2
      have e1 : X = A := by rw [← HX.out, if_neg (by have := HLE.out; omega)]; rfl
      rw [e1, e2]
      exact ⟨rfl, B2.out.trans (B27.out.mono B2.out.size)⟩
    · go_wp2_with fail
      go_ret2
      have e1 : X = -A := by rw [← HX.out, if_neg (by have := HLE.out; omega)]; rfl
      rw [e1, e2]
      exact ⟨rfl, B2.out.trans (B27.out.mono B2.out.size)⟩

theorem roundn_num (v : Value) (p q : Int) (w : World) (way most : Int) (L : Nat) (htab : Tab w) (hv : NumR w v p q L) (hw : 1 ≤ way ∧ way ≤ 3) (hL : L ≤ 400) (h0 : 0 ≤ most) (h1 : most < 100000000000000000) :
    Calls Tryz.prog 36 #[v, .int .i64 way, .int .i64 most] w fun e w' =>
      e = .returned (.tuple #[.int .i64 (if most < rdV (decide (p < 0)) way (p.natAbs : Int) q then 0 else sgnI (decide (p < 0)) (rdV (decide (p < 0)) way (p.natAbs : Int) q)), .bool (decide (rdV (decide (p < 0)) way (p.natAbs : Int) q ≤ most))]) ∧ Below w.heap.size w w' := by
  obtain ⟨a, n, c, a', n', c', rfl⟩ := hv.shape
  exact roundn_walk _ a a' n n' c c' p q w way most L htab hv rfl hw hL h0 h1

end Go.Proofs.YtppaklifacadpaaGreatDoor
