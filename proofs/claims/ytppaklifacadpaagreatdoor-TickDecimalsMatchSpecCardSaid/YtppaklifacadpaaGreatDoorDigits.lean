/- The reference's digits: a row of limbs as a text. -/
import Derived.Test.YtppaklifacadpaaGreatDoorLimbs
namespace Go.Proofs.YtppaklifacadpaaGreatDoor
set_option linter.unusedVariables false
set_option linter.unusedSimpArgs false
open Go.RowKit

theorem repeatL_zero (c : Nat) : Lib.repeatL [48] c = List.replicate c 48 := by
  induction c with
  | zero => rfl
  | succ c ih => rw [Lib.repeatL, ih, List.replicate_succ]; rfl

set_option maxRecDepth 100000 in
set_option maxHeartbeats 2000000 in
theorem digits_walk (b o n cap : Nat) (zs : List Int) (w : World) (htab : Tab w) (hz : zs.length = n) (hn0 : 0 < n) (hn : n ≤ 30) (hcl : n ≤ cap) (hcm : cap ≤ maxLen) (hb : b < w.heap.size) (cz : Canon zs)
    (hc : ∀ j, j < n → w.cell? ⟨b, o + j, none⟩ = some (.int .i64 (zs.getD j 0))) :
    Calls Tryz.prog 21 #[.slice (some ⟨b, o, none⟩) n cap] w fun e w' => (∃ S : ByteArray, e = .returned (.string S) ∧ DigT zs 0 S.data.toList) ∧ Below w.heap.size w w' := by
  have HT := Lib.hid htab; have HZ := Lib.hid hz; have HC := Lib.hid hc; have CZ := Lib.hid cz; have HB := Lib.hid hb
  have hstart := digT_start zs cz (by omega)
  rw [hz] at hstart
  obtain ⟨j0, rfl⟩ : ∃ j, n = j + 1 := ⟨n - 1, by omega⟩
  rw [Nat.add_sub_cancel] at hstart
  obtain ⟨x, hx⟩ : ∃ x, zs.getD j0 0 = x := ⟨_, rfl⟩
  have hdx := cz.1 j0 (by omega)
  rw [hx] at hdx hstart
  have hcx := hc j0 (by omega)
  rw [hx] at hcx
  obtain ⟨x0, x1⟩ := hdx
  have HSTART := Lib.hid hstart
  have e0 : (j0 : Int) + 1 - 1 = (j0 : Int) := by omega
  clear htab hz hc cz hx hstart hb
  go_enter Tryz.func21, Tryz.ntmps21
  go_wp2_with fail
  refine (itoa_any x (by omega) (by omega) _ HT.out).mono ?_
  rintro e w1 ⟨rfl, b1⟩
  have hit : Lib.itoa x = Lib.decDigits x.toNat := by
    have := Lib.itoa_nonneg x.toNat
    rw [Int.toNat_of_nonneg x0] at this
    exact this
  rw [hit]
  have B1 := Lib.hid b1
  clear b1 hit
  go_wp2_with fail
  go_loopw [3, 4] (fun v i wr => ∃ (S : ByteArray) (k : Nat) (q : Int), v = .string S ∧ k ≤ j0 ∧ q = (k : Int) - 1 ∧ i = .int .i64 q ∧ Below w.heap.size w wr ∧ Hid (DigT zs k S.data.toList)) (fun _ i _ => (intOf i + 1).toNat)
  case atStart => exact ⟨_, j0, _, rfl, Nat.le_refl _, rfl, by simp; omega, B1.out, HSTART⟩
  case round =>
    obtain ⟨S, k, q, rfl, hk, hq, rfl, hbel, HS⟩ := hrel
    by_cases hk0 : k < 1
    · have hq1 : q = -1 := by omega
      have hk00 : k = 0 := by omega
      subst hq1 hk00
      clear hq hk hk0
      go_wp2_with fail
      go_ret
      exact ⟨⟨_, rfl, HS.out⟩, hbel⟩
    · obtain ⟨j, rfl⟩ : ∃ j, k = j + 1 := ⟨k - 1, by omega⟩
      have hqj : q = (j : Int) := by omega
      subst hqj
      obtain ⟨y, hy⟩ : ∃ y, zs.getD j 0 = y := ⟨_, rfl⟩
      have hdy := CZ.out.1 j (by have := HZ.out; omega)
      rw [hy] at hdy
      obtain ⟨y0, y1⟩ := hdy
      obtain ⟨u, rfl⟩ : ∃ u : Nat, y = (u : Int) := ⟨y.toNat, by omega⟩
      have hcy : wr.cell? ⟨b, o + j, none⟩ = some (.int .i64 (u : Int)) := by
        rw [hbel.cell (p := ⟨b, o + j, none⟩) HB.out, HC.out j (by omega), hy]
      have hstep := digT_step HS.out CZ.out.1 (by have := HZ.out; omega) u hy
      have hjn : (j : Int) < (j0 : Int) + 1 := by omega
      have HY := Lib.hid hy; have HSTEP := Lib.hid hstep; have HBEL := Lib.hid hbel
      have HSL := Lib.hid (HS.out.len)
      clear hy hq hstep hbel
      go_wp2_with fail
      refine (itoa_any (u : Int) (by omega) (by omega) _ (HT.out.below HBEL.out (Nat.le_refl _))).mono ?_
      rintro e w2 ⟨rfl, b2⟩
      rw [Lib.itoa_nonneg]
      obtain ⟨L, hL⟩ : ∃ L, Lib.decDigits u = L := ⟨_, rfl⟩
      have hl4 := decDigits_len4 u (by omega)
      rw [hL] at hl4 ⊢
      have hpe : (4 : Int) - (L.length : Int) = ((4 - L.length : Nat) : Int) := by omega
      obtain ⟨c, hcc⟩ : ∃ c, 4 - L.length = c := ⟨_, rfl⟩
      rw [hcc] at hpe
      have HL := Lib.hid hL; have B2 := Lib.hid b2; have HCC := Lib.hid hcc
      clear hL b2 hcc
      go_wp2_with fail
      refine (Tryz.strings_Repeat ⟨#[48]⟩ c _ (by omega) (by have : (⟨#[48]⟩ : ByteArray).size = 1 := rfl; rw [this]; omega)).mono ?_
      rintro e w3 ⟨rfl, b3⟩
      have hrl : Lib.repeatL (⟨#[48]⟩ : ByteArray).data.toList c = List.replicate c 48 := repeatL_zero c
      rw [hrl]
      obtain ⟨Z, hZ⟩ : ∃ Z : ByteArray, (⟨(List.replicate c 48).toArray⟩ : ByteArray) = Z := ⟨_, rfl⟩
      obtain ⟨P, hP⟩ : ∃ P : ByteArray, (⟨L.toArray⟩ : ByteArray) = P := ⟨_, rfl⟩
      have hZs : Z.size = c := by rw [← hZ]; simp [ByteArray.size]
      have hPs : P.size = L.length := by rw [← hP]; simp [ByteArray.size]
      have hSs : S.size = S.data.toList.length := by rw [Array.length_toList]; rfl
      have hSl : (S.size : Int) ≤ 8388608 := by have := HSL.out; have := HZ.out; omega
      have hZl : (Z.size : Int) ≤ 8388608 := by omega
      have hPl : (P.size : Int) ≤ 8388608 := by omega
      have hZPs : ((Z ++ P).size : Int) ≤ 8388608 := by rw [ByteArray.size_append]; omega
      have hdat : (S ++ (Z ++ P)).data.toList = S.data.toList ++ (List.replicate (4 - (Lib.decDigits u).length) 48 ++ Lib.decDigits u) := by
        rw [HL.out, HCC.out, ← hZ, ← hP]
        simp [ByteArray.data_append]
      rw [hZ, hP]
      have HDAT := Lib.hid hdat; have B3 := Lib.hid b3
      clear hZ hP hZs hPs hSs hdat b3 hrl
      go_wp2_with fail
      go_roundw
      case rel => exact ⟨_, j, _, rfl, by omega, rfl, rfl, (HBEL.out.trans (B2.out.mono HBEL.out.size)).trans (B3.out.mono (Nat.le_trans HBEL.out.size B2.out.size)), Lib.hid (by rw [HDAT.out]; exact HSTEP.out)⟩
      case measure => simp [intOf]

/-- The text of limbs: digits alone, that spell the number; no more of them than it needs. -/
theorem digits_any (u : Value) (zs : List Int) (w : World) (htab : Tab w) (hu : Lim w u zs) (cz : Canon zs) (hn : zs.length ≤ 30) :
    Calls Tryz.prog 21 #[u] w fun e w' => (∃ S : ByteArray, e = .returned (.string S) ∧ DigB S.data.toList ∧ S.data.toList ≠ [] ∧ (dvalB S.data.toList : Int) = lval zs ∧ 10 ^ (S.size - 1) ≤ dvalB S.data.toList + 1) ∧ Below w.heap.size w w' := by
  rcases hu with ⟨a, c, rfl, hcm, rfl⟩ | ⟨b, o, c, rfl, hne, hlt, hl, hm, hc⟩
  · go_enter Tryz.func21, Tryz.ntmps21
    go_wp2_with fail
    go_ret
    exact ⟨⟨⟨#[48]⟩, rfl, fun x hx => by simp at hx; subst hx; simp, by simp, by simp [dvalB, lval], by simp [ByteArray.size]⟩, Below.refl _ _⟩
  · refine (digits_walk b o zs.length c zs w htab rfl (List.length_pos_iff.2 hne) hn hl hm hlt cz hc).mono ?_
    rintro e w' ⟨⟨S, rfl, h⟩, b⟩
    have hs : S.size = S.data.toList.length := by rw [Array.length_toList]; rfl
    refine ⟨⟨S, rfl, h.digs, h.ne, by rw [h.eq]; rfl, ?_⟩, b⟩
    rw [hs]
    exact Nat.le_succ_of_le h.low

end Go.Proofs.YtppaklifacadpaaGreatDoor
