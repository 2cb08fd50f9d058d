/- The reference's IsName (chapter 1). -/
import Derived.Test.YtiphipgheadakaaChkP0
import Derived.Deep.QuietTactic
import Derived.BigQuiet
namespace Go.Proofs.Ytiphipgheadakaa
set_option linter.unusedVariables false
set_option linter.unusedSimpArgs false
open Go.RowKit

set_option maxRecDepth 100000 in
set_option maxHeartbeats 8000000 in
theorem rName1_any (s : ByteArray) (w : World) (hm : s.size ≤ maxLen) :
    Calls Try.prog 60 #[.string s] w fun e w' => e = .returned (.bool (nameB s)) ∧ w = w' := by
  have HB : Hid (∀ i, i < s.size → chOk i (s.data.toList.getD i 0).toNat = false → nameB s = false) := Lib.hid (fun i hi h => name_bad hi h)
  have HG : Hid ((∀ i, i < s.size → chOk i (s.data.toList.getD i 0).toNat = true) → nameB s = inB s.size 1 40) := Lib.hid name_good
  have HY : Hid (∀ k (hk : k < s.size), (s.data.toList.getD k 0).toNat = s[k].toNat) := Lib.hid (fun k hk => byte_get s k hk)
  obtain ⟨R, hR⟩ : ∃ R, nameB s = R := ⟨_, rfl⟩
  rw [hR] at HB HG ⊢
  unfold maxLen at hm
  clear hR
  go_enter Try.func60, Try.ntmps60
  go_wp2_with fail
  go_loopw [3] (fun v wr => ∃ k : Nat, k ≤ s.size ∧ v = .int .i64 k ∧ Hid (∀ i, i < k → chOk i (s.data.toList.getD i 0).toNat = true) ∧ w = wr) (fun v _ => s.size - (intOf v).toNat)
  case atStart => exact ⟨0, Nat.zero_le _, rfl, Lib.hid (fun i hi => by omega), rfl⟩
  case round =>
    obtain ⟨k, hk, rfl, HK, rfl⟩ := hrel
    by_cases hlt : k < s.size
    rotate_left
    · have hks : k = s.size := by omega
      have e := HG.out (fun i hi => HK.out i (by omega))
      have HR := Lib.hid e
      have hlt' : decide (k < s.size) = false := by simp only [decide_eq_false_iff_not]; exact hlt
      have hlt2 : decide ((k : Int) < (s.size : Int)) = false := by simp; omega
      clear hlt hks e
      by_cases h0 : s.size = 0
      · have e1 : R = false := by rw [HR.out, h0]; rfl
        have e2 : (s.toList == []) = true := by rw [sEmpty h0, ByteArray.toList_eq]; rfl
        have e3 : (s.toList != []) = false := by rw [bne, e2]; rfl
        subst e1
        clear h0
        go_wp2_with fail
        go_ret
        exact ⟨rfl, rfl⟩
      · have e2 := sNe (s := s) (by omega)
        have e3 := sNe2 (s := s) (by omega)
        by_cases h40 : s.size ≤ 40
        · have e1 : R = true := by rw [HR.out, inB_iff]; omega
          have hld : decide ((s.size : Int) ≤ 40) = true := by simp; omega
          subst e1
          clear h0 h40
          go_wp2_with fail
          go_ret
          exact ⟨rfl, rfl⟩
        · have e1 : R = false := by
            rw [HR.out]
            have : ¬ inB s.size 1 40 = true := by rw [inB_iff]; omega
            simpa using this
          have hld : decide ((s.size : Int) ≤ 40) = false := by simp; omega
          subst e1
          clear h0 h40
          go_wp2_with fail
          go_ret
          exact ⟨rfl, rfl⟩
    · have hb := HY.out k hlt
      obtain ⟨c, hc⟩ : ∃ c, s[k].toNat = c := ⟨_, rfl⟩
      rw [hc] at hb
      have HBK : Hid (chOk k c = false → R = false) := Lib.hid (fun h => HB.out k hlt (by rw [hb]; exact h))
      have HN : Hid (chOk k c = true → ∀ i, i < k + 1 → chOk i (s.data.toList.getD i 0).toNat = true) := Lib.hid (fun h i hi => by
        by_cases e : i = k
        · subst e; rw [hb]; exact h
        · exact HK.out i (by omega))
      have hwI : IntKind.i64.wrap ((k : Int) + 1) = (k : Int) + 1 := IntWalk.i64_in _ ⟨by omega, by omega⟩
      clear hb
      by_cases hk0 : k = 0
      · have i1 : ((k : Int) == 0) = true := by simp; omega
        have hcase : ((97 ≤ c ∧ c ≤ 122) ∨ (c < 97) ∨ (122 < c)) := by omega
        rcases hcase with hcs | hcs | hcs
        · have hkc : chOk k c = true := by unfold chOk; simp; omega
          have a1 : decide ((97 : Int) ≤ (c : Int)) = true := by simp; omega
          have a1n : decide (97 ≤ c) = true := by simp; omega
          have a2 : decide ((c : Int) ≤ 122) = true := by simp; omega
          have a2n : decide (c ≤ 122) = true := by simp; omega
          have HN2 := Lib.hid (HN.out hkc)
          clear hkc hcs hk0
          go_wp2_with fail
          go_roundw
          case rel => exact ⟨k + 1, by omega, by go_num, HN2, trivial⟩
          case measure => simp [intOf]; omega
        · have hkc : chOk k c = false := by unfold chOk; simp; omega
          have a1 : decide ((97 : Int) ≤ (c : Int)) = false := by simp; omega
          have a1n : decide (97 ≤ c) = false := by simp; omega
          have e1 : R = false := HBK.out hkc
          subst e1
          clear hkc hcs hk0
          go_wp2_with fail
          go_ret
          exact ⟨rfl, rfl⟩
        · have hkc : chOk k c = false := by unfold chOk; simp; omega
          have a1 : decide ((97 : Int) ≤ (c : Int)) = true := by simp; omega
          have a1n : decide (97 ≤ c) = true := by simp; omega
          have a2 : decide ((c : Int) ≤ 122) = false := by simp; omega
          have a2n : decide (c ≤ 122) = false := by simp; omega
          have e1 : R = false := HBK.out hkc
          subst e1
          clear hkc hcs hk0
          go_wp2_with fail
          go_ret
          exact ⟨rfl, rfl⟩
      · have i1 : ((k : Int) == 0) = false := by simp; omega
        have hcase : ((97 ≤ c ∧ c ≤ 122) ∨ (c = 45) ∨ (48 ≤ c ∧ c ≤ 57) ∨ (c < 48 ∧ c ≠ 45) ∨ (57 < c ∧ c < 97) ∨ (122 < c)) := by omega
        rcases hcase with hcs | hcs | hcs | hcs | hcs | hcs
        · have hkc : chOk k c = true := by unfold chOk; simp; omega
          have a1 : decide ((97 : Int) ≤ (c : Int)) = true := by simp; omega
          have a1n : decide (97 ≤ c) = true := by simp; omega
          have a2 : decide ((c : Int) ≤ 122) = true := by simp; omega
          have a2n : decide (c ≤ 122) = true := by simp; omega
          have HN2 := Lib.hid (HN.out hkc)
          clear hkc hcs hk0
          go_wp2_with fail
          go_roundw
          case rel => exact ⟨k + 1, by omega, by go_num, HN2, trivial⟩
          case measure => simp [intOf]; omega
        · have hkc : chOk k c = true := by unfold chOk; simp; omega
          have a1 : decide ((97 : Int) ≤ (c : Int)) = false := by simp; omega
          have a1n : decide (97 ≤ c) = false := by simp; omega
          have a3 : ((c : Int) == 45) = true := by simp; omega
          have a4 : ((c : Int) != 45) = false := by simp; omega
          have HN2 := Lib.hid (HN.out hkc)
          clear hkc hcs hk0
          go_wp2_with fail
          go_roundw
          case rel => exact ⟨k + 1, by omega, by go_num, HN2, trivial⟩
          case measure => simp [intOf]; omega
        · have hkc : chOk k c = true := by unfold chOk; simp; omega
          have a1 : decide ((97 : Int) ≤ (c : Int)) = false := by simp; omega
          have a1n : decide (97 ≤ c) = false := by simp; omega
          have a3 : ((c : Int) == 45) = false := by simp; omega
          have a4 : ((c : Int) != 45) = true := by simp; omega
          have a5 : decide ((48 : Int) ≤ (c : Int)) = true := by simp; omega
          have a5n : decide (48 ≤ c) = true := by simp; omega
          have a6 : decide ((c : Int) ≤ 57) = true := by simp; omega
          have a6n : decide (c ≤ 57) = true := by simp; omega
          have HN2 := Lib.hid (HN.out hkc)
          clear hkc hcs hk0
          go_wp2_with fail
          go_roundw
          case rel => exact ⟨k + 1, by omega, by go_num, HN2, trivial⟩
          case measure => simp [intOf]; omega
        · have hkc : chOk k c = false := by unfold chOk; simp; omega
          have a1 : decide ((97 : Int) ≤ (c : Int)) = false := by simp; omega
          have a1n : decide (97 ≤ c) = false := by simp; omega
          have a3 : ((c : Int) == 45) = false := by simp; omega
          have a4 : ((c : Int) != 45) = true := by simp; omega
          have a5 : decide ((48 : Int) ≤ (c : Int)) = false := by simp; omega
          have a5n : decide (48 ≤ c) = false := by simp; omega
          have e1 : R = false := HBK.out hkc
          subst e1
          clear hkc hcs hk0
          go_wp2_with fail
          go_ret
          exact ⟨rfl, rfl⟩
        · have hkc : chOk k c = false := by unfold chOk; simp; omega
          have a1 : decide ((97 : Int) ≤ (c : Int)) = false := by simp; omega
          have a1n : decide (97 ≤ c) = false := by simp; omega
          have a3 : ((c : Int) == 45) = false := by simp; omega
          have a4 : ((c : Int) != 45) = true := by simp; omega
          have a5 : decide ((48 : Int) ≤ (c : Int)) = true := by simp; omega
          have a5n : decide (48 ≤ c) = true := by simp; omega
          have a6 : decide ((c : Int) ≤ 57) = false := by simp; omega
          have a6n : decide (c ≤ 57) = false := by simp; omega
          have e1 : R = false := HBK.out hkc
          subst e1
          clear hkc hcs hk0
          go_wp2_with fail
          go_ret
          exact ⟨rfl, rfl⟩
        · have hkc : chOk k c = false := by unfold chOk; simp; omega
          have a1 : decide ((97 : Int) ≤ (c : Int)) = true := by simp; omega
          have a1n : decide (97 ≤ c) = true := by simp; omega
          have a2 : decide ((c : Int) ≤ 122) = false := by simp; omega
          have a2n : decide (c ≤ 122) = false := by simp; omega
          have a3 : ((c : Int) == 45) = false := by simp; omega
          have a4 : ((c : Int) != 45) = true := by simp; omega
          have a5 : decide ((48 : Int) ≤ (c : Int)) = true := by simp; omega
          have a5n : decide (48 ≤ c) = true := by simp; omega
          have a6 : decide ((c : Int) ≤ 57) = false := by simp; omega
          have a6n : decide (c ≤ 57) = false := by simp; omega
          have e1 : R = false := HBK.out hkc
          subst e1
          clear hkc hcs hk0
          go_wp2_with fail
          go_ret
          exact ⟨rfl, rfl⟩

end Go.Proofs.Ytiphipgheadakaa
