/- The program's hasDateForm. -/
import Derived.Test.YtppaklifacadpaaDoorText
import Derived.Test.YtppaklifacadpaaDoorDateForm
namespace Go.Proofs.YtppaklifacadpaaDoor
set_option linter.unusedVariables false
set_option linter.unusedSimpArgs false
open Go.RowKit

theorem isDigits_dr (s : ByteArray) (A : Bool) (w : World) (hl : s.size ≤ 1000000) (h : allDig s.data.toList = A) :
    Calls Tryd.prog 88 #[.string s] w fun e w' => e = .returned (.bool A) ∧ ∃ k, w' = w.drewN k := by
  refine (isDigits_any s w hl).mono ?_
  rintro e w' ⟨rfl, rfl⟩
  exact ⟨by rw [h], 0, rfl⟩

theorem drewN_ex {w wr : World} (h : ∃ q, wr = w.drewN q) (n : Nat) : ∃ q, wr.drewN n = w.drewN q := by
  obtain ⟨q, rfl⟩ := h
  exact ⟨q + n, by simp⟩

theorem form_at (k : Nat) (h : k < 24) : (formL.getD k 0).toNat = ((⟨#[48, 48, 48, 48, 45, 48, 48, 45, 48, 48, 84, 48, 48, 58, 48, 48, 58, 48, 48, 46, 48, 48, 48, 90]⟩ : ByteArray)[k]'(by show k < 24; exact h)).toNat := by
  have hk : k < formL.length := h
  rw [List.getD_eq_getElem?_getD, List.getElem?_eq_getElem hk]
  rfl

set_option maxRecDepth 100000 in
set_option maxHeartbeats 2000000 in
theorem hasForm_any (s : ByteArray) (w : World) (hl : s.size = 24) :
    Calls Tryd.prog 52 #[.string s] w fun e w' => e = .returned (.bool (decide (∀ k (h : k < s.data.toList.length), fitB (formL.getD k 0).toNat (s.data.toList[k].toNat) = true))) ∧ ∃ q, w' = w.drewN q := by
  obtain ⟨l, hll⟩ : ∃ l, s.data.toList = l := ⟨_, rfl⟩
  have hsz : s.size = l.length := by rw [← hll, Array.length_toList]; rfl
  rw [hll]
  have HL := Lib.hid hll; have HSZ := Lib.hid hsz
  clear hll hsz
  go_enter Tryd.func52, Tryd.ntmps52
  go_wp2_with fail
  go_loopw [9] (fun v wr => ∃ k : Nat, k ≤ 24 ∧ v = .int .i64 k ∧ Hid (∀ j (h : j < l.length), j < k → fitB (formL.getD j 0).toNat l[j].toNat = true) ∧ Hid (∃ q, wr = w.drewN q)) (fun v _ => 24 - (intOf v).toNat)
  case atStart => exact ⟨0, Nat.zero_le _, rfl, Lib.hid (fun j h hj => by omega), Lib.hid ⟨0, rfl⟩⟩
  case round =>
    obtain ⟨k, hk, rfl, HK, HQ⟩ := hrel
    by_cases hlt : k < 24
    · have hks : k < s.size := by omega
      have hkl : k < l.length := by rw [← HSZ.out]; exact hks
      have hb := byte_at s l HL.out k hks hkl
      obtain ⟨c, hc⟩ : ∃ c, s[k].toNat = c := ⟨_, rfl⟩
      obtain ⟨F, hF⟩ : ∃ F, ((⟨#[48, 48, 48, 48, 45, 48, 48, 45, 48, 48, 84, 48, 48, 58, 48, 48, 58, 48, 48, 46, 48, 48, 48, 90]⟩ : ByteArray)[k]'(by show k < 24; exact hlt)).toNat = F := ⟨_, rfl⟩
      have hc256 : c < 256 := by rw [← hc]; exact UInt8.toNat_lt _
      have hFe : (formL.getD k 0).toNat = F := by rw [← hF]; exact form_at k hlt
      rw [hc] at hb
      have hpiece : (s.extract k (k + 1)).data.toList = [l[k]] := by
        rw [ByteArray.data_extract, Array.toList_extract, HL.out]
        simp only [List.extract_eq_take_drop]
        rw [show k + 1 - k = 1 by omega, List.drop_eq_getElem_cons hkl]
        rfl
      have hps : (s.extract k (k + 1)).size ≤ 1000000 := by rw [ByteArray.size_extract]; omega
      have HPC := Lib.hid hpiece; have HPS := Lib.hid hps; have HBB := Lib.hid hb; have HFE := Lib.hid hFe
      have hlen : (⟨#[48, 48, 48, 48, 45, 48, 48, 45, 48, 48, 84, 48, 48, 58, 48, 48, 58, 48, 48, 46, 48, 48, 48, 90]⟩ : ByteArray).size = 24 := rfl
      have hwk : IntKind.i64.wrap ((k : Int) + 1) = ((k + 1 : Nat) : Int) := by rw [show (k : Int) + 1 = ((k + 1 : Nat) : Int) by omega]; exact IntWalk.i64_in _ ⟨by omega, by omega⟩
      have hk1 : k + 1 ≤ s.size := by omega
      have hk2 : (k : Int) < 24 := by omega
      have hk3 : (k : Int) + 1 ≤ 24 := by omega
      have hk4 : (0 : Int) ≤ (k : Int) := by omega
      have hk5 : (k : Int) ≤ (k : Int) + 1 := by omega
      have hk6 : ((k : Int) + 1).toNat = k + 1 := by omega
      have hk7 : (0 : Int) ≤ (k : Int) + 1 := by omega
      clear hpiece hps hb hFe
      by_cases h48 : F = 48
      · subst h48
        have hfit : fitB (formL.getD k 0).toNat l[k].toNat = allDig [l[k]] := by
          rw [HFE.out]; simp [fitB, allDig]
        have HFIT := Lib.hid hfit
        clear hfit
        obtain ⟨A, hA⟩ : ∃ A, allDig [l[k]] = A := ⟨_, rfl⟩
        have HA := Lib.hid hA
        clear hA
        have haa : allDig (s.extract k (k + 1)).data.toList = A := by rw [HPC.out]; exact HA.out
        have HAA := Lib.hid haa
        clear haa
        cases A
        · have hno : decide (∀ k (h : k < l.length), fitB (formL.getD k 0).toNat (l[k].toNat) = true) = false := by
            simp only [decide_eq_false_iff_not]
            intro hx
            have := hx k hkl
            rw [HFIT.out, HA.out] at this
            simp at this
          have HNO := Lib.hid hno
          clear hno
          go_wp2_with fail
          go_quiet ((go_at_call 88; exact Calls.quiet_of (isDigits_dr _ _ _ HPS.out HAA.out)))
          go_wp2_with fail
          go_ret
          exact ⟨ret_bool HNO.out.symm, drewN_ex HQ.out _⟩
        · have hnew : ∀ j (h : j < l.length), j < k + 1 → fitB (formL.getD j 0).toNat l[j].toNat = true := by
            intro j h hj
            by_cases hjk : j = k
            · subst hjk; rw [HFIT.out, HA.out]
            · exact HK.out j h (by omega)
          have HNEW := Lib.hid hnew
          clear hnew
          go_wp2_with fail
          go_quiet ((go_at_call 88; exact Calls.quiet_of (isDigits_dr _ _ _ HPS.out HAA.out)))
          go_wp2_with fail
          go_roundw
          case rel => exact ⟨k + 1, by omega, by go_num, HNEW, Lib.hid (drewN_ex HQ.out _)⟩
          case measure => simp [intOf]; omega
      · have h48' : ((F : Int) == 48) = false := by simp; omega
        have h48n : ((F : Int) != 48) = true := by simp; omega
        go_wp2_with fail
        go_quiet (fail)
        have hfit : fitB (formL.getD k 0).toNat l[k].toNat = (F == c) := by
          rw [HFE.out, HBB.out]; unfold fitB; rw [if_neg h48]
        have HFIT := Lib.hid hfit
        clear hfit
        by_cases hcf : c = F
        · have hne : ((c : Int) != (F : Int)) = false := by rw [hcf]; simp
          have hnew : ∀ j (h : j < l.length), j < k + 1 → fitB (formL.getD j 0).toNat l[j].toNat = true := by
            intro j h hj
            by_cases hjk : j = k
            · subst hjk; rw [HFIT.out, hcf]; simp
            · exact HK.out j h (by omega)
          have HNEW := Lib.hid hnew
          rw [hne]
          clear hnew hcf hne
          go_wp2_with fail
          go_roundw
          case rel => exact ⟨k + 1, by omega, by go_num, HNEW, Lib.hid (drewN_ex HQ.out _)⟩
          case measure => simp [intOf]; omega
        · have hne : ((c : Int) != (F : Int)) = true := by simp; omega
          have hno : decide (∀ k (h : k < l.length), fitB (formL.getD k 0).toNat (l[k].toNat) = true) = false := by
            simp only [decide_eq_false_iff_not]
            intro hx
            have := hx k hkl
            rw [HFIT.out] at this
            simp at this
            omega
          have HNO := Lib.hid hno
          rw [hne]
          clear hno hcf hne
          go_wp2_with fail
          go_ret
          exact ⟨ret_bool HNO.out.symm, drewN_ex HQ.out _⟩
    · have hend : decide (∀ k (h : k < l.length), fitB (formL.getD k 0).toNat (l[k].toNat) = true) = true := by
        simp only [decide_eq_true_eq]
        intro j h
        exact HK.out j h (by have := HSZ.out; omega)
      have HEND := Lib.hid hend
      have hk24 : k = 24 := by omega
      subst hk24
      clear hend hlt
      go_wp2_with fail
      go_ret
      exact ⟨ret_bool HEND.out.symm, HQ.out⟩

end Go.Proofs.YtppaklifacadpaaDoor
