/- Names: IsLetter, IsDigit, IsName. -/
import Derived.Test.YtiphipgheadakaaBox0
import Derived.Test.YtiphipgheadakaaRungPlain
import Derived.Deep.SlicePairs
import Derived.RegionTactic
import Derived.ChangeAlike
import Derived.Deep.DeepCutAuto
import Derived.Deep.CutBlock
namespace Go.Proofs.Ytiphipgheadakaa
set_option linter.unusedVariables false
set_option linter.unusedSimpArgs false
open Go.RowKit Go.Deep

theorem letter_any (c : Nat) (w : World) :
    Calls Try.prog 74 #[.int .u8 c] w fun e w' => e = .returned (.bool (decide (97 ≤ c) && decide (c ≤ 122))) ∧ w = w' := by
  by_cases h1 : 97 ≤ c
  · by_cases h2 : c ≤ 122
    · go_enter Try.func74, Try.ntmps74
      go_wp2
      go_ret
      exact ⟨bret_bool (by simp [h1, h2]; try omega), rfl⟩
    · have d : decide ((c : Int) ≤ 122) = false := by simp; omega
      have d2 : decide (c ≤ 122) = false := by simp; omega
      go_enter Try.func74, Try.ntmps74
      go_wp2
      go_ret
      exact ⟨bret_bool (by simp; try omega), rfl⟩
  · have d : decide ((97 : Int) ≤ (c : Int)) = false := by simp; omega
    have d2 : decide (97 ≤ c) = false := by simp; omega
    go_enter Try.func74, Try.ntmps74
    go_wp2
    go_ret
    exact ⟨bret_bool (by simp; try omega), rfl⟩
theorem digit_any (c : Nat) (w : World) :
    Calls Try.prog 75 #[.int .u8 c] w fun e w' => e = .returned (.bool (decide (48 ≤ c) && decide (c ≤ 57))) ∧ w = w' := by
  by_cases h1 : 48 ≤ c
  · by_cases h2 : c ≤ 57
    · go_enter Try.func75, Try.ntmps75
      go_wp2
      go_ret
      exact ⟨bret_bool (by simp [h1, h2]; try omega), rfl⟩
    · have d : decide ((c : Int) ≤ 57) = false := by simp; omega
      have d2 : decide (c ≤ 57) = false := by simp; omega
      go_enter Try.func75, Try.ntmps75
      go_wp2
      go_ret
      exact ⟨bret_bool (by simp; try omega), rfl⟩
  · have d : decide ((48 : Int) ≤ (c : Int)) = false := by simp; omega
    have d2 : decide (48 ≤ c) = false := by simp; omega
    go_enter Try.func75, Try.ntmps75
    go_wp2
    go_ret
    exact ⟨bret_bool (by simp; try omega), rfl⟩
theorem name_bad {s : ByteArray} {i : Nat} (hi : i < s.size) (h : chOk i (s.data.toList.getD i 0).toNat = false) : nameB s = false := by
  unfold nameB
  have : (List.range s.size).all (fun i => chOk i (s.data.toList.getD i 0).toNat) = false := by
    rw [List.all_eq_false]
    exact ⟨i, by simpa using hi, by rw [h]; exact Bool.false_ne_true⟩
  rw [this]; rfl
theorem name_good {s : ByteArray} (h : ∀ i, i < s.size → chOk i (s.data.toList.getD i 0).toNat = true) : nameB s = inB s.size 1 40 := by
  unfold nameB
  have : (List.range s.size).all (fun i => chOk i (s.data.toList.getD i 0).toNat) = true := by
    rw [List.all_eq_true]
    intro i hi
    exact h i (by simpa using hi)
  rw [this]; rfl
theorem byte_get (s : ByteArray) (k : Nat) (hk : k < s.size) : (s.data.toList.getD k 0).toNat = s[k].toNat := by
  have hl : k < s.data.toList.length := by rw [Array.length_toList]; exact hk
  rw [List.getD_eq_getElem?_getD, List.getElem?_eq_getElem hl]
  rfl
set_option maxRecDepth 100000 in
set_option maxHeartbeats 4000000 in
theorem isName_any (s : ByteArray) (w : World) (hm : s.size ≤ maxLen) :
    Calls Try.prog 58 #[.string s] w fun e w' => e = .returned (.bool (nameB s)) ∧ w = w' := by
  have HB : Hid (∀ i, i < s.size → chOk i (s.data.toList.getD i 0).toNat = false → nameB s = false) := Lib.hid (fun i hi h => name_bad hi h)
  have HG : Hid ((∀ i, i < s.size → chOk i (s.data.toList.getD i 0).toNat = true) → nameB s = inB s.size 1 40) := Lib.hid name_good
  have HY : Hid (∀ k (hk : k < s.size), (s.data.toList.getD k 0).toNat = s[k].toNat) := Lib.hid (fun k hk => byte_get s k hk)
  obtain ⟨R, hR⟩ : ∃ R, nameB s = R := ⟨_, rfl⟩
  rw [hR] at HB HG ⊢
  unfold maxLen at hm
  clear hR
  go_enter Try.func58, Try.ntmps58
  go_wp2_with fail
  go_loopw [6] (fun v wr => ∃ k : Nat, k ≤ s.size ∧ v = .int .i64 k ∧ Hid (∀ i, i < k → chOk i (s.data.toList.getD i 0).toNat = true) ∧ w = wr) (fun v _ => s.size - (intOf v).toNat)
  case atStart => exact ⟨0, Nat.zero_le _, rfl, Lib.hid (fun i hi => by omega), rfl⟩
  case round =>
    obtain ⟨k, hk, rfl, HK, rfl⟩ := hrel
    by_cases hlt : k < s.size
    rotate_left
    · have hks : k = s.size := by omega
      have HR := Lib.hid (HG.out (fun i hi => HK.out i (by omega)))
      have hlt' : decide (k < s.size) = false := by simp only [decide_eq_false_iff_not]; exact hlt
      clear hlt hks
      go_wp2_with fail
      refine (bwithin_any _ _ _ _).mono ?_; rintro e w' ⟨rfl, rfl⟩
      rw [← HR.out]
      go_wp2_with fail
      go_ret
      exact ⟨rfl, rfl⟩
    · have hb := HY.out k hlt
      obtain ⟨c, hc⟩ : ∃ c, s[k].toNat = c := ⟨_, rfl⟩
      rw [hc] at hb
      have HBK : Hid (chOk k c = false → R = false) := Lib.hid (fun h => HB.out k hlt (by rw [hb]; exact h))
      have HN : Hid (chOk k c = true → ∀ i, i < k + 1 → chOk i (s.data.toList.getD i 0).toNat = true) := Lib.hid (fun h i hi => by
        by_cases e : i = k
        · subst e; rw [hb]; exact h
        · exact HK.out i (by omega))
      obtain ⟨p, hp⟩ : ∃ p, (decide (97 ≤ c) && decide (c ≤ 122)) = p := ⟨_, rfl⟩
      obtain ⟨q, hq⟩ : ∃ q, (decide (48 ≤ c) && decide (c ≤ 57)) = q := ⟨_, rfl⟩
      have HCH : Hid (chOk k c = (p || (decide (0 < k) && (q || c == 45)))) := Lib.hid (by unfold chOk; rw [hp, hq])
      have hpl := letter_any c
      have hql := digit_any c
      rw [hp] at hpl
      rw [hq] at hql
      have HP := Lib.hid hpl
      have HQ := Lib.hid hql
      have hwI : IntKind.i64.wrap ((k : Int) + 1) = (k : Int) + 1 := IntWalk.i64_in _ ⟨by omega, by omega⟩
      clear hb hp hq hpl hql
      cases p
      · by_cases hk0 : k = 0
        · subst hk0
          have e1 : R = false := HBK.out (by rw [HCH.out]; rfl)
          subst e1
          go_wp2_with fail
          refine (HP.out _).mono ?_; rintro e w' ⟨rfl, rfl⟩
          go_wp2_with fail
          go_ret
          exact ⟨rfl, rfl⟩
        · have hkz : ((k : Int) == 0) = false := by simp; omega
          have hkd : decide (0 < k) = true := by simp; omega
          cases q
          · by_cases h45 : c = 45
            · subst h45
              have HN2 := Lib.hid (HN.out (by rw [HCH.out, hkd]; rfl))
              clear hk0 hkd
              go_wp2_with fail
              refine (HP.out _).mono ?_; rintro e w' ⟨rfl, rfl⟩
              go_wp2_with fail
              refine (HQ.out _).mono ?_; rintro e w' ⟨rfl, rfl⟩
              go_wp2_with fail
              go_roundw
              case rel => exact ⟨k + 1, by omega, by go_num, HN2, trivial⟩
              case measure => simp [intOf]; omega
            · have h45b : ((c : Int) == 45) = false := by simp; omega
              have h45c : ((c : Int) != 45) = true := by simp; omega
              have h45d : (c == 45) = false := by simp [h45]
              have e1 : R = false := HBK.out (by rw [HCH.out, hkd, h45d]; rfl)
              subst e1
              clear hk0 hkd h45 h45d
              go_wp2_with fail
              refine (HP.out _).mono ?_; rintro e w' ⟨rfl, rfl⟩
              go_wp2_with fail
              refine (HQ.out _).mono ?_; rintro e w' ⟨rfl, rfl⟩
              go_wp2_with fail
              go_ret
              exact ⟨rfl, rfl⟩
          · have HN2 := Lib.hid (HN.out (by rw [HCH.out, hkd]; rfl))
            clear hk0 hkd
            go_wp2_with fail
            refine (HP.out _).mono ?_; rintro e w' ⟨rfl, rfl⟩
            go_wp2_with fail
            refine (HQ.out _).mono ?_; rintro e w' ⟨rfl, rfl⟩
            go_wp2_with fail
            go_roundw
            case rel => exact ⟨k + 1, by omega, by go_num, HN2, trivial⟩
            case measure => simp [intOf]; omega
      · have HN2 := Lib.hid (HN.out (by rw [HCH.out]; rfl))
        go_wp2_with fail
        refine (HP.out _).mono ?_; rintro e w' ⟨rfl, rfl⟩
        go_wp2_with fail
        go_roundw
        case rel => exact ⟨k + 1, by omega, by go_num, HN2, trivial⟩
        case measure => simp [intOf]; omega

end Go.Proofs.Ytiphipgheadakaa
