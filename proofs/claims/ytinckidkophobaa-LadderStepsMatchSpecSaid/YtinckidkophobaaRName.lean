/- The reference's isName. -/
import Derived.Test.YtinckidkophobaaName
namespace Go.Proofs.Ytinckidkophobaa
set_option linter.unusedVariables false
set_option linter.unusedSimpArgs false
open Go.RowKit Go.Deep

theorem name_len0 {s : ByteArray} (h : s.size = 0) : nameB s = false := by unfold nameB; rw [h]; rfl
theorem name_long {s : ByteArray} (h : 40 < s.size) : nameB s = false := by
  unfold nameB
  have : inB s.size 1 40 = false := by simp [inB]; omega
  rw [this, Bool.and_false]
theorem inB_name {n : Nat} (h : 0 < n) (h2 : n ≤ 40) : inB n 1 40 = true := by rw [inB_iff]; omega
theorem rname_empty (s : ByteArray) (w : World) (h : s.size = 0) : Calls Try.prog 56 #[.string s] w fun e w' => e = .returned (.bool false) ∧ w = w' := by
  have e : s = ⟨#[]⟩ := by
    cases s with
    | mk d => have : d = #[] := Array.size_eq_zero_iff.1 h; rw [this]
  subst e
  go_enter Try.func56, Try.ntmps56
  go_wp2_with fail
  go_ret
  exact ⟨rfl, rfl⟩
theorem toList_ne {s : ByteArray} (h : 0 < s.size) : s.toList.isEmpty = false := by
  rw [List.isEmpty_eq_false_iff]
  intro e
  have := congrArg List.length e
  rw [ByteArray.toList_eq, Array.length_toList] at this
  have h2 : s.data.size = s.size := rfl
  simp only [List.length_nil] at this
  omega
theorem rname_long (s : ByteArray) (w : World) (h : 40 < s.size) (hm : s.size ≤ 9223372036854775807) : Calls Try.prog 56 #[.string s] w fun e w' => e = .returned (.bool false) ∧ w = w' := by
  have e1 := toList_ne (s := s) (by omega)
  have e2 : s.toList ≠ [] := by intro h2; rw [h2] at e1; simp at e1
  have e3 : (s.toList == []) = false := by cases h3 : s.toList with | nil => exact absurd h3 e2 | cons a l => rfl
  have e4 : decide ((40 : Int) < (s.size : Int)) = true := by simp; omega
  go_enter Try.func56, Try.ntmps56
  go_wp2_with fail
  go_ret
  exact ⟨rfl, rfl⟩
theorem rname_first (s : ByteArray) (w : World) (h0 : 0 < s.size) (h : s.size ≤ 40) (hc : s[0].toNat < 97 ∨ 122 < s[0].toNat) : Calls Try.prog 56 #[.string s] w fun e w' => e = .returned (.bool false) ∧ w = w' := by
  have e1 := toList_ne h0
  have e2 : s.toList ≠ [] := by intro h2; rw [h2] at e1; simp at e1
  have e3 : (s.toList == []) = false := by cases h3 : s.toList with | nil => exact absurd h3 e2 | cons a l => rfl
  have e4 : decide ((40 : Int) < (s.size : Int)) = false := by simp; omega
  rcases hc with hc | hc
  · go_enter Try.func56, Try.ntmps56
    go_wp2_with fail
    go_ret
    exact ⟨rfl, rfl⟩
  · have e5 : decide ((s[0].toNat : Int) < 97) = false := by simp; omega
    go_enter Try.func56, Try.ntmps56
    go_wp2_with fail
    go_ret
    exact ⟨rfl, rfl⟩
set_option maxRecDepth 100000 in
set_option maxHeartbeats 4000000 in
theorem rname_walk (s : ByteArray) (w : World) (h0 : 0 < s.size) (h : s.size ≤ 40) (hc1 : 97 ≤ s[0].toNat) (hc2 : s[0].toNat ≤ 122) : Calls Try.prog 56 #[.string s] w fun e w' => e = .returned (.bool (nameB s)) ∧ w = w' := by
  have e1 := toList_ne h0
  have e2 : s.toList ≠ [] := by intro h2; rw [h2] at e1; simp at e1
  have e3 : (s.toList == []) = false := by cases h3 : s.toList with | nil => exact absurd h3 e2 | cons a l => rfl
  have e4 : decide ((40 : Int) < (s.size : Int)) = false := by simp; omega
  have e5 : decide ((s[0].toNat : Int) < 97) = false := by simp; omega
  have e6 : decide ((122 : Int) < (s[0].toNat : Int)) = false := by simp; omega
  have HB : Hid (∀ i, i < s.size → chOk i (s.data.toList.getD i 0).toNat = false → nameB s = false) := Lib.hid (fun i hi h => name_bad hi h)
  have HG : Hid ((∀ i, i < s.size → chOk i (s.data.toList.getD i 0).toNat = true) → nameB s = true) := Lib.hid (fun h2 => (name_good h2).trans (inB_name h0 h))
  have HY : Hid (∀ k (hk : k < s.size), (s.data.toList.getD k 0).toNat = s[k].toNat) := Lib.hid (fun k hk => byte_get s k hk)
  have HF : Hid (∀ k (hk : k < s.size), k = 0 → 97 ≤ s[k].toNat ∧ s[k].toNat ≤ 122) := Lib.hid (fun k hk e => by subst e; exact ⟨hc1, hc2⟩)
  obtain ⟨R, hR⟩ : ∃ R, nameB s = R := ⟨_, rfl⟩
  rw [hR] at HB HG ⊢
  clear hR
  go_enter Try.func56, Try.ntmps56
  go_wp2_with fail
  clear e1 e2 e3 e4 e5 e6 hc1 hc2
  go_loopw [3, 4, 24] (fun _ _ v wr => ∃ k : Nat, k ≤ s.size ∧ v = .int .i64 k ∧ Hid (∀ i, i < k → chOk i (s.data.toList.getD i 0).toNat = true) ∧ w = wr) (fun _ _ v _ => s.size - (intOf v).toNat)
  case atStart => exact ⟨0, Nat.zero_le _, rfl, Lib.hid (fun i hi => by omega), rfl⟩
  case round =>
    obtain ⟨k, hk, rfl, HK, rfl⟩ := hrel
    by_cases hlt : k < s.size
    rotate_left
    · have hks : k = s.size := by omega
      have e : R = true := HG.out (fun i hi => HK.out i (by omega))
      subst e
      have hlt' : decide (k < s.size) = false := by simp only [decide_eq_false_iff_not]; exact hlt
      clear hlt hks
      go_wp2_with fail
      go_ret
      exact ⟨rfl, rfl⟩
    · have hb := HY.out k hlt
      have hf := HF.out k hlt
      obtain ⟨c, hc⟩ : ∃ c, s[k].toNat = c := ⟨_, rfl⟩
      rw [hc] at hb hf
      have HBK : Hid (chOk k c = false → R = false) := Lib.hid (fun h => HB.out k hlt (by rw [hb]; exact h))
      have HN : Hid (chOk k c = true → ∀ i, i < k + 1 → chOk i (s.data.toList.getD i 0).toNat = true) := Lib.hid (fun h i hi => by
        by_cases e : i = k
        · subst e; rw [hb]; exact h
        · exact HK.out i (by omega))
      have HF2 := Lib.hid hf
      have hwI : IntKind.i64.wrap ((k : Int) + 1) = (k : Int) + 1 := IntWalk.i64_in _ ⟨by omega, by omega⟩
      clear hb hf
      have hcase : ((c < 48 ∧ c ≠ 45) ∨ (c = 45) ∨ (48 ≤ c ∧ c ≤ 57) ∨ (57 < c ∧ c < 97) ∨ (97 ≤ c ∧ c ≤ 122) ∨ (122 < c)) := by omega
      rcases hcase with hcs | hcs | hcs | hcs | hcs | hcs
      · have hkc : chOk k c = false := by
          unfold chOk
          simp; omega
        have ta : decide ((c : Int) < 97) = true := by simp; omega
        have tn : decide ((c : Int) < 48) = true := by simp; omega
        have tz : decide ((122 : Int) < (c : Int)) = false := by simp; omega
        have t45 : ((c : Int) != 45) = true := by simp; omega
        have t45b : ((c : Int) == 45) = false := by simp; omega
        have e : R = false := HBK.out hkc
        subst e
        clear hkc hcs
        go_wp2_with fail
        go_ret
        exact ⟨rfl, rfl⟩
      · have hkc : chOk k c = true := by
          unfold chOk
          have : 0 < k := by
            rcases Nat.eq_zero_or_pos k with e | e
            · have := HF2.out e; omega
            · exact e
          simp; omega
        have ta : decide ((c : Int) < 97) = true := by simp; omega
        have tn : decide ((c : Int) < 48) = true := by simp; omega
        have tz : decide ((122 : Int) < (c : Int)) = false := by simp; omega
        have t45 : ((c : Int) != 45) = false := by simp; omega
        have t45b : ((c : Int) == 45) = true := by simp; omega
        have HN2 := Lib.hid (HN.out hkc)
        clear hkc hcs
        go_wp2_with fail
        go_roundw
        case rel => exact ⟨k + 1, by omega, by go_num, HN2, trivial⟩
        case measure => simp [intOf]; omega
      · have hkc : chOk k c = true := by
          unfold chOk
          have : 0 < k := by
            rcases Nat.eq_zero_or_pos k with e | e
            · have := HF2.out e; omega
            · exact e
          simp; omega
        have ta : decide ((c : Int) < 97) = true := by simp; omega
        have tn : decide ((c : Int) < 48) = false := by simp; omega
        have tm : decide ((57 : Int) < (c : Int)) = false := by simp; omega
        have tz : decide ((122 : Int) < (c : Int)) = false := by simp; omega
        have HN2 := Lib.hid (HN.out hkc)
        clear hkc hcs
        go_wp2_with fail
        go_roundw
        case rel => exact ⟨k + 1, by omega, by go_num, HN2, trivial⟩
        case measure => simp [intOf]; omega
      · have hkc : chOk k c = false := by
          unfold chOk
          simp; omega
        have ta : decide ((c : Int) < 97) = true := by simp; omega
        have tn : decide ((c : Int) < 48) = false := by simp; omega
        have tm : decide ((57 : Int) < (c : Int)) = true := by simp; omega
        have tz : decide ((122 : Int) < (c : Int)) = false := by simp; omega
        have t45 : ((c : Int) != 45) = true := by simp; omega
        have t45b : ((c : Int) == 45) = false := by simp; omega
        have e : R = false := HBK.out hkc
        subst e
        clear hkc hcs
        go_wp2_with fail
        go_ret
        exact ⟨rfl, rfl⟩
      · have hkc : chOk k c = true := by
          unfold chOk
          simp; omega
        have ta : decide ((c : Int) < 97) = false := by simp; omega
        have tz : decide ((122 : Int) < (c : Int)) = false := by simp; omega
        have HN2 := Lib.hid (HN.out hkc)
        clear hkc hcs
        go_wp2_with fail
        go_roundw
        case rel => exact ⟨k + 1, by omega, by go_num, HN2, trivial⟩
        case measure => simp [intOf]; omega
      · have hkc : chOk k c = false := by
          unfold chOk
          simp; omega
        have ta : decide ((c : Int) < 97) = false := by simp; omega
        have tz : decide ((122 : Int) < (c : Int)) = true := by simp; omega
        have tn : decide ((c : Int) < 48) = false := by simp; omega
        have tm : decide ((57 : Int) < (c : Int)) = true := by simp; omega
        have t45 : ((c : Int) != 45) = true := by simp; omega
        have t45b : ((c : Int) == 45) = false := by simp; omega
        have e : R = false := HBK.out hkc
        subst e
        clear hkc hcs
        go_wp2_with fail
        go_ret
        exact ⟨rfl, rfl⟩
theorem risName_any (s : ByteArray) (w : World) (hm : s.size ≤ maxLen) :
    Calls Try.prog 56 #[.string s] w fun e w' => e = .returned (.bool (nameB s)) ∧ w = w' := by
  unfold maxLen at hm
  by_cases h0 : s.size = 0
  · rw [name_len0 h0]; exact rname_empty s w h0
  · by_cases h1 : 40 < s.size
    · rw [name_long h1]; exact rname_long s w h1 (by omega)
    · by_cases h2 : 97 ≤ s[0].toNat ∧ s[0].toNat ≤ 122
      · exact rname_walk s w (by omega) (by omega) h2.1 h2.2
      · have hb : nameB s = false := name_bad (i := 0) (by omega) (by
          rw [byte_get s 0 (by omega)]
          unfold chOk
          simp
          omega)
        rw [hb]
        exact rname_first s w (by omega) (by omega) (by omega)

end Go.Proofs.Ytinckidkophobaa
