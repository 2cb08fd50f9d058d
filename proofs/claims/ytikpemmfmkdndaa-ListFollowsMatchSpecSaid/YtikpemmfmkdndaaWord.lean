/- Texts that can be seen: IsWord, isPlain, isUri, isFurther (program). -/
import Derived.Test.YtikpemmfmkdndaaName
import Derived.Test.YtikpemmfmkdndaaEntPlain
import Derived.Test.YtikpemmfmkdndaaStill
import Derived.Test.YtikpemmfmkdndaaShelf
import Derived.Lib.Strings
namespace Go.Proofs.Ytikpemmfmkdndaa
set_option linter.unusedVariables false
set_option linter.unusedSimpArgs false
open Go.RowKit Go.Shelf Go.Deep

theorem byteAt_get (s : ByteArray) (k : Nat) (hk : k < s.size) : byteAt s k = s[k].toNat := byte_get s k hk
theorem print_bad {lo : Nat} {s : ByteArray} {i : Nat} (hi : i < s.size) (h : (decide (lo ≤ byteAt s i) && decide (byteAt s i ≤ 126)) = false) : printB lo s = false := by
  unfold printB
  rw [List.all_eq_false]
  exact ⟨i, by simpa using hi, by rw [h]; exact Bool.false_ne_true⟩
theorem print_good {lo : Nat} {s : ByteArray} (h : ∀ i, i < s.size → (decide (lo ≤ byteAt s i) && decide (byteAt s i ≤ 126)) = true) : printB lo s = true := by
  unfold printB
  rw [List.all_eq_true]
  intro i hi
  exact h i (by simpa using hi)
theorem inB_nat (c lo : Nat) : inB (c : Int) (lo : Int) 126 = (decide (lo ≤ c) && decide (c ≤ 126)) := by
  unfold inB
  congr 1
  · exact decide_eq_decide.2 (by omega)
  · exact decide_eq_decide.2 (by omega)
theorem sEmpty {s : ByteArray} (h : s.size = 0) : s = ⟨#[]⟩ := by
  cases s with
  | mk d => have : d = #[] := Array.size_eq_zero_iff.1 h; rw [this]
theorem sNe {s : ByteArray} (h : 0 < s.size) : (s.toList == []) = false := by
  have e : s.toList ≠ [] := by
    intro e
    have := congrArg List.length e
    rw [ByteArray.toList_eq, Array.length_toList] at this
    have h2 : s.data.size = s.size := rfl
    simp only [List.length_nil] at this
    omega
  cases h3 : s.toList with
  | nil => exact absurd h3 e
  | cons a l => rfl
theorem sNe2 {s : ByteArray} (h : 0 < s.size) : (s.toList != []) = true := by rw [bne, sNe h]; rfl
set_option maxRecDepth 100000 in
set_option maxHeartbeats 4000000 in
theorem isWord_any (s : ByteArray) (w : World) (hm : s.size ≤ maxLen) :
    Calls Try.prog 106 #[.string s] w fun e w' => e = .returned (.bool (wordB s)) ∧ w = w' := by
  have HB : Hid (∀ i, i < s.size → (decide (33 ≤ byteAt s i) && decide (byteAt s i ≤ 126)) = false → wordB s = false) := Lib.hid (fun i hi h => by unfold wordB; rw [print_bad hi h]; rfl)
  have HG : Hid ((∀ i, i < s.size → (decide (33 ≤ byteAt s i) && decide (byteAt s i ≤ 126)) = true) → wordB s = decide (0 < s.size)) := Lib.hid (fun h => by unfold wordB; rw [print_good h]; rfl)
  have HY : Hid (∀ k (hk : k < s.size), byteAt s k = s[k].toNat) := Lib.hid (fun k hk => byteAt_get s k hk)
  obtain ⟨R, hR⟩ : ∃ R, wordB s = R := ⟨_, rfl⟩
  rw [hR] at HB HG ⊢
  unfold maxLen at hm
  clear hR
  go_enter Try.func106, Try.ntmps106
  go_wp2_with fail
  go_loopw [6] (fun v wr => ∃ k : Nat, k ≤ s.size ∧ v = .int .i64 k ∧ Hid (∀ i, i < k → (decide (33 ≤ byteAt s i) && decide (byteAt s i ≤ 126)) = true) ∧ w = wr) (fun v _ => s.size - (intOf v).toNat)
  case atStart => exact ⟨0, Nat.zero_le _, rfl, Lib.hid (fun i hi => by omega), rfl⟩
  case round =>
    obtain ⟨k, hk, rfl, HK, rfl⟩ := hrel
    by_cases hlt : k < s.size
    rotate_left
    · have hks : k = s.size := by omega
      have HR := Lib.hid (HG.out (fun i hi => HK.out i (by omega)))
      have hlt' : decide (k < s.size) = false := by simp only [decide_eq_false_iff_not]; exact hlt
      have hlt2 : decide ((k : Int) < (s.size : Int)) = false := by simp; omega
      clear hlt hks
      by_cases h0 : s.size = 0
      · have e1 : R = false := by rw [HR.out, h0]; rfl
        have e2 : (s.toList == []) = true := by rw [sEmpty h0, ByteArray.toList_eq]; rfl
        have e3 : (s.toList != []) = false := by rw [bne, e2]; rfl
        subst e1
        clear h0
        go_wp2_with fail
        go_ret
        exact ⟨by first | rfl | (rw [e3]), rfl⟩
      · have e1 : R = true := by rw [HR.out]; exact decide_eq_true (by omega)
        have e2 := sNe (s := s) (by omega)
        have e3 := sNe2 (s := s) (by omega)
        subst e1
        clear h0
        go_wp2_with fail
        go_ret
        exact ⟨by first | rfl | (rw [e3]), rfl⟩
    · have hb := HY.out k hlt
      obtain ⟨c, hc⟩ : ∃ c, s[k].toNat = c := ⟨_, rfl⟩
      have hcl : c < 256 := by rw [← hc]; exact s[k].toNat_lt
      have hwc : IntKind.i64.wrap (c : Int) = (c : Int) := IntWalk.i64_in _ ⟨by omega, by omega⟩
      have hwc2 : wrap64 (c : Int) = (c : Int) := IntWalk.wrap64_in _ ⟨by omega, by omega⟩
      rw [hc] at hb
      have HBK : Hid ((decide (33 ≤ c) && decide (c ≤ 126)) = false → R = false) := Lib.hid (fun h => HB.out k hlt (by rw [hb]; exact h))
      have HN : Hid ((decide (33 ≤ c) && decide (c ≤ 126)) = true → ∀ i, i < k + 1 → (decide (33 ≤ byteAt s i) && decide (byteAt s i ≤ 126)) = true) := Lib.hid (fun h i hi => by
        by_cases e : i = k
        · subst e; rw [hb]; exact h
        · exact HK.out i (by omega))
      have hwI : IntKind.i64.wrap ((k : Int) + 1) = (k : Int) + 1 := IntWalk.i64_in _ ⟨by omega, by omega⟩
      have HI : Hid (inB (c : Int) 33 126 = (decide (33 ≤ c) && decide (c ≤ 126))) := Lib.hid (inB_nat c 33)
      obtain ⟨p, hp⟩ : ∃ p, (decide (33 ≤ c) && decide (c ≤ 126)) = p := ⟨_, rfl⟩
      rw [hp] at HBK HN HI
      clear hb hp hcl
      cases p
      · have e1 : R = false := HBK.out rfl
        subst e1
        go_wp2_with fail
        refine (bwithin_any _ _ _ _).mono ?_; rintro e w' ⟨rfl, rfl⟩
        first | rw [HI.out] | rw [hwc2, HI.out]
        go_wp2_with fail
        go_ret
        exact ⟨rfl, rfl⟩
      · have HN2 := Lib.hid (HN.out rfl)
        go_wp2_with fail
        refine (bwithin_any _ _ _ _).mono ?_; rintro e w' ⟨rfl, rfl⟩
        first | rw [HI.out] | rw [hwc2, HI.out]
        go_wp2_with fail
        go_roundw
        case rel => exact ⟨k + 1, by omega, by go_num, HN2, trivial⟩
        case measure => simp [intOf]; omega
set_option maxRecDepth 100000 in
set_option maxHeartbeats 4000000 in
theorem isPlain_any (s : ByteArray) (w : World) (hm : s.size ≤ maxLen) :
    Calls Try.prog 93 #[.string s] w fun e w' => e = .returned (.bool (printB 32 s)) ∧ w = w' := by
  have HB : Hid (∀ i, i < s.size → (decide (32 ≤ byteAt s i) && decide (byteAt s i ≤ 126)) = false → printB 32 s = false) := Lib.hid (fun i hi h => print_bad hi h)
  have HG : Hid ((∀ i, i < s.size → (decide (32 ≤ byteAt s i) && decide (byteAt s i ≤ 126)) = true) → printB 32 s = true) := Lib.hid (fun h => print_good h)
  have HY : Hid (∀ k (hk : k < s.size), byteAt s k = s[k].toNat) := Lib.hid (fun k hk => byteAt_get s k hk)
  obtain ⟨R, hR⟩ : ∃ R, printB 32 s = R := ⟨_, rfl⟩
  rw [hR] at HB HG ⊢
  unfold maxLen at hm
  clear hR
  go_enter Try.func93, Try.ntmps93
  go_wp2_with fail
  go_loopw [6] (fun v wr => ∃ k : Nat, k ≤ s.size ∧ v = .int .i64 k ∧ Hid (∀ i, i < k → (decide (32 ≤ byteAt s i) && decide (byteAt s i ≤ 126)) = true) ∧ w = wr) (fun v _ => s.size - (intOf v).toNat)
  case atStart => exact ⟨0, Nat.zero_le _, rfl, Lib.hid (fun i hi => by omega), rfl⟩
  case round =>
    obtain ⟨k, hk, rfl, HK, rfl⟩ := hrel
    by_cases hlt : k < s.size
    rotate_left
    · have hks : k = s.size := by omega
      have HR := Lib.hid (HG.out (fun i hi => HK.out i (by omega)))
      have hlt' : decide (k < s.size) = false := by simp only [decide_eq_false_iff_not]; exact hlt
      have hlt2 : decide ((k : Int) < (s.size : Int)) = false := by simp; omega
      clear hlt hks
      have e1 : R = true := HR.out
      subst e1
      go_wp2_with fail
      go_ret
      exact ⟨rfl, rfl⟩
    · have hb := HY.out k hlt
      obtain ⟨c, hc⟩ : ∃ c, s[k].toNat = c := ⟨_, rfl⟩
      have hcl : c < 256 := by rw [← hc]; exact s[k].toNat_lt
      have hwc : IntKind.i64.wrap (c : Int) = (c : Int) := IntWalk.i64_in _ ⟨by omega, by omega⟩
      have hwc2 : wrap64 (c : Int) = (c : Int) := IntWalk.wrap64_in _ ⟨by omega, by omega⟩
      rw [hc] at hb
      have HBK : Hid ((decide (32 ≤ c) && decide (c ≤ 126)) = false → R = false) := Lib.hid (fun h => HB.out k hlt (by rw [hb]; exact h))
      have HN : Hid ((decide (32 ≤ c) && decide (c ≤ 126)) = true → ∀ i, i < k + 1 → (decide (32 ≤ byteAt s i) && decide (byteAt s i ≤ 126)) = true) := Lib.hid (fun h i hi => by
        by_cases e : i = k
        · subst e; rw [hb]; exact h
        · exact HK.out i (by omega))
      have hwI : IntKind.i64.wrap ((k : Int) + 1) = (k : Int) + 1 := IntWalk.i64_in _ ⟨by omega, by omega⟩
      have HI : Hid (inB (c : Int) 32 126 = (decide (32 ≤ c) && decide (c ≤ 126))) := Lib.hid (inB_nat c 32)
      obtain ⟨p, hp⟩ : ∃ p, (decide (32 ≤ c) && decide (c ≤ 126)) = p := ⟨_, rfl⟩
      rw [hp] at HBK HN HI
      clear hb hp hcl
      cases p
      · have e1 : R = false := HBK.out rfl
        subst e1
        go_wp2_with fail
        refine (bwithin_any _ _ _ _).mono ?_; rintro e w' ⟨rfl, rfl⟩
        first | rw [HI.out] | rw [hwc2, HI.out]
        go_wp2_with fail
        go_ret
        exact ⟨rfl, rfl⟩
      · have HN2 := Lib.hid (HN.out rfl)
        go_wp2_with fail
        refine (bwithin_any _ _ _ _).mono ?_; rintro e w' ⟨rfl, rfl⟩
        first | rw [HI.out] | rw [hwc2, HI.out]
        go_wp2_with fail
        go_roundw
        case rel => exact ⟨k + 1, by omega, by go_num, HN2, trivial⟩
        case measure => simp [intOf]; omega
theorem isUri_any (s : ByteArray) (w : World) (hm : s.size ≤ maxLen) :
    Calls Try.prog 90 #[.string s] w fun e w' => e = .returned (.bool (uriB s)) ∧ w = w' := by
  have HW := Lib.hid (isWord_any s w hm)
  unfold maxLen at hm
  by_cases hw : wordB s = true
  · have hp : 0 < s.size := by
      have := hw
      unfold wordB at this
      simp only [Bool.and_eq_true, decide_eq_true_eq] at this
      exact this.2
    have hb := byteAt_get s 0 hp
    obtain ⟨c, hc⟩ : ∃ c, s[0].toNat = c := ⟨_, rfl⟩
    rw [hc] at hb
    by_cases hl : s.size ≤ 200
    · have hld : decide ((s.size : Int) ≤ 200) = true := by simp; omega
      by_cases h35 : c = 35
      · have e : uriB s = false := by unfold uriB; rw [hb, h35]; simp
        subst h35
        rw [e]
        rw [hw] at HW
        clear hw hb e hl
        go_enter Try.func90, Try.ntmps90
        go_wp2_with fail
        refine HW.out.mono ?_; rintro e w' ⟨rfl, rfl⟩
        go_wp2_with fail
        go_ret
        exact ⟨rfl, rfl⟩
      · have e : uriB s = true := by unfold uriB; rw [hw, hb, decide_eq_true hl]; simp [h35]
        have c1 : ((c : Int) == 35) = false := by simp; omega
        have c2 : ((c : Int) != 35) = true := by simp; omega
        rw [e]
        rw [hw] at HW
        clear hw hb e hl h35
        go_enter Try.func90, Try.ntmps90
        go_wp2_with fail
        refine HW.out.mono ?_; rintro e w' ⟨rfl, rfl⟩
        go_wp2_with fail
        go_ret
        exact ⟨rfl, rfl⟩
    · have hld : decide ((s.size : Int) ≤ 200) = false := by simp; omega
      have e : uriB s = false := by unfold uriB; rw [decide_eq_false hl]; simp
      rw [e]
      rw [hw] at HW
      clear hw hb e hl hc
      go_enter Try.func90, Try.ntmps90
      go_wp2_with fail
      refine HW.out.mono ?_; rintro e w' ⟨rfl, rfl⟩
      go_wp2_with fail
      go_ret
      exact ⟨rfl, rfl⟩
  · have hw2 : wordB s = false := by simpa using hw
    have e : uriB s = false := by unfold uriB; rw [hw2]; rfl
    rw [e]
    rw [hw2] at HW
    clear hw hw2 e
    go_enter Try.func90, Try.ntmps90
    go_wp2_with fail
    refine HW.out.mono ?_; rintro e w' ⟨rfl, rfl⟩
    go_wp2_with fail
    go_ret
    exact ⟨rfl, rfl⟩
theorem isFurther_any (s : ByteArray) (w : World) :
    Calls Try.prog 92 #[.string s] w fun e w' => e = .returned (.bool (furB s)) ∧ w = w' := by
  have HP := Lib.hid (Try.strings_HasPrefix s ⟨#[35, 88]⟩ w)
  have e : Lib.hasPrefix s.data.toList [35, 88] = furB s := rfl
  obtain ⟨R, hR⟩ : ∃ R, furB s = R := ⟨_, rfl⟩
  have HE : Hid (Lib.hasPrefix s.data.toList (⟨#[35, 88]⟩ : ByteArray).data.toList = R) := Lib.hid hR
  rw [HE.out] at HP
  rw [hR]
  clear hR e
  go_enter Try.func92, Try.ntmps92
  go_wp2_with fail
  refine HP.out.mono ?_; rintro e w' ⟨rfl, rfl⟩
  go_wp2_with fail
  go_ret
  exact ⟨rfl, rfl⟩

end Go.Proofs.Ytikpemmfmkdndaa
