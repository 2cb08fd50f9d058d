/- Texts that can be seen (reference): within, printable, isUri; the reference's IsName of chapter 1. -/
import Derived.Test.YtikpemmfmkdndaaWord
namespace Go.Proofs.Ytikpemmfmkdndaa
set_option linter.unusedVariables false
set_option linter.unusedSimpArgs false
open Go.RowKit Go.Shelf Go.Deep

theorem rwithin6_any (n a b : Int) (w : World) :
    Calls Try.prog 46 #[.int .i64 n, .int .i64 a, .int .i64 b] w fun e w' => e = .returned (.bool (inB n a b)) ∧ w = w' := by
  by_cases h1 : a ≤ n
  · have d1 := decide_eq_true h1
    by_cases h2 : n ≤ b
    · have e : inB n a b = true := by simp [inB, h1, h2]
      rw [e]
      have d2 := decide_eq_true h2
      clear e
      go_enter Try.func46, Try.ntmps46
      go_wp2_with fail
      go_ret
      exact ⟨rfl, rfl⟩
    · have e : inB n a b = false := by simp [inB, h2]
      rw [e]
      have d2 := decide_eq_false h2
      clear e
      go_enter Try.func46, Try.ntmps46
      go_wp2_with fail
      go_ret
      exact ⟨rfl, rfl⟩
  · have e : inB n a b = false := by simp [inB, h1]
    rw [e]
    have d1 := decide_eq_false h1
    clear e
    go_enter Try.func46, Try.ntmps46
    go_wp2_with fail
    go_ret
    exact ⟨rfl, rfl⟩
set_option maxRecDepth 100000 in
set_option maxHeartbeats 4000000 in
theorem rprint32_any (s : ByteArray) (w : World) (hm : s.size ≤ maxLen) :
    Calls Try.prog 97 #[.string s, .int .u8 32] w fun e w' => e = .returned (.bool (printB 32 s)) ∧ w = w' := by
  have HB : Hid (∀ i, i < s.size → (decide (32 ≤ byteAt s i) && decide (byteAt s i ≤ 126)) = false → printB 32 s = false) := Lib.hid (fun i hi h => print_bad hi h)
  have HG : Hid ((∀ i, i < s.size → (decide (32 ≤ byteAt s i) && decide (byteAt s i ≤ 126)) = true) → printB 32 s = true) := Lib.hid (fun h => print_good h)
  have HY : Hid (∀ k (hk : k < s.size), byteAt s k = s[k].toNat) := Lib.hid (fun k hk => byteAt_get s k hk)
  obtain ⟨R, hR⟩ : ∃ R, printB 32 s = R := ⟨_, rfl⟩
  rw [hR] at HB HG ⊢
  unfold maxLen at hm
  clear hR
  go_enter Try.func97, Try.ntmps97
  go_wp2_with fail
  go_loopw [5] (fun v wr => ∃ k : Nat, k ≤ s.size ∧ v = .int .i64 k ∧ Hid (∀ i, i < k → (decide (32 ≤ byteAt s i) && decide (byteAt s i ≤ 126)) = true) ∧ w = wr) (fun v _ => s.size - (intOf v).toNat)
  case atStart => exact ⟨0, Nat.zero_le _, rfl, Lib.hid (fun i hi => by omega), rfl⟩
  case round =>
    obtain ⟨k, hk, rfl, HK, rfl⟩ := hrel
    by_cases hlt : k < s.size
    rotate_left
    · have e1 : R = true := HG.out (fun i hi => HK.out i (by omega))
      subst e1
      have hlt' : decide (k < s.size) = false := by simp only [decide_eq_false_iff_not]; exact hlt
      have hlt2 : decide ((k : Int) < (s.size : Int)) = false := by simp; omega
      clear hlt
      go_wp2_with fail
      go_ret
      exact ⟨rfl, rfl⟩
    · have hb := HY.out k hlt
      obtain ⟨c, hc⟩ : ∃ c, s[k].toNat = c := ⟨_, rfl⟩
      rw [hc] at hb
      have HBK : Hid ((decide (32 ≤ c) && decide (c ≤ 126)) = false → R = false) := Lib.hid (fun h => HB.out k hlt (by rw [hb]; exact h))
      have HN : Hid ((decide (32 ≤ c) && decide (c ≤ 126)) = true → ∀ i, i < k + 1 → (decide (32 ≤ byteAt s i) && decide (byteAt s i ≤ 126)) = true) := Lib.hid (fun h i hi => by
        by_cases e : i = k
        · subst e; rw [hb]; exact h
        · exact HK.out i (by omega))
      have hwI : IntKind.i64.wrap ((k : Int) + 1) = (k : Int) + 1 := IntWalk.i64_in _ ⟨by omega, by omega⟩
      clear hb
      by_cases h1 : c < 32
      · have t1 : decide ((c : Int) < 32) = true := by simp; omega
        have t2 : decide (c < 32) = true := by simp; omega
        have e1 : R = false := HBK.out (by rw [decide_eq_false (show ¬ 32 ≤ c by omega)]; rfl)
        subst e1
        clear h1
        go_wp2_with fail
        go_ret
        exact ⟨rfl, rfl⟩
      · have t1 : decide ((c : Int) < 32) = false := by simp; omega
        have t2 : decide (c < 32) = false := by simp; omega
        by_cases h3 : 126 < c
        · have t3 : decide ((126 : Int) < (c : Int)) = true := by simp; omega
          have t4 : decide (126 < c) = true := by simp; omega
          have e1 : R = false := HBK.out (by rw [decide_eq_false (show ¬ c ≤ 126 by omega), Bool.and_false])
          subst e1
          clear h1 h3
          go_wp2_with fail
          go_ret
          exact ⟨rfl, rfl⟩
        · have t3 : decide ((126 : Int) < (c : Int)) = false := by simp; omega
          have t4 : decide (126 < c) = false := by simp; omega
          have HN2 := Lib.hid (HN.out (by rw [decide_eq_true (show 32 ≤ c by omega), decide_eq_true (show c ≤ 126 by omega)]; rfl))
          clear h1 h3
          go_wp2_with fail
          go_roundw
          case rel => exact ⟨k + 1, by omega, by go_num, HN2, trivial⟩
          case measure => simp [intOf]; omega
set_option maxRecDepth 100000 in
set_option maxHeartbeats 4000000 in
theorem rprint33_any (s : ByteArray) (w : World) (hm : s.size ≤ maxLen) :
    Calls Try.prog 97 #[.string s, .int .u8 33] w fun e w' => e = .returned (.bool (printB 33 s)) ∧ w = w' := by
  have HB : Hid (∀ i, i < s.size → (decide (33 ≤ byteAt s i) && decide (byteAt s i ≤ 126)) = false → printB 33 s = false) := Lib.hid (fun i hi h => print_bad hi h)
  have HG : Hid ((∀ i, i < s.size → (decide (33 ≤ byteAt s i) && decide (byteAt s i ≤ 126)) = true) → printB 33 s = true) := Lib.hid (fun h => print_good h)
  have HY : Hid (∀ k (hk : k < s.size), byteAt s k = s[k].toNat) := Lib.hid (fun k hk => byteAt_get s k hk)
  obtain ⟨R, hR⟩ : ∃ R, printB 33 s = R := ⟨_, rfl⟩
  rw [hR] at HB HG ⊢
  unfold maxLen at hm
  clear hR
  go_enter Try.func97, Try.ntmps97
  go_wp2_with fail
  go_loopw [5] (fun v wr => ∃ k : Nat, k ≤ s.size ∧ v = .int .i64 k ∧ Hid (∀ i, i < k → (decide (33 ≤ byteAt s i) && decide (byteAt s i ≤ 126)) = true) ∧ w = wr) (fun v _ => s.size - (intOf v).toNat)
  case atStart => exact ⟨0, Nat.zero_le _, rfl, Lib.hid (fun i hi => by omega), rfl⟩
  case round =>
    obtain ⟨k, hk, rfl, HK, rfl⟩ := hrel
    by_cases hlt : k < s.size
    rotate_left
    · have e1 : R = true := HG.out (fun i hi => HK.out i (by omega))
      subst e1
      have hlt' : decide (k < s.size) = false := by simp only [decide_eq_false_iff_not]; exact hlt
      have hlt2 : decide ((k : Int) < (s.size : Int)) = false := by simp; omega
      clear hlt
      go_wp2_with fail
      go_ret
      exact ⟨rfl, rfl⟩
    · have hb := HY.out k hlt
      obtain ⟨c, hc⟩ : ∃ c, s[k].toNat = c := ⟨_, rfl⟩
      rw [hc] at hb
      have HBK : Hid ((decide (33 ≤ c) && decide (c ≤ 126)) = false → R = false) := Lib.hid (fun h => HB.out k hlt (by rw [hb]; exact h))
      have HN : Hid ((decide (33 ≤ c) && decide (c ≤ 126)) = true → ∀ i, i < k + 1 → (decide (33 ≤ byteAt s i) && decide (byteAt s i ≤ 126)) = true) := Lib.hid (fun h i hi => by
        by_cases e : i = k
        · subst e; rw [hb]; exact h
        · exact HK.out i (by omega))
      have hwI : IntKind.i64.wrap ((k : Int) + 1) = (k : Int) + 1 := IntWalk.i64_in _ ⟨by omega, by omega⟩
      clear hb
      by_cases h1 : c < 33
      · have t1 : decide ((c : Int) < 33) = true := by simp; omega
        have t2 : decide (c < 33) = true := by simp; omega
        have e1 : R = false := HBK.out (by rw [decide_eq_false (show ¬ 33 ≤ c by omega)]; rfl)
        subst e1
        clear h1
        go_wp2_with fail
        go_ret
        exact ⟨rfl, rfl⟩
      · have t1 : decide ((c : Int) < 33) = false := by simp; omega
        have t2 : decide (c < 33) = false := by simp; omega
        by_cases h3 : 126 < c
        · have t3 : decide ((126 : Int) < (c : Int)) = true := by simp; omega
          have t4 : decide (126 < c) = true := by simp; omega
          have e1 : R = false := HBK.out (by rw [decide_eq_false (show ¬ c ≤ 126 by omega), Bool.and_false])
          subst e1
          clear h1 h3
          go_wp2_with fail
          go_ret
          exact ⟨rfl, rfl⟩
        · have t3 : decide ((126 : Int) < (c : Int)) = false := by simp; omega
          have t4 : decide (126 < c) = false := by simp; omega
          have HN2 := Lib.hid (HN.out (by rw [decide_eq_true (show 33 ≤ c by omega), decide_eq_true (show c ≤ 126 by omega)]; rfl))
          clear h1 h3
          go_wp2_with fail
          go_roundw
          case rel => exact ⟨k + 1, by omega, by go_num, HN2, trivial⟩
          case measure => simp [intOf]; omega
theorem rUri_any (s : ByteArray) (w : World) (hm : s.size ≤ maxLen) :
    Calls Try.prog 94 #[.string s] w fun e w' => e = .returned (.bool (uriB s)) ∧ w = w' := by
  by_cases h0 : s.size = 0
  · have e1 : uriB s = false := by unfold uriB wordB; rw [decide_eq_false (show ¬ 0 < s.size by omega), Bool.and_false]; rfl
    have e2 : (s.toList == []) = true := by rw [sEmpty h0, ByteArray.toList_eq]; rfl
    have e3 : (s.toList != []) = false := by rw [bne, e2]; rfl
    rw [e1]
    clear h0 e1
    go_enter Try.func94, Try.ntmps94
    go_wp2_with fail
    go_ret
    exact ⟨rfl, rfl⟩
  · have e2 := sNe (s := s) (by omega)
    have e3 := sNe2 (s := s) (by omega)
    have hp : 0 < s.size := by omega
    by_cases hl : s.size ≤ 200
    · have hld : decide ((s.size : Int) ≤ 200) = true := by simp; omega
      have HP := Lib.hid (rprint33_any s w hm)
      cases hpb : printB 33 s
      · have e1 : uriB s = false := by unfold uriB wordB; rw [hpb]; rfl
        rw [e1]
        rw [hpb] at HP
        clear e1 hpb h0 hl
        go_enter Try.func94, Try.ntmps94
        go_wp2_with fail
        refine HP.out.mono ?_; rintro e w' ⟨rfl, rfl⟩
        go_wp2_with fail
        go_ret
        exact ⟨rfl, rfl⟩
      · have hb := byteAt_get s 0 hp
        obtain ⟨c, hc⟩ : ∃ c, s[0].toNat = c := ⟨_, rfl⟩
        rw [hc] at hb
        rw [hpb] at HP
        by_cases h35 : c = 35
        · have e1 : uriB s = false := by unfold uriB; rw [hb, h35]; simp
          rw [e1]
          subst h35
          clear e1 hpb h0 hl hb
          go_enter Try.func94, Try.ntmps94
          go_wp2_with fail
          refine HP.out.mono ?_; rintro e w' ⟨rfl, rfl⟩
          go_wp2_with fail
          go_ret
          exact ⟨rfl, rfl⟩
        · have e1 : uriB s = true := by unfold uriB wordB; rw [hpb, hb, decide_eq_true hl, decide_eq_true hp]; simp [h35]
          have c1 : ((c : Int) == 35) = false := by simp; omega
          have c2 : ((c : Int) != 35) = true := by simp; omega
          rw [e1]
          clear e1 hpb h0 hl hb h35
          go_enter Try.func94, Try.ntmps94
          go_wp2_with fail
          refine HP.out.mono ?_; rintro e w' ⟨rfl, rfl⟩
          go_wp2_with fail
          go_ret
          exact ⟨rfl, rfl⟩
    · have hld : decide ((s.size : Int) ≤ 200) = false := by simp; omega
      have e1 : uriB s = false := by unfold uriB; rw [decide_eq_false hl]; simp
      rw [e1]
      unfold maxLen at hm
      clear e1 h0 hl
      go_enter Try.func94, Try.ntmps94
      go_wp2_with fail
      go_ret
      exact ⟨rfl, rfl⟩
set_option maxRecDepth 100000 in
set_option maxHeartbeats 8000000 in
theorem rName1_any (s : ByteArray) (w : World) (hm : s.size ≤ maxLen) :
    Calls Try.prog 95 #[.string s] w fun e w' => e = .returned (.bool (nameB s)) ∧ w = w' := by
  have HB : Hid (∀ i, i < s.size → chOk i (s.data.toList.getD i 0).toNat = false → nameB s = false) := Lib.hid (fun i hi h => name_bad hi h)
  have HG : Hid ((∀ i, i < s.size → chOk i (s.data.toList.getD i 0).toNat = true) → nameB s = inB s.size 1 40) := Lib.hid name_good
  have HY : Hid (∀ k (hk : k < s.size), (s.data.toList.getD k 0).toNat = s[k].toNat) := Lib.hid (fun k hk => byte_get s k hk)
  obtain ⟨R, hR⟩ : ∃ R, nameB s = R := ⟨_, rfl⟩
  rw [hR] at HB HG ⊢
  unfold maxLen at hm
  clear hR
  go_enter Try.func95, Try.ntmps95
  go_wp2_with fail
  go_loopw [3] (fun v wr => ∃ k : Nat, k ≤ s.size ∧ v = .int .i64 k ∧ Hid (∀ i, i < k → chOk i (s.data.toList.getD i 0).toNat = true) ∧ w = wr) (fun v _ => s.size - (intOf v).toNat)
  case atStart => exact ⟨0, Nat.zero_le _, rfl, Lib.hid (fun i hi => by omega), rfl⟩
  case round =>
    obtain ⟨k, hk, rfl, HK, rfl⟩ := hrel
    by_cases hlt : k < s.size
    rotate_left
    · have hks : k = s.size := by omega
      have e := HG.out (fun i hi => HK.out i (by omega))
      have HR := Lib.hid e
      have hlt' : decide (k < s.size) = false := by simp only [decide_eq_false_iff_not]; exact hlt
      have hlt2 : decide ((k : Int) < (s.size : Int)) = false := by simp; omega
      clear hlt hks e
      by_cases h0 : s.size = 0
      · have e1 : R = false := by rw [HR.out, h0]; rfl
        have e2 : (s.toList == []) = true := by rw [sEmpty h0, ByteArray.toList_eq]; rfl
        have e3 : (s.toList != []) = false := by rw [bne, e2]; rfl
        subst e1
        clear h0
        go_wp2_with fail
        go_ret
        exact ⟨rfl, rfl⟩
      · have e2 := sNe (s := s) (by omega)
        have e3 := sNe2 (s := s) (by omega)
        by_cases h40 : s.size ≤ 40
        · have e1 : R = true := by rw [HR.out, inB_iff]; omega
          have hld : decide ((s.size : Int) ≤ 40) = true := by simp; omega
          subst e1
          clear h0 h40
          go_wp2_with fail
          go_ret
          exact ⟨rfl, rfl⟩
        · have e1 : R = false := by
            rw [HR.out]
            have : ¬ inB s.size 1 40 = true := by rw [inB_iff]; omega
            simpa using this
          have hld : decide ((s.size : Int) ≤ 40) = false := by simp; omega
          subst e1
          clear h0 h40
          go_wp2_with fail
          go_ret
          exact ⟨rfl, rfl⟩
    · have hb := HY.out k hlt
      obtain ⟨c, hc⟩ : ∃ c, s[k].toNat = c := ⟨_, rfl⟩
      rw [hc] at hb
      have HBK : Hid (chOk k c = false → R = false) := Lib.hid (fun h => HB.out k hlt (by rw [hb]; exact h))
      have HN : Hid (chOk k c = true → ∀ i, i < k + 1 → chOk i (s.data.toList.getD i 0).toNat = true) := Lib.hid (fun h i hi => by
        by_cases e : i = k
        · subst e; rw [hb]; exact h
        · exact HK.out i (by omega))
      have hwI : IntKind.i64.wrap ((k : Int) + 1) = (k : Int) + 1 := IntWalk.i64_in _ ⟨by omega, by omega⟩
      clear hb
      by_cases hk0 : k = 0
      · have i1 : ((k : Int) == 0) = true := by simp; omega
        have hcase : ((97 ≤ c ∧ c ≤ 122) ∨ (c < 97) ∨ (122 < c)) := by omega
        rcases hcase with hcs | hcs | hcs
        · have hkc : chOk k c = true := by unfold chOk; simp; omega
          have a1 : decide ((97 : Int) ≤ (c : Int)) = true := by simp; omega
          have a1n : decide (97 ≤ c) = true := by simp; omega
          have a2 : decide ((c : Int) ≤ 122) = true := by simp; omega
          have a2n : decide (c ≤ 122) = true := by simp; omega
          have HN2 := Lib.hid (HN.out hkc)
          clear hkc hcs hk0
          go_wp2_with fail
          go_roundw
          case rel => exact ⟨k + 1, by omega, by go_num, HN2, trivial⟩
          case measure => simp [intOf]; omega
        · have hkc : chOk k c = false := by unfold chOk; simp; omega
          have a1 : decide ((97 : Int) ≤ (c : Int)) = false := by simp; omega
          have a1n : decide (97 ≤ c) = false := by simp; omega
          have e1 : R = false := HBK.out hkc
          subst e1
          clear hkc hcs hk0
          go_wp2_with fail
          go_ret
          exact ⟨rfl, rfl⟩
        · have hkc : chOk k c = false := by unfold chOk; simp; omega
          have a1 : decide ((97 : Int) ≤ (c : Int)) = true := by simp; omega
          have a1n : decide (97 ≤ c) = true := by simp; omega
          have a2 : decide ((c : Int) ≤ 122) = false := by simp; omega
          have a2n : decide (c ≤ 122) = false := by simp; omega
          have e1 : R = false := HBK.out hkc
          subst e1
          clear hkc hcs hk0
          go_wp2_with fail
          go_ret
          exact ⟨rfl, rfl⟩
      · have i1 : ((k : Int) == 0) = false := by simp; omega
        have hcase : ((97 ≤ c ∧ c ≤ 122) ∨ (c = 45) ∨ (48 ≤ c ∧ c ≤ 57) ∨ (c < 48 ∧ c ≠ 45) ∨ (57 < c ∧ c < 97) ∨ (122 < c)) := by omega
        rcases hcase with hcs | hcs | hcs | hcs | hcs | hcs
        · have hkc : chOk k c = true := by unfold chOk; simp; omega
          have a1 : decide ((97 : Int) ≤ (c : Int)) = true := by simp; omega
          have a1n : decide (97 ≤ c) = true := by simp; omega
          have a2 : decide ((c : Int) ≤ 122) = true := by simp; omega
          have a2n : decide (c ≤ 122) = true := by simp; omega
          have HN2 := Lib.hid (HN.out hkc)
          clear hkc hcs hk0
          go_wp2_with fail
          go_roundw
          case rel => exact ⟨k + 1, by omega, by go_num, HN2, trivial⟩
          case measure => simp [intOf]; omega
        · have hkc : chOk k c = true := by unfold chOk; simp; omega
          have a1 : decide ((97 : Int) ≤ (c : Int)) = false := by simp; omega
          have a1n : decide (97 ≤ c) = false := by simp; omega
          have a3 : ((c : Int) == 45) = true := by simp; omega
          have a4 : ((c : Int) != 45) = false := by simp; omega
          have HN2 := Lib.hid (HN.out hkc)
          clear hkc hcs hk0
          go_wp2_with fail
          go_roundw
          case rel => exact ⟨k + 1, by omega, by go_num, HN2, trivial⟩
          case measure => simp [intOf]; omega
        · have hkc : chOk k c = true := by unfold chOk; simp; omega
          have a1 : decide ((97 : Int) ≤ (c : Int)) = false := by simp; omega
          have a1n : decide (97 ≤ c) = false := by simp; omega
          have a3 : ((c : Int) == 45) = false := by simp; omega
          have a4 : ((c : Int) != 45) = true := by simp; omega
          have a5 : decide ((48 : Int) ≤ (c : Int)) = true := by simp; omega
          have a5n : decide (48 ≤ c) = true := by simp; omega
          have a6 : decide ((c : Int) ≤ 57) = true := by simp; omega
          have a6n : decide (c ≤ 57) = true := by simp; omega
          have HN2 := Lib.hid (HN.out hkc)
          clear hkc hcs hk0
          go_wp2_with fail
          go_roundw
          case rel => exact ⟨k + 1, by omega, by go_num, HN2, trivial⟩
          case measure => simp [intOf]; omega
        · have hkc : chOk k c = false := by unfold chOk; simp; omega
          have a1 : decide ((97 : Int) ≤ (c : Int)) = false := by simp; omega
          have a1n : decide (97 ≤ c) = false := by simp; omega
          have a3 : ((c : Int) == 45) = false := by simp; omega
          have a4 : ((c : Int) != 45) = true := by simp; omega
          have a5 : decide ((48 : Int) ≤ (c : Int)) = false := by simp; omega
          have a5n : decide (48 ≤ c) = false := by simp; omega
          have e1 : R = false := HBK.out hkc
          subst e1
          clear hkc hcs hk0
          go_wp2_with fail
          go_ret
          exact ⟨rfl, rfl⟩
        · have hkc : chOk k c = false := by unfold chOk; simp; omega
          have a1 : decide ((97 : Int) ≤ (c : Int)) = false := by simp; omega
          have a1n : decide (97 ≤ c) = false := by simp; omega
          have a3 : ((c : Int) == 45) = false := by simp; omega
          have a4 : ((c : Int) != 45) = true := by simp; omega
          have a5 : decide ((48 : Int) ≤ (c : Int)) = true := by simp; omega
          have a5n : decide (48 ≤ c) = true := by simp; omega
          have a6 : decide ((c : Int) ≤ 57) = false := by simp; omega
          have a6n : decide (c ≤ 57) = false := by simp; omega
          have e1 : R = false := HBK.out hkc
          subst e1
          clear hkc hcs hk0
          go_wp2_with fail
          go_ret
          exact ⟨rfl, rfl⟩
        · have hkc : chOk k c = false := by unfold chOk; simp; omega
          have a1 : decide ((97 : Int) ≤ (c : Int)) = true := by simp; omega
          have a1n : decide (97 ≤ c) = true := by simp; omega
          have a2 : decide ((c : Int) ≤ 122) = false := by simp; omega
          have a2n : decide (c ≤ 122) = false := by simp; omega
          have a3 : ((c : Int) == 45) = false := by simp; omega
          have a4 : ((c : Int) != 45) = true := by simp; omega
          have a5 : decide ((48 : Int) ≤ (c : Int)) = true := by simp; omega
          have a5n : decide (48 ≤ c) = true := by simp; omega
          have a6 : decide ((c : Int) ≤ 57) = false := by simp; omega
          have a6n : decide (c ≤ 57) = false := by simp; omega
          have e1 : R = false := HBK.out hkc
          subst e1
          clear hkc hcs hk0
          go_wp2_with fail
          go_ret
          exact ⟨rfl, rfl⟩

end Go.Proofs.Ytikpemmfmkdndaa
