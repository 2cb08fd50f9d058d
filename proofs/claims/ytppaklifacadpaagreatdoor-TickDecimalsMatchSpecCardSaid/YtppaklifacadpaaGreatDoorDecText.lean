/- Small functions on texts of decimals: CutPrefix, Cut, isNumber, isPart, power. -/
import Derived.Test.YtppaklifacadpaaGreatDoorText
import Derived.Test.YtppaklifacadpaaGreatDoorPad
import Derived.Test.YtppaklifacadpaaGreatDoorStr
namespace Go.Proofs.YtppaklifacadpaaGreatDoor
set_option linter.unusedVariables false
set_option linter.unusedSimpArgs false
open Go.RowKit

def takeD (l : List UInt8) : List UInt8 := l.takeWhile fun b => b != 46
def dropD (l : List UInt8) : List UInt8 := l.dropWhile fun b => b != 46
theorem split_dot (l : List UInt8) : takeD l ++ dropD l = l := List.takeWhile_append_dropWhile
theorem index_dot : ∀ (l : List UInt8), Lib.indexByte l 46 = if dropD l = [] then -1 else ((takeD l).length : Int)
  | [] => by simp [Lib.indexByte, dropD]
  | b :: l => by
    by_cases h : b = 46
    · subst h; simp [Lib.indexByte, dropD, takeD]
    · have ih := index_dot l
      have e1 : dropD (b :: l) = dropD l := by simp [dropD, List.dropWhile_cons, h]
      have e2 : takeD (b :: l) = b :: takeD l := by simp [takeD, List.takeWhile_cons, h]
      rw [Lib.indexByte, ih, e1, e2]
      have hb : (b == 46) = false := by simp [h]
      rw [hb]
      by_cases h2 : dropD l = []
      · simp [h2]
      · rw [if_neg h2, if_neg h2]
        have hne : (((takeD l).length : Int) == -1) = false := by simp
        rw [hne]
        simp

set_option maxHeartbeats 400000 in
theorem liteCut_yes (s : ByteArray) (r : List UInt8) (w : World) (hl : s.data.toList = 45 :: r) (hs : s.size ≤ 9223372036854775807) :
    Calls Tryz.prog 48 #[.string s, .string ⟨#[45]⟩] w fun e w' => (∃ R, e = .returned (.tuple #[.string R, .bool true]) ∧ R.data.toList = r) ∧ w = w' := by
  have hp : Lib.hasPrefix s.data.toList (⟨#[45]⟩ : ByteArray).data.toList = true := by rw [hl]; simp [Lib.hasPrefix]
  have hsz := size_list s _ hl
  simp at hsz
  have h1 : 1 ≤ s.size := by omega
  have hr : (s.extract 1 s.size).data.toList = r := by rw [sub_from s _ hl]; rfl
  have HP := Lib.hid hp; have HR := Lib.hid hr
  clear hp hr hl hsz
  go_enter Tryz.func48, Tryz.ntmps48
  go_wp2_with fail
  refine (Tryz.stringslite_HasPrefix _ _ _).mono ?_; rintro e w' ⟨rfl, rfl⟩
  rw [HP.out]
  go_wp2_with fail
  go_ret2
  exact ⟨⟨_, rfl, HR.out⟩, rfl⟩
theorem cutPrefix_yes (s : ByteArray) (r : List UInt8) (w : World) (hl : s.data.toList = 45 :: r) (hs : s.size ≤ 9223372036854775807) :
    Calls Tryz.prog 23 #[.string s, .string ⟨#[45]⟩] w fun e w' => (∃ R, e = .returned (.tuple #[.string R, .bool true]) ∧ R.data.toList = r) ∧ w = w' := by
  have HL := Lib.hid hl
  clear hl
  go_enter Tryz.func23, Tryz.ntmps23
  go_wp2_with fail
  refine (liteCut_yes _ _ _ HL.out hs).mono ?_; rintro e w' ⟨⟨R, rfl, hR⟩, rfl⟩
  have HR := Lib.hid hR
  clear hR
  go_wp2_with fail
  go_ret2
  exact ⟨⟨_, rfl, HR.out⟩, rfl⟩
theorem hasPrefix_no (l : List UInt8) (h : l.head? ≠ some 45) : Lib.hasPrefix l [45] = false := by
  cases l with
  | nil => rfl
  | cons b r =>
    simp at h
    simp [Lib.hasPrefix, List.isPrefixOf]
    exact fun hx => h hx.symm
theorem liteCut_no (s : ByteArray) (w : World) (h : s.data.toList.head? ≠ some 45) :
    Calls Tryz.prog 48 #[.string s, .string ⟨#[45]⟩] w fun e w' => e = .returned (.tuple #[.string s, .bool false]) ∧ w = w' := by
  have hp : Lib.hasPrefix s.data.toList (⟨#[45]⟩ : ByteArray).data.toList = false := hasPrefix_no _ h
  have HP := Lib.hid hp
  clear hp h
  go_enter Tryz.func48, Tryz.ntmps48
  go_wp2_with fail
  refine (Tryz.stringslite_HasPrefix _ _ _).mono ?_; rintro e w' ⟨rfl, rfl⟩
  rw [HP.out]
  go_wp2_with fail
  go_ret2
  exact ⟨rfl, rfl⟩
theorem cutPrefix_no (s : ByteArray) (w : World) (h : s.data.toList.head? ≠ some 45) :
    Calls Tryz.prog 23 #[.string s, .string ⟨#[45]⟩] w fun e w' => e = .returned (.tuple #[.string s, .bool false]) ∧ w = w' := by
  have HL := Lib.hid h
  clear h
  go_enter Tryz.func23, Tryz.ntmps23
  go_wp2_with fail
  refine (liteCut_no _ _ HL.out).mono ?_; rintro e w' ⟨rfl, rfl⟩
  go_wp2_with fail
  go_ret2
  exact ⟨rfl, rfl⟩

set_option maxHeartbeats 400000 in
theorem liteDot_yes (s : ByteArray) (l : List UInt8) (w : World) (hl : s.data.toList = l) (hd : dropD l ≠ []) (hs : s.size ≤ 9223372036854775807) :
    Calls Tryz.prog 49 #[.string s, .string ⟨#[46]⟩] w fun e w' => (∃ A B, e = .returned (.tuple #[.string A, .string B, .bool true]) ∧ A.data.toList = takeD l ∧ B.data.toList = (dropD l).tail) ∧ ∃ q, w' = w.drewN q := by
  have hi := index_dot l
  rw [if_neg hd] at hi
  have hsz := size_list s _ hl
  have hsp := split_dot l
  have hlen : (takeD l).length + (dropD l).length = l.length := by rw [← List.length_append, hsp]
  have hd0 := List.length_pos_iff.2 hd
  obtain ⟨k, hk⟩ : ∃ k, (takeD l).length = k := ⟨_, rfl⟩
  have hA : (s.extract 0 k).data.toList = takeD l := by
    rw [sub_upto s l hl, ← hk]
    have h := List.take_left (l₁ := takeD l) (l₂ := dropD l)
    rw [hsp] at h
    exact h
  have hB : (s.extract (k + 1) s.size).data.toList = (dropD l).tail := by
    rw [sub_from s l hl]
    have h : (takeD l ++ dropD l).drop (k + 1) = (dropD l).tail := by
      rw [List.drop_append, List.drop_of_length_le (by omega), List.nil_append, hk, show k + 1 - k = 1 by omega, List.drop_one]
    rw [hsp] at h
    exact h
  rw [hk] at hi hlen
  rw [← hl] at hi
  have hk1 : k + 1 ≤ s.size := by omega
  have HI := Lib.hid hi; have HA := Lib.hid hA; have HB := Lib.hid hB
  clear hi hA hB hl hd hsz hsp hlen hd0 hk
  go_enter Tryz.func49, Tryz.ntmps49
  go_wp2_with fail
  refine (Tryz.stringslite_Index_one _ _ _).mono ?_; rintro e w' ⟨rfl, rfl⟩
  rw [HI.out]
  have hwk : IntKind.i64.wrap ((k : Int) + 1) = ((k + 1 : Nat) : Int) := by rw [show (k : Int) + 1 = ((k + 1 : Nat) : Int) by omega]; exact IntWalk.i64_in _ ⟨by omega, by omega⟩
  have hk4 : (0 : Int) ≤ (k : Int) := by omega
  have hk6 : ((k : Int) + 1).toNat = k + 1 := by omega
  have hk7 : k ≤ s.size := by omega
  go_wp2_with fail
  go_quiet (fail)
  go_wp2_with fail
  go_ret3
  exact ⟨⟨_, _, rfl, HA.out, HB.out⟩, _, rfl⟩
theorem cutDot_yes (s : ByteArray) (l : List UInt8) (w : World) (hl : s.data.toList = l) (hd : dropD l ≠ []) (hs : s.size ≤ 9223372036854775807) :
    Calls Tryz.prog 24 #[.string s, .string ⟨#[46]⟩] w fun e w' => (∃ A B, e = .returned (.tuple #[.string A, .string B, .bool true]) ∧ A.data.toList = takeD l ∧ B.data.toList = (dropD l).tail) ∧ ∃ q, w' = w.drewN q := by
  have HL := Lib.hid hl; have HD := Lib.hid hd
  clear hl hd
  go_enter Tryz.func24, Tryz.ntmps24
  go_wp2_with fail
  refine (liteDot_yes _ _ _ HL.out HD.out hs).mono ?_; rintro e w' ⟨⟨A, B, rfl, hA, hB⟩, q, rfl⟩
  have HA := Lib.hid hA; have HB := Lib.hid hB
  clear hA hB
  go_wp2_with fail
  go_ret3
  exact ⟨⟨_, _, rfl, HA.out, HB.out⟩, _, rfl⟩
theorem liteDot_no (s : ByteArray) (w : World) (hd : dropD s.data.toList = []) :
    Calls Tryz.prog 49 #[.string s, .string ⟨#[46]⟩] w fun e w' => e = .returned (.tuple #[.string s, .string ⟨#[]⟩, .bool false]) ∧ w = w' := by
  have hi := index_dot s.data.toList
  rw [if_pos hd] at hi
  have HI := Lib.hid hi
  clear hi hd
  go_enter Tryz.func49, Tryz.ntmps49
  go_wp2_with fail
  refine (Tryz.stringslite_Index_one _ _ _).mono ?_; rintro e w' ⟨rfl, rfl⟩
  rw [HI.out]
  go_wp2_with fail
  go_ret3
  exact ⟨rfl, rfl⟩
theorem cutDot_no (s : ByteArray) (w : World) (hd : dropD s.data.toList = []) :
    Calls Tryz.prog 24 #[.string s, .string ⟨#[46]⟩] w fun e w' => e = .returned (.tuple #[.string s, .string ⟨#[]⟩, .bool false]) ∧ w = w' := by
  have HD := Lib.hid hd
  clear hd
  go_enter Tryz.func24, Tryz.ntmps24
  go_wp2_with fail
  refine (liteDot_no _ _ HD.out).mono ?_; rintro e w' ⟨rfl, rfl⟩
  go_wp2_with fail
  go_ret3
  exact ⟨rfl, rfl⟩

/-- Digits without a needless 0. -/
def NumOk (l : List UInt8) : Prop := allDig l = true ∧ (l = [48] ∨ l.head? ≠ some 48)
theorem isNumber_any (s : ByteArray) (w : World) (A : Prop) [Decidable A] (hl : s.size ≤ 1000000) (hA : A ↔ NumOk s.data.toList) :
    Calls Tryz.prog 25 #[.string s] w fun e w' => e = .returned (.bool (decide A)) ∧ ∃ q, w' = w.drewN q := by
  obtain ⟨l, hll⟩ : ∃ l, s.data.toList = l := ⟨_, rfl⟩
  have hsz := size_list s l hll
  have htl : s.toList = l := by rw [ByteArray.toList_eq, hll]
  rw [hll] at hA
  cases hd : allDig l
  · have hno : decide A = false := by
      simp only [decide_eq_false_iff_not]; rw [hA]
      intro hx; rw [hx.1] at hd; simp at hd
    have HNO := Lib.hid hno; have HD := Lib.hid (show allDig s.data.toList = false by rw [hll]; exact hd)
    clear hno hd hA hll hsz htl
    go_enter Tryz.func25, Tryz.ntmps25
    go_wp2_with fail
    refine (isDigits_any _ _ hl).mono ?_; rintro e w' ⟨rfl, rfl⟩
    rw [HD.out]
    go_wp2_with fail
    go_ret
    exact ⟨ret_bool HNO.out.symm, 0, rfl⟩
  · have hne := ((allDig_iff l).1 hd).2
    cases l with
    | nil => exact absurd rfl hne
    | cons b r =>
      have h0 : 0 < s.size := by rw [hsz]; simp
      have hb : s[0].toNat = b.toNat := by
        have := byte_at s _ hll 0 h0 (by simp)
        simpa using this.symm
      obtain ⟨c, hc⟩ : ∃ c, s[0].toNat = c := ⟨_, rfl⟩
      rw [hc] at hb
      have HD := Lib.hid (show allDig s.data.toList = true by rw [hll]; exact hd)
      by_cases h48 : (b :: r) = [48]
      · have hyes : decide A = true := by simp only [decide_eq_true_eq]; rw [hA]; exact ⟨hd, .inl h48⟩
        have heq : (s.toList == [48]) = true := by
          rw [htl, h48]; rfl
        have HY := Lib.hid hyes
        clear hyes hd hA hll hsz hne htl
        go_enter Tryz.func25, Tryz.ntmps25
        go_wp2_with fail
        refine (isDigits_any _ _ hl).mono ?_; rintro e w' ⟨rfl, rfl⟩
        rw [HD.out]
        go_wp2_with fail
        go_ret
        exact ⟨ret_bool HY.out.symm, 0, rfl⟩
      · have heq : (s.toList == [48]) = false := by
          rw [htl, beq_eq_false_iff_ne]; exact h48
        have hv : decide A = ((c : Int) != 48) := by
          rw [Bool.eq_iff_iff, decide_eq_true_eq, hA, bne_iff_ne]
          constructor
          · rintro ⟨-, hx | hx⟩
            · exact absurd hx h48
            · simp at hx
              intro hcc
              exact hx (UInt8.toNat.inj (show b.toNat = 48 by omega))
          · intro hx
            refine ⟨hd, .inr ?_⟩
            simp
            intro hcc
            subst hcc
            exact hx (by rw [hb]; rfl)
        have HV := Lib.hid hv
        clear hv hd hA hll hsz hne h48 hb htl
        go_enter Tryz.func25, Tryz.ntmps25
        go_wp2_with fail
        refine (isDigits_any _ _ hl).mono ?_; rintro e w' ⟨rfl, rfl⟩
        rw [HD.out]
        go_wp2_with fail
        go_ret
        exact ⟨ret_bool HV.out.symm, 0, rfl⟩

theorem isPart_any (s : ByteArray) (w : World) (A : Prop) [Decidable A] (hl : s.size ≤ 1000000) (hA : A ↔ (allDig s.data.toList = true ∧ s.data.toList.length ≤ 9)) :
    Calls Tryz.prog 26 #[.string s] w fun e w' => e = .returned (.bool (decide A)) ∧ ∃ q, w' = w.drewN q := by
  have hsz := size_list s _ rfl
  rw [← hsz] at hA
  cases hd : allDig s.data.toList
  · have hno : decide A = false := by
      simp only [decide_eq_false_iff_not]; rw [hA]
      intro hx; rw [hx.1] at hd; simp at hd
    have HNO := Lib.hid hno; have HD := Lib.hid hd
    clear hno hd hA hsz
    go_enter Tryz.func26, Tryz.ntmps26
    go_wp2_with fail
    refine (isDigits_any _ _ hl).mono ?_; rintro e w' ⟨rfl, rfl⟩
    rw [HD.out]
    go_wp2_with fail
    go_ret
    exact ⟨ret_bool HNO.out.symm, 0, rfl⟩
  · have hv : decide A = decide ((s.size : Int) ≤ 9) := by
      rw [Bool.eq_iff_iff, decide_eq_true_eq, hA, hd, decide_eq_true_eq]
      simp; omega
    have HV := Lib.hid hv; have HD := Lib.hid hd
    clear hv hd hA hsz
    go_enter Tryz.func26, Tryz.ntmps26
    go_wp2_with fail
    refine (isDigits_any _ _ hl).mono ?_; rintro e w' ⟨rfl, rfl⟩
    rw [HD.out]
    go_wp2_with fail
    go_ret
    exact ⟨ret_bool (by rw [HV.out]), 0, rfl⟩

theorem pow_step (k : Nat) : ((10 ^ (k + 1) : Nat) : Int) = ((10 ^ k : Nat) : Int) * 10 := by rw [Nat.pow_succ]; omega
theorem pow9 (k : Nat) (h : k ≤ 9) : 1 ≤ ((10 ^ k : Nat) : Int) ∧ ((10 ^ k : Nat) : Int) ≤ 1000000000 := by
  have h1 := Nat.pow_le_pow_right (show 1 ≤ 10 by omega) h
  have h2 : 0 < 10 ^ k := Nat.pow_pos (by omega)
  omega
set_option maxHeartbeats 400000 in
theorem power_any (k : Nat) (w : World) (hk : k ≤ 9) :
    Calls Tryz.prog 12 #[.int .i64 k] w fun e w' => e = .returned (.int .i64 ((10 ^ k : Nat) : Int)) ∧ w = w' := by
  go_enter Tryz.func12, Tryz.ntmps12
  go_wp2_with fail
  go_loopw [3, 5] (fun vn vi wr => ∃ (j : Nat) (N : Int), j ≤ k ∧ vn = .int .i64 N ∧ vi = .int .i64 j ∧ 1 ≤ N ∧ N ≤ 1000000000 ∧ Hid (N = ((10 ^ j : Nat) : Int)) ∧ w = wr) (fun _ vi _ => k - (intOf vi).toNat)
  case atStart => exact ⟨0, 1, Nat.zero_le _, rfl, rfl, by omega, by omega, Lib.hid rfl, rfl⟩
  case round =>
    obtain ⟨j, N, hj, rfl, rfl, n0, n1, HN, rfl⟩ := hrel
    by_cases hlt : j < k
    · have hb := pow9 (j + 1) (by omega)
      have hst := pow_step j
      rw [← HN.out] at hst
      rw [hst] at hb
      obtain ⟨b0, b1⟩ := hb
      have HST := Lib.hid hst
      clear hst
      go_wp2_with fail
      go_roundw
      case rel => exact ⟨j + 1, N * 10, by omega, by go_num, by go_num, b0, b1, Lib.hid HST.out.symm, trivial⟩
      case measure => simp [intOf]; omega
    · have hjk : j = k := by omega
      have hlt' : decide (j < k) = false := by simp only [decide_eq_false_iff_not]; exact hlt
      have HJK := Lib.hid hjk
      clear hjk hlt
      go_wp2_with fail
      go_ret
      exact ⟨ret_int (by rw [HN.out, HJK.out]), rfl⟩

end Go.Proofs.YtppaklifacadpaaGreatDoor
