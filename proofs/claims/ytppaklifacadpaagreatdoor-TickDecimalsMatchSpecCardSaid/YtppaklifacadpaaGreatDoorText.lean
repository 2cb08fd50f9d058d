/- Texts of digits as the program reads them: isDigits, number. -/
import Derived.Test.YtppaklifacadpaaGreatDoorDval
import Derived.Test.YtppaklifacadpaaGreatDoorTick
namespace Go.Proofs.YtppaklifacadpaaGreatDoor
set_option linter.unusedVariables false
set_option linter.unusedSimpArgs false
open Go.RowKit

/-- Digits alone, at least one. -/
def allDig (l : List UInt8) : Bool := (l.all fun b => decide (48 ≤ b.toNat) && decide (b.toNat ≤ 57)) && !l.isEmpty
theorem allDig_iff (l : List UInt8) : allDig l = true ↔ DigB l ∧ l ≠ [] := by
  unfold allDig DigB
  simp [List.all_eq_true]

theorem byte_at (s : ByteArray) (l : List UInt8) (h : s.data.toList = l) (k : Nat) (hk : k < s.size) (hl : k < l.length) : l[k].toNat = s[k].toNat := by
  subst h
  rfl

set_option maxRecDepth 100000 in
set_option maxHeartbeats 1000000 in
theorem isDigits_any (s : ByteArray) (w : World) (hl : s.size ≤ 1000000) :
    Calls Tryz.prog 50 #[.string s] w fun e w' => e = .returned (.bool (allDig s.data.toList)) ∧ w = w' := by
  obtain ⟨l, hll⟩ : ∃ l, s.data.toList = l := ⟨_, rfl⟩
  have hsz : s.size = l.length := by rw [← hll, Array.length_toList]; rfl
  rw [hll]
  have HL := Lib.hid hll; have HSZ := Lib.hid hsz
  clear hll hsz
  go_enter Tryz.func50, Tryz.ntmps50
  go_wp2_with fail
  go_loopw [6] (fun v wr => ∃ k : Nat, k ≤ s.size ∧ v = .int .i64 k ∧ Hid (∀ j (h : j < l.length), j < k → 48 ≤ l[j].toNat ∧ l[j].toNat ≤ 57) ∧ w = wr) (fun v _ => s.size - (intOf v).toNat)
  case atStart => exact ⟨0, Nat.zero_le _, rfl, Lib.hid (fun j h hj => by omega), rfl⟩
  case round =>
    obtain ⟨k, hk, rfl, HK, rfl⟩ := hrel
    by_cases hlt : k < s.size
    · have hkl : k < l.length := by rw [← HSZ.out]; exact hlt
      have hb := byte_at s l HL.out k hlt hkl
      obtain ⟨c, hc⟩ : ∃ c, s[k].toNat = c := ⟨_, rfl⟩
      have hc256 : c < 256 := by rw [← hc]; exact UInt8.toNat_lt _
      rw [hc] at hb
      have HBB := Lib.hid hb
      clear hb
      by_cases c1 : c < 48
      · have hno : allDig l = false := by
          cases h : allDig l with
          | false => rfl
          | true =>
            have := ((allDig_iff l).1 h).1 l[k] (List.getElem_mem hkl)
            rw [HBB.out] at this; omega
        have HNO := Lib.hid hno
        clear hno
        go_wp2_with fail
        go_ret
        exact ⟨ret_bool HNO.out.symm, rfl⟩
      · have c1' : decide (c < 48) = false := by simp only [decide_eq_false_iff_not]; exact c1
        by_cases c2 : 57 < c
        · have hno : allDig l = false := by
            cases h : allDig l with
            | false => rfl
            | true =>
              have := ((allDig_iff l).1 h).1 l[k] (List.getElem_mem hkl)
              rw [HBB.out] at this; omega
          have HNO := Lib.hid hno
          clear hno
          go_wp2_with fail
          go_ret
          exact ⟨ret_bool HNO.out.symm, rfl⟩
        · have c2' : decide (57 < c) = false := by simp only [decide_eq_false_iff_not]; exact c2
          have hnew : ∀ j (h : j < l.length), j < k + 1 → 48 ≤ l[j].toNat ∧ l[j].toNat ≤ 57 := by
            intro j h hj
            by_cases hjk : j = k
            · subst hjk; rw [HBB.out]; omega
            · exact HK.out j h (by omega)
          have HNEW := Lib.hid hnew
          clear hnew
          go_wp2_with fail
          go_roundw
          case rel => exact ⟨k + 1, by omega, by go_num, HNEW, trivial⟩
          case measure => simp [intOf]; omega
    · have hend : DigB l := by
        intro b hb
        obtain ⟨j, hj, rfl⟩ := List.mem_iff_getElem.1 hb
        exact HK.out j hj (by have := HSZ.out; omega)
      have HEND := Lib.hid hend
      have hlt' : decide (k < s.size) = false := by simp only [decide_eq_false_iff_not]; exact hlt
      clear hend hlt
      go_wp2_with fail
      go_ret
      refine ⟨ret_bool ?_, rfl⟩
      rw [ByteArray.toList_eq, HL.out]
      cases hem : l.isEmpty with
      | true =>
        have : allDig l = false := by unfold allDig; rw [hem]; simp
        rw [this]; rfl
      | false =>
        have : allDig l = true := (allDig_iff l).2 ⟨HEND.out, fun hx => by rw [hx] at hem; simp at hem⟩
        rw [this]; rfl

/-- The number with these digits, or, of all that are no time, the least one. -/
def numV (l : List UInt8) : Int := min (dvalB l) 1000000000000001
theorem numV_small (l : List UInt8) (h : dvalB l ≤ 1000000000000001) : numV l = dvalB l := by unfold numV; omega

theorem num_step (l : List UInt8) (k : Nat) (h : k < l.length) (c : Nat) (hc : l[k].toNat = c) (h1 : 48 ≤ c) : min (numV (l.take k) * 10 + ((c : Int) - 48)) 1000000000000001 = numV (l.take (k + 1)) := by
  have e : dvalB (l.take (k + 1)) = dvalB (l.take k) * 10 + (c - 48) := by
    rw [List.take_succ_eq_append_getElem h, dvalB_append]
    simp [dvalB, hc]
  unfold numV
  rw [e]
  omega

set_option maxRecDepth 100000 in
set_option maxHeartbeats 1000000 in
theorem number_any (s : ByteArray) (w : World) (hl : s.size ≤ 1000000) (hd : DigB s.data.toList) :
    Calls Tryz.prog 28 #[.string s] w fun e w' => e = .returned (.int .i64 (numV s.data.toList)) ∧ w = w' := by
  obtain ⟨l, hll⟩ : ∃ l, s.data.toList = l := ⟨_, rfl⟩
  have hsz : s.size = l.length := by rw [← hll, Array.length_toList]; rfl
  rw [hll] at hd ⊢
  have HL := Lib.hid hll; have HSZ := Lib.hid hsz; have HD := Lib.hid hd
  clear hll hsz hd
  go_enter Tryz.func28, Tryz.ntmps28
  go_wp2_with fail
  go_loopw [3, 7] (fun vn v wr => ∃ (k : Nat) (N : Int), k ≤ s.size ∧ vn = .int .i64 N ∧ v = .int .i64 k ∧ 0 ≤ N ∧ N ≤ 1000000000000001 ∧ Hid (N = numV (l.take k)) ∧ w = wr) (fun _ v _ => s.size - (intOf v).toNat)
  case atStart => exact ⟨0, 0, Nat.zero_le _, rfl, rfl, by omega, by omega, Lib.hid (by simp [numV, dvalB]; omega), rfl⟩
  case round =>
    obtain ⟨k, N, hk, rfl, rfl, N0, N1, HN, rfl⟩ := hrel
    by_cases hlt : k < s.size
    · have hkl : k < l.length := by rw [← HSZ.out]; exact hlt
      have hb := byte_at s l HL.out k hlt hkl
      have hdd := HD.out l[k] (List.getElem_mem hkl)
      obtain ⟨c, hc⟩ : ∃ c, s[k].toNat = c := ⟨_, rfl⟩
      rw [hc] at hb
      rw [hb] at hdd
      obtain ⟨c1, c2⟩ := hdd
      have hstep := num_step l k hkl c hb c1
      rw [← HN.out] at hstep
      obtain ⟨N', hN'⟩ : ∃ N', numV (l.take (k + 1)) = N' := ⟨_, rfl⟩
      rw [hN'] at hstep
      have hbd : 0 ≤ N' ∧ N' ≤ 1000000000000001 := by omega
      obtain ⟨b0, b1⟩ := hbd
      have HNN := Lib.hid hN'.symm
      have hw8 : IntKind.u8.wrap ((c : Int) - 48) = (c : Int) - 48 := by rw [IntKind.wrap_u8]; omega
      have hw64 : IntKind.i64.wrap ((c : Int) - 48) = (c : Int) - 48 := IntWalk.i64_in _ ⟨by omega, by omega⟩
      clear hb hN' 
      go_wp2_with fail
      go_roundw
      case rel => exact ⟨k + 1, N', by omega, by go_num, by go_num, b0, b1, HNN, trivial⟩
      case measure => simp [intOf]; omega
    · have hke : k = s.size := by omega
      have hfin : numV l = N := by rw [HN.out, hke, HSZ.out, List.take_length]
      have HFIN := Lib.hid hfin
      have hlt' : decide (k < s.size) = false := by simp only [decide_eq_false_iff_not]; exact hlt
      clear hfin hlt hke
      go_wp2_with fail
      go_ret
      exact ⟨ret_int HFIN.out.symm, rfl⟩

theorem isDigits_dr (s : ByteArray) (A : Bool) (w : World) (hl : s.size ≤ 1000000) (h : allDig s.data.toList = A) :
    Calls Tryz.prog 50 #[.string s] w fun e w' => e = .returned (.bool A) ∧ ∃ k, w' = w.drewN k := by
  refine (isDigits_any s w hl).mono ?_
  rintro e w' ⟨rfl, rfl⟩
  exact ⟨by rw [h], 0, rfl⟩

theorem drewN_ex {w wr : World} (h : ∃ q, wr = w.drewN q) (n : Nat) : ∃ q, wr.drewN n = w.drewN q := by
  obtain ⟨q, rfl⟩ := h
  exact ⟨q + n, by simp⟩

end Go.Proofs.YtppaklifacadpaaGreatDoor
