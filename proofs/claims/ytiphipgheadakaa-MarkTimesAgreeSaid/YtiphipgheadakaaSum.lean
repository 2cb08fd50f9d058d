/- Sum of package mark (program), and the law's awake of chapter 7. -/
import Derived.Test.YtiphipgheadakaaSumPlain
import Derived.Test.YtiphipgheadakaaByts
import Derived.Lib.SlBytesConst
namespace Go.Proofs.Ytiphipgheadakaa
set_option linter.unusedVariables false
set_option linter.unusedSimpArgs false
open Go.RowKit

set_option maxHeartbeats 4000000 in
theorem sum_any (a : Option Addr) (n cap : Nat) (xs : List Int) (w : World) (hB : Byts w (.slice a n cap) xs) (hn : xs.length = n) (hm : n ≤ maxLen) (hby : isByts xs) :
    Calls Try.prog 12 #[.slice a n cap] w fun e w' => e = .returned (.int .i64 ((sumTo xs n : Nat) : Int)) ∧ w = w' := by
  have HB := Lib.hid hB; have HY := Lib.hid hby; have HN := Lib.hid hn
  have HL := Lib.hid (sumTo_lt xs)
  obtain ⟨R, hR⟩ : ∃ R, sumTo xs n = R := ⟨_, rfl⟩
  rw [hR]
  have HR := Lib.hid hR
  have hRl : R < 4294967296 := by rw [← hR]; exact sumTo_lt xs n
  unfold maxLen at hm
  clear hB hby hn hR
  go_enter Try.func12, Try.ntmps12
  go_wp2_with fail
  go_loopw [3, 9] (fun v3 v9 wr => ∃ k : Nat, k ≤ n ∧ v9 = .int .i64 k ∧ v3 = .int .u32 (sumTo xs k : Nat) ∧ w = wr) (fun _ v9 _ => n - (intOf v9).toNat)
  case atStart => exact ⟨0, Nat.zero_le _, rfl, rfl, rfl⟩
  case round =>
    obtain ⟨k, hk, rfl, rfl, rfl⟩ := hrel
    by_cases hlt : k < n
    rotate_left
    · have hks : k = n := by omega
      have e1 : sumTo xs k = R := by rw [hks]; exact HR.out
      have kD : decide ((k : Int) < (n : Int)) = false := by simp; omega
      have kD2 : decide (k < n) = false := by simp; omega
      rw [e1]
      have hw1 : IntKind.i64.wrap (R : Int) = (R : Int) := IntWalk.i64_in _ ⟨by omega, by omega⟩
      clear hks hlt e1
      go_wp2_with fail
      go_ret
      exact ⟨rfl, rfl⟩
    · obtain ⟨b, off, rfl, hbl, -, -, hc⟩ := HB.out.spot (by omega)
      have hck := hc k hlt
      obtain ⟨hx0, hx1⟩ := HY.out k (by rw [HN.out]; exact hlt)
      obtain ⟨x, hx⟩ : ∃ x : Nat, xs.getD k 0 = (x : Int) := ⟨_, (Int.toNat_of_nonneg hx0).symm⟩
      rw [hx] at hck hx0 hx1
      have hSl := HL.out k
      obtain ⟨S, hS⟩ : ∃ S, sumTo xs k = S := ⟨_, rfl⟩
      have HST : Hid (sumTo xs (k + 1) = crcK 8 (S ^^^ (x * 16777216))) := Lib.hid (by rw [sumTo, hS, hx]; rfl)
      rw [hS] at hSl ⊢
      have hxor := crcX_in S x hSl (by omega)
      have hXl := xor_lt32 S x hSl (by omega)
      obtain ⟨X, hX⟩ : ∃ X, S ^^^ (x * 16777216) = X := ⟨_, rfl⟩
      rw [hX] at hxor hXl HST
      have hwI : IntKind.i64.wrap ((k : Int) + 1) = (k : Int) + 1 := IntWalk.i64_in _ ⟨by omega, by omega⟩
      have cv : IntKind.u32.wrap (x : Int) = (x : Int) := by rw [IntKind.wrap_u32']; omega
      have sh : (x : Int) * 16777216 % 4294967296 = (x : Int) * 16777216 := by omega
      clear hc hX hS hx
      go_wp2_with fail
      go_loopw [3, 18] (fun v3 v18 wi => ∃ j : Nat, j ≤ 8 ∧ v18 = .int .i64 j ∧ v3 = .int .u32 (crcK j X : Nat) ∧ w = wi) (fun _ v18 _ => 8 - (intOf v18).toNat)
      case atStart => exact ⟨0, Nat.zero_le _, rfl, rfl, rfl⟩
      case round =>
        obtain ⟨j, hj, rfl, rfl, rfl⟩ := hrel
        by_cases hj8 : j < 8
        rotate_left
        · have hj9 : j = 8 := by omega
          subst hj9
          go_wp2_with fail
          go_roundw
          case rel => exact ⟨k + 1, by omega, by go_num, by rw [HST.out], trivial⟩
          case measure => simp [intOf]; omega
        · have hCl := crcK_lt j X hXl
          have HCN : Hid (crcK (j + 1) X = crcB (crcK j X)) := Lib.hid rfl
          obtain ⟨C, hC⟩ : ∃ C, crcK j X = C := ⟨_, rfl⟩
          rw [hC] at hCl HCN ⊢
          have kJ : (j : Int) < 8 := by omega
          have hwJ : IntKind.i64.wrap ((j : Int) + 1) = (j : Int) + 1 := IntWalk.i64_in _ ⟨by omega, by omega⟩
          clear hC
          by_cases hd : 2147483648 ≤ C
          · have hb := crcB_hi C hd hCl
            have hge : decide ((2147483648 : Int) ≤ (C : Int)) = true := by simp; omega
            go_wp2_with fail
            go_roundw
            case rel => exact ⟨j + 1, by omega, by go_num, by rw [HCN.out, ← hb], trivial⟩
            case measure => simp [intOf]; omega
          · have hb := crcB_lo C hd
            have hge : decide ((2147483648 : Int) ≤ (C : Int)) = false := by simp; omega
            go_wp2_with fail
            go_roundw
            case rel => exact ⟨j + 1, by omega, by go_num, by rw [HCN.out, ← hb]; congr 1; omega, trivial⟩
            case measure => simp [intOf]; omega

theorem byts_new (w : World) : Byts (w.alloc (.cells #[.int .u8 49, .int .u8 50, .int .u8 51, .int .u8 52, .int .u8 53, .int .u8 54, .int .u8 55, .int .u8 56, .int .u8 57] 5 (9, 10))) (.slice (some ⟨w.heap.size, 0, none⟩) 9 9) [49, 50, 51, 52, 53, 54, 55, 56, 57] := by
  refine .inr ⟨w.heap.size, 0, 9, rfl, by simp, by simp, by simp, by unfold maxLen; omega, fun j hj => ?_⟩
  have hh := heap_alloc_new w (.cells #[.int .u8 49, .int .u8 50, .int .u8 51, .int .u8 52, .int .u8 53, .int .u8 54, .int .u8 55, .int .u8 56, .int .u8 57] 5 (9, 10))
  simp only [World.cell?, hh]
  have hj9 : j < 9 := hj
  match j, hj9 with
  | 0, _ => rfl
  | 1, _ => rfl
  | 2, _ => rfl
  | 3, _ => rfl
  | 4, _ => rfl
  | 5, _ => rfl
  | 6, _ => rfl
  | 7, _ => rfl
  | 8, _ => rfl
theorem isByts_aw : isByts [49, 50, 51, 52, 53, 54, 55, 56, 57] := by
  intro j hj
  have hj9 : j < 9 := hj
  match j, hj9 with
  | 0, _ => exact (by decide)
  | 1, _ => exact (by decide)
  | 2, _ => exact (by decide)
  | 3, _ => exact (by decide)
  | 4, _ => exact (by decide)
  | 5, _ => exact (by decide)
  | 6, _ => exact (by decide)
  | 7, _ => exact (by decide)
  | 8, _ => exact (by decide)
set_option maxRecDepth 100000 in
theorem awake7_any (w : World) : Calls Try.prog 14 #[] w fun e w' => e = .returned (.bool true) ∧ Below w.heap.size w w' := by
  have hm := sum_any (some ⟨w.heap.size, 0, none⟩) 9 9 [49, 50, 51, 52, 53, 54, 55, 56, 57] _ (byts_new w) rfl (by unfold maxLen; omega) isByts_aw
  rw [sum_awake] at hm
  have HM := Lib.hid hm
  have hb0 : Below w.heap.size w (w.alloc (.cells #[.int .u8 49, .int .u8 50, .int .u8 51, .int .u8 52, .int .u8 53, .int .u8 54, .int .u8 55, .int .u8 56, .int .u8 57] 5 (9, 10))) := (Below.refl _ w).alloc (Nat.le_refl _) _
  have hcv := Lib.run_convert_bytes_const w 22 5 #[.int .u8 49, .int .u8 50, .int .u8 51, .int .u8 52, .int .u8 53, .int .u8 54, .int .u8 55, .int .u8 56, .int .u8 57] 9 9 Try.underlying22 Try.underlying5
  clear hm
  go_enter Try.func14, Try.ntmps14
  go_wp2_with fail
  refine HM.out.mono ?_; rintro e w1 ⟨rfl, rfl⟩
  go_wp2_with fail
  go_ret
  exact ⟨rfl, hb0⟩

end Go.Proofs.Ytiphipgheadakaa
