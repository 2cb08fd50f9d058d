/- math/bits.Div64 returns the quotient and the rest. -/
import Derived.Test.YtikpemmfmkdndaaNum
import Derived.Test.YtikpemmfmkdndaaShelf
import Derived.Test.YtikpemmfmkdndaaDivMath
import Derived.RegionTactic
import Derived.ChangeAlike
import Derived.Deep.QuietTactic
import Derived.BigQuiet
import Derived.Lib.Hide
import Derived.Lib.ItoaNum
import Derived.Deep.DeepCutAuto
import Derived.Deep.CutBlock
namespace Go.Proofs.Ytikpemmfmkdndaa
set_option linter.unusedVariables false
set_option linter.unusedSimpArgs false
open Go.RowKit

/-- The digits of the shifted numbers. -/
theorem div_parts (hi lo y : Int) (s : Nat) (hs : s ≤ 63) (hh : 0 < hi) (h0 : 0 ≤ lo) (h1 : lo ≤ 18446744073709551615) (hy : hi < y) (_hs1 : 9223372036854775808 ≤ y * 2 ^ s) (hs2 : y * 2 ^ s < 18446744073709551616) :
    ∃ y1 y0 u d1 d0 : Int, y * 2 ^ s = y1 * 4294967296 + y0 ∧ u * 4294967296 * 4294967296 + d1 * 4294967296 + d0 = (hi * 18446744073709551616 + lo) * 2 ^ s ∧ 0 ≤ u ∧ u < y * 2 ^ s ∧ 0 ≤ d1 ∧ d1 < 4294967296 ∧ 0 ≤ d0 ∧ d0 < 4294967296 ∧ 0 ≤ y0 ∧ y0 < 4294967296 ∧ 2147483648 ≤ y1 ∧ y1 < 4294967296 ∧
      y * 2 ^ s / 4294967296 = y1 ∧ bits BinOp.and IntKind.u64 (y * 2 ^ s) 4294967295 = y0 ∧ bits BinOp.or IntKind.u64 (IntKind.u64.wrap (hi * 2 ^ s)) (lo / 2 ^ (64 - s)) = u ∧
      IntKind.u64.wrap (lo * 2 ^ s) / 4294967296 = d1 ∧ bits BinOp.and IntKind.u64 (IntKind.u64.wrap (lo * 2 ^ s)) 4294967295 = d0 := by
  have hp : (0 : Int) < 2 ^ s := Int.pow_pos (by omega)
  have hlt : hi * 2 ^ s < y * 2 ^ s := Int.mul_lt_mul_of_pos_right hy hp
  have hnn : 0 ≤ hi * 2 ^ s := Int.mul_nonneg (by omega) (by omega)
  have hw : IntKind.u64.wrap (hi * 2 ^ s) = hi * 2 ^ s := by rw [IntKind.wrap_u64]; omega
  have hwl : IntKind.u64.wrap (lo * 2 ^ s) = lo * 2 ^ s % 18446744073709551616 := IntKind.wrap_u64 _
  have hx := DivMath.high_word hi lo s hs (by omega) (by omega) h0 (by omega)
  have hl0 := Int.emod_nonneg (lo * 2 ^ s) (show (18446744073709551616 : Int) ≠ 0 by omega)
  have hl1 := Int.emod_lt_of_pos (lo * 2 ^ s) (show (0 : Int) < 18446744073709551616 by omega)
  rw [hw, hwl, and_low32 _ (by omega) hs2, and_low32 _ hl0 hl1]
  have hN : (hi * 18446744073709551616 + lo) * 2 ^ s < y * 2 ^ s * 18446744073709551616 := by
    have : hi * 18446744073709551616 + lo < y * 18446744073709551616 := by omega
    have := Int.mul_lt_mul_of_pos_right this hp
    rw [Int.mul_assoc y, Int.mul_comm (2 ^ s), ← Int.mul_assoc]
    exact this
  have hN0 : 0 ≤ (hi * 18446744073709551616 + lo) * 2 ^ s := Int.mul_nonneg (by omega) (by omega)
  generalize (hi * 18446744073709551616 + lo) * 2 ^ s = N at *
  generalize bits BinOp.or IntKind.u64 (hi * 2 ^ s) (lo / 2 ^ (64 - s)) = u at *
  generalize lo * 2 ^ s % 18446744073709551616 = l at *
  generalize y * 2 ^ s = Y at *
  exact ⟨Y / 4294967296, Y % 4294967296, u, l / 4294967296, l % 4294967296, by omega, by omega, by omega, by omega, by omega, by omega, by omega, by omega, by omega, by omega, by omega, by omega, rfl, rfl, rfl, rfl, rfl⟩

set_option maxHeartbeats 400000 in
theorem div64_zero (lo y : Int) (w : World) (h0 : 0 ≤ lo) (h1 : lo ≤ 18446744073709551615) (hy : 0 < y) (hy2 : y ≤ 18446744073709551615) :
    Calls Try.prog 104 #[.int .u64 0, .int .u64 lo, .int .u64 y] w fun e w' => e = .returned (.tuple #[.int .u64 (lo / y), .int .u64 (lo % y)]) ∧ ∃ n, w' = w.drewN n := by
  have e1 : (y == 0) = false := by simp; omega
  go_enter Try.func104, Try.ntmps104
  go_wp2
  go_quiet (fail)
  go_wp2
  go_ret2
  exact ⟨rfl, _, rfl⟩

theorem start_rest (u y1 : Int) (hu : 0 ≤ u) (hu2 : u < 18446744073709551616) (h1 : 0 < y1) : Value.int .u64 (IntKind.u64.wrap (u - IntKind.u64.wrap (u / y1 * y1))) = .int .u64 (u % y1) := by
  have h2 := Int.mul_ediv_add_emod u y1
  have h3 := Int.emod_nonneg u (show y1 ≠ 0 by omega)
  have h4 : 0 ≤ u / y1 * y1 := Int.mul_nonneg (Int.ediv_nonneg hu (by omega)) (by omega)
  rw [Int.mul_comm] at h2
  congr 1
  rw [IntKind.wrap_u64, IntKind.wrap_u64]
  omega

theorem adj {q y1 r u : Int} (h : q * y1 + r = u) : (q - 1) * y1 + (r + y1) = u := by
  rw [Int.sub_mul]; omega

theorem ret2_u64 {a b c d : Int} (h : a = b) (k : c = d) : Ending.returned (.tuple #[.int .u64 a, .int .u64 c]) = .returned (.tuple #[.int .u64 b, .int .u64 d]) := by rw [h, k]

theorem u64_eq {a b : Int} (h : a = b) : Value.int .u64 a = .int .u64 b := by rw [h]

theorem qy_bd (q y0 : Int) (h0 : 0 ≤ q) (h1 : q < 4294967296) (h2 : 0 ≤ y0) (h3 : y0 < 4294967296) : 0 ≤ q * y0 ∧ q * y0 ≤ 18446744065119617025 :=
  prod_bound q y0 h0 (by omega) h2 (by omega)

theorem pow_fits (y L : Nat) (h1 : 1 ≤ L) (h2 : L ≤ 64) (h3 : 2 ^ (L - 1) ≤ y) (h4 : y < 2 ^ L) : 9223372036854775808 ≤ (y : Int) * 2 ^ (64 - L) ∧ (y : Int) * 2 ^ (64 - L) < 18446744073709551616 := by
  have e1 : 2 ^ (L - 1) * 2 ^ (64 - L) = 9223372036854775808 := by rw [← Nat.pow_add, show L - 1 + (64 - L) = 63 by omega]
  have e2 : 2 ^ L * 2 ^ (64 - L) = 18446744073709551616 := by rw [← Nat.pow_add, show L + (64 - L) = 64 by omega]
  have p1 := Nat.mul_le_mul_right (2 ^ (64 - L)) h3
  have p2 := Nat.mul_lt_mul_of_pos_right h4 (show 0 < 2 ^ (64 - L) from Nat.pow_pos (by omega))
  rw [e1] at p1
  rw [e2] at p2
  have e3 : (y : Int) * 2 ^ (64 - L) = ((y * 2 ^ (64 - L) : Nat) : Int) := by simp
  rw [e3]
  omega

theorem lz_any (y : Int) (w : World) (h0 : 0 < y) (h1 : y ≤ 18446744073709551615) :
    Calls Try.prog 111 #[.int .u64 y] w fun e w' => (∃ s : Nat, s ≤ 63 ∧ 9223372036854775808 ≤ y * 2 ^ s ∧ y * 2 ^ s < 18446744073709551616 ∧ e = .returned (.int .i64 s)) ∧ w = w' := by
  refine (Try.bits_LeadingZeros64 _ _ (by omega) (by omega)).mono ?_
  rintro e w' ⟨rfl, rfl⟩
  obtain ⟨b1, b2, b3⟩ := Lib.bitLenAux_bounds 64 y.toNat (by omega) (by omega)
  have b4 := Lib.bitLen_le y.toNat 64 (by omega) (by omega)
  unfold Lib.bitLen at *
  generalize Lib.bitLenAux 64 y.toNat = L at *
  obtain ⟨p1, p2⟩ := pow_fits y.toNat L b1 b4 b2 b3
  rw [show ((y.toNat : Nat) : Int) = y from Int.toNat_of_nonneg (by omega)] at p1 p2
  exact ⟨⟨64 - L, by omega, p1, p2, ret_int (by omega)⟩, rfl⟩

set_option maxHeartbeats 1000000 in
theorem div64_pos (hi lo y : Int) (w : World) (hh : 0 < hi) (h0 : 0 ≤ lo) (h1 : lo ≤ 18446744073709551615) (hy : hi < y) (hy2 : y ≤ 18446744073709551615) :
    Calls Try.prog 104 #[.int .u64 hi, .int .u64 lo, .int .u64 y] w fun e w' => e = .returned (.tuple #[.int .u64 ((hi * 18446744073709551616 + lo) / y), .int .u64 ((hi * 18446744073709551616 + lo) % y)]) ∧ ∃ n, w' = w.drewN n := by
  have e1 : (y == 0) = false := by simp; omega
  have e2 : (hi == 0) = false := by simp; omega
  have e3 : decide (y ≤ hi) = false := by simp; omega
  go_enter Try.func104, Try.ntmps104
  go_upto_region 15 with (go_at_call 111; refine (lz_any _ _ (by omega) (by omega)).mono ?_; rintro e w' ⟨⟨s, hs, hs1, hs2, rfl⟩, rfl⟩)
  obtain ⟨y1, y0, u, d1, d0, hY, hN, hu0, huY, hd1, hd1', hd0, hd0', hy0, hy0', hy1, hy1', k9, k10, k11, k13, k14⟩ := div_parts hi lo y s hs hh h0 h1 hy hs1 hs2
  have HY := Lib.hid hY
  have HN := Lib.hid hN
  simp only [k9, k10, k11, k13, k14]
  clear k9 k10 k11 k13 k14 hY hN
  have hp : (0 : Int) < 2 ^ s := Int.pow_pos (by omega)
  generalize hYY : y * 2 ^ s = Y at *
  have HYY := Lib.hid hYY
  clear hYY
  have b1 := DivMath.first_le HY.out hy0' hy1 huY
  have b2 := DivMath.first_ge HY.out (by omega) hy0 hu0 hd1'
  have b3 := DivMath.digit_lt hu0 huY hd1'
  have b4 := DivMath.digit_nonneg hu0 huY hd1
  have b5 := Int.mul_ediv_add_emod u y1
  have b6 := Int.emod_nonneg u (show y1 ≠ 0 by omega)
  have b7 := Int.emod_lt_of_pos u (show 0 < y1 by omega)
  have B5 := Lib.hid b5
  clear b5
  generalize hq : (u * 4294967296 + d1) / Y = q1 at *
  have HQ1 := Lib.hid hq
  clear hq
  go_upto_block 0 with fail
  go_cut [15] (fun s15 wx => s15 = .int .u64 q1 ∧ wx = w)
  case first =>
    go_wp2
    go_loop [15, 16] (fun a b => ∃ q r : Int, a = .int .u64 q ∧ b = .int .u64 r ∧ 0 ≤ r ∧ r < 4294967296 ∧ q1 ≤ q ∧ q ≤ 4294967297 ∧ Hid (q * y1 + r = u)) (fun _ b => (4294967296 - intOf b).toNat)
    case atStart => exact ⟨u / y1, u % y1, rfl, start_rest u y1 (by omega) (by omega) (by omega), by omega, by omega, by omega, by omega, Lib.hid (by have := B5.out; rw [Int.mul_comm] at this; exact this)⟩
    case round =>
      obtain ⟨q, r, rfl, rfl, hr0, hr1, hq0, hq1, HI⟩ := hrel
      by_cases hc : 4294967296 ≤ q
      · have hm : q1 ≤ q - 1 := by omega
        by_cases hb : 4294967296 ≤ r + y1
        · have hle := DivMath.break_le (d := d1) HY.out (by omega) (adj HI.out) hy0 hy0' (show 0 ≤ q - 1 by omega) (by omega) hb hd1
          rw [HQ1.out] at hle
          go_wp2
          go_meet
          exact ⟨u64_eq (by omega), rfl⟩
        · go_wp2
          go_round
          case rel => exact ⟨q - 1, r + y1, rfl, rfl, by omega, by omega, by omega, by omega, Lib.hid (adj HI.out)⟩
          case measure => simp [intOf]; omega
      · have hmul := qy_bd q y0 (by omega) (by omega) hy0 hy0'
        by_cases ht : 4294967296 * r + d1 < q * y0
        · have hm : q1 ≤ q - 1 := by
            have := DivMath.too_great HY.out (by omega) HI.out ht
            rw [HQ1.out] at this
            omega
          by_cases hb : 4294967296 ≤ r + y1
          · have hle := DivMath.break_le (d := d1) HY.out (by omega) (adj HI.out) hy0 hy0' (show 0 ≤ q - 1 by omega) (by omega) hb hd1
            rw [HQ1.out] at hle
            go_wp2
            go_meet
            exact ⟨u64_eq (by omega), rfl⟩
          · go_wp2
            go_round
            case rel => exact ⟨q - 1, r + y1, rfl, rfl, by omega, by omega, by omega, by omega, Lib.hid (adj HI.out)⟩
            case measure => simp [intOf]; omega
        · have hle := DivMath.not_too_great HY.out (by omega) HI.out (show q * y0 ≤ 4294967296 * r + d1 by omega)
          rw [HQ1.out] at hle
          go_wp2
          go_meet
          exact ⟨u64_eq (by omega), rfl⟩
  case rest =>
    obtain ⟨rfl, rfl⟩ := hcut
    have c1 := DivMath.rem_wrap u Y d1 (by omega) hs2
    rw [HQ1.out] at c1
    have c2 := Int.emod_nonneg (u * 4294967296 + d1) (show Y ≠ 0 by omega)
    have c3 := Int.emod_lt_of_pos (u * 4294967296 + d1) (show 0 < Y by omega)
    generalize hv : (u * 4294967296 + d1) % Y = v at *
    have HV := Lib.hid hv
    have C1 := Lib.hid c1
    clear hv c1
    go_upto_region 22 with fail
    rw [show IntKind.u64.wrap (IntKind.u64.wrap (IntKind.u64.wrap (u * 4294967296) + d1) - IntKind.u64.wrap (q1 * Y)) = v by rw [IntKind.wrap_u64, IntKind.wrap_u64, IntKind.wrap_u64, IntKind.wrap_u64]; exact C1.out]
    have b1 := DivMath.first_le HY.out hy0' hy1 c3
    have b2 := DivMath.first_ge HY.out (by omega) hy0 c2 hd0'
    have b8 := DivMath.digit_lt c2 c3 hd0'
    have b9 := DivMath.digit_nonneg c2 c3 hd0
    have b5 := Int.mul_ediv_add_emod v y1
    have b6 := Int.emod_nonneg v (show y1 ≠ 0 by omega)
    have b7 := Int.emod_lt_of_pos v (show 0 < y1 by omega)
    have A5 := Lib.hid b5
    clear b5
    generalize hq : (v * 4294967296 + d0) / Y = q0 at *
    have HQ2 := Lib.hid hq
    clear hq
    go_upto_block 2 with fail
    go_cut [18] (fun s18 wx => s18 = .int .u64 q0 ∧ wx = wc)
    case first =>
      go_wp2
      go_loop [18, 16] (fun a b => ∃ q r : Int, a = .int .u64 q ∧ b = .int .u64 r ∧ 0 ≤ r ∧ r < 4294967296 ∧ q0 ≤ q ∧ q ≤ 4294967297 ∧ Hid (q * y1 + r = v)) (fun _ b => (4294967296 - intOf b).toNat)
      case atStart => exact ⟨v / y1, v % y1, rfl, start_rest v y1 (by omega) (by omega) (by omega), by omega, by omega, by omega, by omega, Lib.hid (by have := A5.out; rw [Int.mul_comm] at this; exact this)⟩
      case round =>
        obtain ⟨q, r, rfl, rfl, hr0, hr1, hq0, hqq, HI⟩ := hrel
        by_cases hc : 4294967296 ≤ q
        · have hm : q0 ≤ q - 1 := by omega
          by_cases hb : 4294967296 ≤ r + y1
          · have hle := DivMath.break_le (d := d0) HY.out (by omega) (adj HI.out) hy0 hy0' (show 0 ≤ q - 1 by omega) (by omega) hb hd0
            rw [HQ2.out] at hle
            go_wp2
            go_meet
            exact ⟨u64_eq (by omega), rfl⟩
          · go_wp2
            go_round
            case rel => exact ⟨q - 1, r + y1, rfl, rfl, by omega, by omega, by omega, by omega, Lib.hid (adj HI.out)⟩
            case measure => simp [intOf]; omega
        · have hmul := qy_bd q y0 (by omega) (by omega) hy0 hy0'
          by_cases ht : 4294967296 * r + d0 < q * y0
          · have hm : q0 ≤ q - 1 := by
              have := DivMath.too_great HY.out (by omega) HI.out ht
              rw [HQ2.out] at this
              omega
            by_cases hb : 4294967296 ≤ r + y1
            · have hle := DivMath.break_le (d := d0) HY.out (by omega) (adj HI.out) hy0 hy0' (show 0 ≤ q - 1 by omega) (by omega) hb hd0
              rw [HQ2.out] at hle
              go_wp2
              go_meet
              exact ⟨u64_eq (by omega), rfl⟩
            · go_wp2
              go_round
              case rel => exact ⟨q - 1, r + y1, rfl, rfl, by omega, by omega, by omega, by omega, Lib.hid (adj HI.out)⟩
              case measure => simp [intOf]; omega
          · have hle := DivMath.not_too_great HY.out (by omega) HI.out (show q * y0 ≤ 4294967296 * r + d0 by omega)
            rw [HQ2.out] at hle
            go_wp2
            go_meet
            exact ⟨u64_eq (by omega), rfl⟩
    case rest =>
      obtain ⟨rfl, rfl⟩ := hcut
      have c1 := DivMath.rem_wrap v Y d0 (by omega) hs2
      rw [HQ2.out] at c1
      have C2 := Lib.hid c1
      clear c1
      go_wp2
      go_ret2
      obtain ⟨f1, f2⟩ := DivMath.two_digits (u := u) (d1 := d1) (d0 := d0) (show 0 < Y by omega)
      rw [HN.out, HQ1.out, HV.out, HQ2.out, ← HYY.out] at f1
      rw [HN.out, HV.out, ← HYY.out] at f2
      obtain ⟨f3, f4⟩ := DivMath.shifted (hi * 18446744073709551616 + lo) y (2 ^ s) hp
      rw [f3] at f1
      rw [f2, HYY.out] at f4
      refine ⟨ret2_u64 (by omega) ?_, 0, rfl⟩
      rw [← f4, ← C2.out, IntKind.wrap_u64, IntKind.wrap_u64, IntKind.wrap_u64, IntKind.wrap_u64]

end Go.Proofs.Ytikpemmfmkdndaa
