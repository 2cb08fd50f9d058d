/- Contracts of Date and ReadDate of the program, whatever the input. -/
import Derived.Test.YtppaklifacadpaaDoorDate
import Derived.Test.YtppaklifacadpaaDoorReadDate
namespace Go.Proofs.YtppaklifacadpaaDoor
set_option linter.unusedVariables false
set_option linter.unusedSimpArgs false
open Go.RowKit

/-- The text is that of a moment. -/
def IsDate (l : List UInt8) (n : Int) : Prop := ∃ Y M D h m s u, Civil Y M D h m s u ∧ Y ≤ 9999 ∧ dateN Y M D h m s u = n ∧ l = dateOf Y M D h m s u

theorem moment_year (n : Int) (n0 : 0 ≤ n) (n1 : n ≤ 253402300799999) : ∃ Y, IsYear (n / 86400000) Y ∧ Y ≤ 9999 := by
  obtain ⟨Y, hY⟩ := year_ex (n / 86400000).toNat
  rw [show (((n / 86400000).toNat : Nat) : Int) = n / 86400000 by omega] at hY
  refine ⟨Y, hY, ?_⟩
  apply Decidable.byContradiction; intro hx
  have h1 := dB_mono (show (10000 : Int) ≤ Y by omega)
  have e : dB 10000 = 2932897 := by decide
  rw [e] at h1
  have := hY.le
  omega

theorem isDate_bd {l : List UInt8} {n : Int} (h : IsDate l n) : 0 ≤ n ∧ n ≤ 253402300799999 := by
  obtain ⟨Y, M, D, h, m, s, u, c, y9, rfl, -⟩ := h
  exact civil_bd c y9
theorem isDate_len {l : List UInt8} {n : Int} (h : IsDate l n) : l.length = 24 := by
  obtain ⟨Y, M, D, h, m, s, u, c, y9, -, rfl⟩ := h
  exact (written c y9).1.1
theorem isDate_text {l k : List UInt8} {n : Int} (h : IsDate l n) (h' : IsDate k n) : l = k := by
  obtain ⟨Y, M, D, h, m, s, u, c, y9, e, rfl⟩ := h
  obtain ⟨Y', M', D', h', m', s', u', c', y9', e', rfl⟩ := h'
  rcases earlier_cases Y M D h m s u Y' M' D' h' m' s' u' with x | x | ⟨rfl, rfl, rfl, rfl, rfl, rfl, rfl⟩
  · have := earlier_lt c c' x; omega
  · have := earlier_lt c' c x; omega
  · rfl
theorem isDate_num {l : List UInt8} {n k : Int} (h : IsDate l n) (h' : IsDate l k) : n = k := by
  obtain ⟨Y, M, D, h, m, s, u, c, y9, rfl, hl⟩ := h
  obtain ⟨Y', M', D', h', m', s', u', c', y9', rfl, hl'⟩ := h'
  have e1 := written c y9
  have e2 := written c' y9'
  rw [← hl] at e1
  rw [← hl'] at e2
  obtain ⟨-, a1, a2, a3, a4, a5, a6, a7⟩ := e1
  obtain ⟨-, b1, b2, b3, b4, b5, b6, b7⟩ := e2
  rw [← a1, ← a2, ← a3, ← a4, ← a5, ← a6, ← a7, b1, b2, b3, b4, b5, b6, b7]
theorem isDate_lt {l k : List UInt8} {n m : Int} (h : IsDate l n) (h' : IsDate k m) : l < k ↔ n < m := by
  obtain ⟨Y, M, D, h, m, s, u, c, y9, rfl, rfl⟩ := h
  obtain ⟨Y', M', D', h', m', s', u', c', y9', rfl, rfl⟩ := h'
  exact order_iff c c' y9 y9'

theorem date_good (n : Int) (w : World) (htab : Tab w) (n0 : 0 ≤ n) (n1 : n ≤ 253402300799999) :
    Calls Tryd.prog 11 #[.int .i64 n] w fun e w' => (∃ S, e = .returned (.tuple #[.string S, .int .i64 0]) ∧ IsDate S.data.toList n) ∧ Below w.heap.size w w' := by
  obtain ⟨Y, hY, y9⟩ := moment_year n n0 n1
  refine (date_ok n Y _ _ _ _ w htab n0 n1 hY ⟨rfl, rfl, rfl, rfl⟩).mono ?_
  rintro e w' ⟨⟨S, rfl, hS⟩, hb⟩
  obtain ⟨c, hn⟩ := civil_of n0 hY rfl rfl rfl rfl
  exact ⟨⟨S, rfl, Y, _, _, _, _, _, _, c, y9, hn, hS⟩, hb⟩

theorem date_bad (n : Int) (w : World) (h : n < 0 ∨ 253402300799999 < n) :
    Calls Tryd.prog 11 #[.int .i64 n] w fun e w' => e = .returned (.tuple #[.string ⟨#[]⟩, .int .i64 1]) ∧ w = w' := by
  have H := Lib.hid h
  clear h
  go_enter Tryd.func11, Tryd.ntmps11
  go_wp2_with fail
  refine (within_no _ _ _ _ H.out).mono ?_; rintro e w' ⟨rfl, rfl⟩
  go_wp2_with fail
  go_ret2
  exact ⟨rfl, rfl⟩

theorem read_good (s : ByteArray) (n : Int) (w : World) (h : IsDate s.data.toList n) :
    Calls Tryd.prog 13 #[.string s] w fun e w' => e = .returned (.tuple #[.int .i64 n, .int .i64 0]) ∧ ∃ q, w' = w.drewN q := by
  obtain ⟨Y, M, D, h, m, ss, u, c, y9, rfl, hl⟩ := h
  have hw := written c y9
  obtain ⟨l, hll⟩ : ∃ l, s.data.toList = l := ⟨_, rfl⟩
  rw [hll] at hl
  rw [← hl] at hw
  obtain ⟨hf, e1, e2, e3, e4, e5, e6, e7⟩ := hw
  have g1 := (fld_of hll hf 0 4 (by omega) (by omega) (by omega) dig04).1
  have g2 := (fld_of hll hf 5 7 (by omega) (by omega) (by omega) dig57).1
  have g3 := (fld_of hll hf 8 10 (by omega) (by omega) (by omega) dig810).1
  have g4 := (fld_of hll hf 11 13 (by omega) (by omega) (by omega) dig1113).1
  have g5 := (fld_of hll hf 14 16 (by omega) (by omega) (by omega) dig1416).1
  have g6 := (fld_of hll hf 17 19 (by omega) (by omega) (by omega) dig1719).1
  have g7 := (fld_of hll hf 20 23 (by omega) (by omega) (by omega) dig2023).1
  rw [e1] at g1; rw [e2] at g2; rw [e3] at g3; rw [e4] at g4; rw [e5] at g5; rw [e6] at g6; rw [e7] at g7
  have hsz : s.size = l.length := by rw [← hll, Array.length_toList]; rfl
  have hb := mD_bd Y M
  obtain ⟨c1, c2, c3, c4, c5, c6, c7, c8, c9, c10, c11, c12, c13⟩ := c
  exact rd_good s Y M D h m ss u w (by rw [hsz, hf.1]) (by rw [hll]; exact hf) g1 g2 g3 g4 g5 g6 g7
    (by omega) y9 (by omega) (by omega) (by omega) (by omega) c6 (by omega) c8 (by omega) c10 (by omega) c12 c13 c1 c2 c3 c4 c5 c7 c9 c11

theorem read_bad (s : ByteArray) (w : World) (hs : s.size ≤ 9223372036854775807) (hno : ¬ ∃ n, IsDate s.data.toList n) :
    Calls Tryd.prog 13 #[.string s] w fun e w' => e = .returned (.tuple #[.int .i64 0, .int .i64 10]) ∧ ∃ q, w' = w.drewN q := by
  obtain ⟨l, hll⟩ : ∃ l, s.data.toList = l := ⟨_, rfl⟩
  have hsz : s.size = l.length := by rw [← hll, Array.length_toList]; rfl
  by_cases hf : IsForm l
  · obtain ⟨g1, b1⟩ := fld_of hll hf 0 4 (by omega) (by omega) (by omega) dig04
    obtain ⟨g2, b2⟩ := fld_of hll hf 5 7 (by omega) (by omega) (by omega) dig57
    obtain ⟨g3, b3⟩ := fld_of hll hf 8 10 (by omega) (by omega) (by omega) dig810
    obtain ⟨g4, b4⟩ := fld_of hll hf 11 13 (by omega) (by omega) (by omega) dig1113
    obtain ⟨g5, b5⟩ := fld_of hll hf 14 16 (by omega) (by omega) (by omega) dig1416
    obtain ⟨g6, b6⟩ := fld_of hll hf 17 19 (by omega) (by omega) (by omega) dig1719
    obtain ⟨g7, b7⟩ := fld_of hll hf 20 23 (by omega) (by omega) (by omega) dig2023
    have hfi := form_is hf
    simp only [Nat.reduceSub, Nat.reducePow] at b1 b2 b3 b4 b5 b6 b7
    generalize dvalB (fld l 0 4) = Y at *
    generalize dvalB (fld l 5 7) = M at *
    generalize dvalB (fld l 8 10) = D at *
    generalize dvalB (fld l 11 13) = h at *
    generalize dvalB (fld l 14 16) = m at *
    generalize dvalB (fld l 17 19) = ss at *
    generalize dvalB (fld l 20 23) = u at *
    have hs24 : s.size = 24 := by rw [hsz, hf.1]
    have hff : IsForm s.data.toList := by rw [hll]; exact hf
    by_cases k1 : (Y : Int) < 1970
    · exact rd_year s Y M D h m ss u w hs24 hff g1 g2 g3 g4 g5 g6 g7 (by omega) (by omega) (by omega) (by omega) (by omega) (by omega) (by omega) (by omega) (by omega) (by omega) (by omega) (by omega) (by omega) (by omega) k1
    by_cases k2 : 1 ≤ (M : Int) ∧ (M : Int) ≤ 12
    · by_cases k3 : 1 ≤ (D : Int) ∧ (D : Int) ≤ mD Y M
      · by_cases k4 : 23 < (h : Int)
        · exact rd_hour s Y M D h m ss u w hs24 hff g1 g2 g3 g4 g5 g6 g7 (by omega) (by omega) (by omega) (by omega) (by omega) (by omega) (by omega) (by omega) (by omega) (by omega) (by omega) (by omega) (by omega) (by omega) (by omega) k2.1 k2.2 k3.1 k3.2 k4
        by_cases k5 : 59 < (m : Int)
        · exact rd_minute s Y M D h m ss u w hs24 hff g1 g2 g3 g4 g5 g6 g7 (by omega) (by omega) (by omega) (by omega) (by omega) (by omega) (by omega) (by omega) (by omega) (by omega) (by omega) (by omega) (by omega) (by omega) (by omega) k2.1 k2.2 k3.1 k3.2 (by omega) k5
        by_cases k6 : 59 < (ss : Int)
        · exact rd_second s Y M D h m ss u w hs24 hff g1 g2 g3 g4 g5 g6 g7 (by omega) (by omega) (by omega) (by omega) (by omega) (by omega) (by omega) (by omega) (by omega) (by omega) (by omega) (by omega) (by omega) (by omega) (by omega) k2.1 k2.2 k3.1 k3.2 (by omega) (by omega) k6
        exfalso
        apply hno
        rw [hll]
        exact ⟨_, Y, M, D, h, m, ss, u, ⟨by omega, k2.1, k2.2, k3.1, k3.2, by omega, by omega, by omega, by omega, by omega, by omega, by omega, by omega⟩, by omega, rfl, hfi.symm⟩
      · exact rd_day s Y M D h m ss u w hs24 hff g1 g2 g3 g4 g5 g6 g7 (by omega) (by omega) (by omega) (by omega) (by omega) (by omega) (by omega) (by omega) (by omega) (by omega) (by omega) (by omega) (by omega) (by omega) (by omega) k2.1 k2.2 k3
    · exact rd_month s Y M D h m ss u w hs24 hff g1 g2 g3 g4 g5 g6 g7 (by omega) (by omega) (by omega) (by omega) (by omega) (by omega) (by omega) (by omega) (by omega) (by omega) (by omega) (by omega) (by omega) (by omega) (by omega) k2
  · have HF := Lib.hid hf
    have HLL := Lib.hid hll
    clear hf hno hll hsz
    go_enter Tryd.func13, Tryd.ntmps13
    go_wp2_with fail
    refine (form_any s _ False hs ⟨False.elim, fun hx => HF.out (by rw [← HLL.out]; exact hx)⟩).mono ?_
    rintro e w1 ⟨rfl, hq1⟩
    have HQ1 := Lib.hid hq1
    clear hq1
    go_wp2_with fail
    go_ret2
    exact ⟨rfl, HQ1.out⟩

end Go.Proofs.YtppaklifacadpaaDoor
