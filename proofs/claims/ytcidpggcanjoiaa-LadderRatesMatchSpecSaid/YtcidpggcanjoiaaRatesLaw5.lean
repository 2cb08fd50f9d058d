/- LadderRatesMatchSpec: whatever the input, the law returns true: the walk. -/
import Derived.Test.YtcidpggcanjoiaaPeak5
import Derived.Test.YtcidpggcanjoiaaRPeak5
namespace Go.Proofs.Ytcidpggcanjoiaa
set_option linter.unusedVariables false
set_option linter.unusedSimpArgs false
open Go.RowKit Go.Deep

set_option maxRecDepth 100000 in
set_option maxHeartbeats 4000000 in
theorem rateslaw (u v : Value) (F G : List Int) (s lo hi : Int) (w : World) (hu : NumsC w u F) (hv : NumsC w v G) :
    Calls Try.prog 4 #[u, v, .int .i64 s, .int .i64 lo, .int .i64 hi] w fun e w' => e = .returned (.bool true) ∧ Below w.heap.size w w' := by
  have HU := Lib.hid hu; have HV := Lib.hid hv
  have HM := Lib.hid (mean_any u v F G s w hu.nums hv.nums)
  have HRM := Lib.hid (fun W (hU : NumsC W u F) (hV : NumsC W v G) => rmean_any u v F G s W hU.nums hV.nums)
  have HP := Lib.hid (fun W (hU : NumsC W u F) (hV : NumsC W v G) => peak_any u v F G s lo hi W hU.nums hV.nums)
  have HRP := Lib.hid (fun W (hU : NumsC W u F) (hV : NumsC W v G) => rpeak_any u v F G s lo hi W hU hV)
  obtain ⟨MX, hMX⟩ : ∃ MX, mnX F G s = MX := ⟨_, rfl⟩
  obtain ⟨MY, hMY⟩ : ∃ MY, mnY F G s = MY := ⟨_, rfl⟩
  obtain ⟨MF, hMF⟩ : ∃ MF, mnF F G s = MF := ⟨_, rfl⟩
  obtain ⟨PX, hPX⟩ : ∃ PX, peX F G s lo hi = PX := ⟨_, rfl⟩
  obtain ⟨PY, hPY⟩ : ∃ PY, peY F G s lo hi = PY := ⟨_, rfl⟩
  obtain ⟨PB, hPB⟩ : ∃ PB, peB F G s lo hi = PB := ⟨_, rfl⟩
  obtain ⟨PF, hPF⟩ : ∃ PF, peF F G s lo hi = PF := ⟨_, rfl⟩
  rw [hMX, hMY, hMF] at HM HRM
  rw [hPX, hPY, hPB, hPF] at HP HRP
  clear hMX hMY hMF hPX hPY hPB hPF hu hv
  go_enter Try.func4, Try.ntmps4
  go_wp2_with fail
  refine HM.out.mono ?_; rintro e w1 ⟨rfl, b1⟩
  go_upto_region 2 with fail
  have TX := Two.new w1 MX MY 24
  have b2 := b1.alloc (o := .cells #[.int .i64 MX, .int .i64 MY] 24) b1.size
  have hX := b1.size
  generalize w1.alloc (.cells #[.int .i64 MX, .int .i64 MY] 24) = W at *
  generalize w1.heap.size = X at *
  go_wp2_with fail
  refine (HRM.out _ (HU.out.below b2 (Nat.le_refl _)) (HV.out.below b2 (Nat.le_refl _))).mono ?_; rintro e w3 ⟨rfl, b3⟩
  have TX := TX.below b3 TX.lt
  have b4 := b2.trans (b3.mono b2.size)
  have hYX : X < w3.heap.size := TX.lt
  go_upto_region 3 with fail
  have TX := TX.alloc (.cells #[.int .i64 MX, .int .i64 MY] 24)
  have TY := Two.new w3 MX MY 24
  have b5 := b4.alloc (o := .cells #[.int .i64 MX, .int .i64 MY] 24) b4.size
  have hY := b4.size
  generalize w3.alloc (.cells #[.int .i64 MX, .int .i64 MY] 24) = W5 at *
  generalize w3.heap.size = Y at *
  have x0 := TX.c0; have x1 := TX.c1; have y0 := TY.c0; have y1 := TY.c1
  have xl := TX.lt; have yl := TY.lt
  have fz : (MF == MF) = true := by simp
  go_wp2_with fail
  refine (HP.out _ (HU.out.below b5 (Nat.le_refl _)) (HV.out.below b5 (Nat.le_refl _))).mono ?_; rintro e w6 ⟨rfl, b6⟩
  have TX := TX.below b6 xl
  have TY := TY.below b6 yl
  have b7 := b5.trans (b6.mono b5.size)
  have x0 := TX.c0; have x1 := TX.c1; have y0 := TY.c0; have y1 := TY.c1
  have xf0 := TX.f0; have xf1 := TX.f1; have yf0 := TY.f0; have yf1 := TY.f1
  go_upto_region 6 with fail
  have TX := TX.set (x' := PX) (y' := PY)
  have TY := (TY.other (Y := X) (i := 0) (v := .int .i64 PX) (by omega)).other (Y := X) (i := 1) (v := .int .i64 PY) (by omega)
  have b8 := (b7.setCell (p := ⟨X, 0, none⟩) hX (.int .i64 PX)).setCell (p := ⟨X, 1, none⟩) hX (.int .i64 PY)
  generalize (w6.setCell ⟨X, 0, none⟩ (.int .i64 PX)).setCell ⟨X, 1, none⟩ (.int .i64 PY) = W7 at *
  go_wp2_with fail
  refine (HRP.out _ (HU.out.below b8 (Nat.le_refl _)) (HV.out.below b8 (Nat.le_refl _))).mono ?_; rintro e w9 ⟨rfl, b9⟩
  have TX := TX.below b9 TX.lt
  have TY := TY.below b9 TY.lt
  have b10 := b8.trans (b9.mono b8.size)
  have y0 := TY.c0; have y1 := TY.c1
  have yf0 := TY.f0; have yf1 := TY.f1
  go_upto_region 7 with fail
  have TX := (TX.other (Y := Y) (i := 0) (v := .int .i64 PX) (by omega)).other (Y := Y) (i := 1) (v := .int .i64 PY) (by omega)
  have TY := TY.set (x' := PX) (y' := PY)
  have b11 := (b10.setCell (p := ⟨Y, 0, none⟩) hY (.int .i64 PX)).setCell (p := ⟨Y, 1, none⟩) hY (.int .i64 PY)
  generalize (w9.setCell ⟨Y, 0, none⟩ (.int .i64 PX)).setCell ⟨Y, 1, none⟩ (.int .i64 PY) = W11 at *
  have x0 := TX.c0; have x1 := TX.c1; have y0 := TY.c0; have y1 := TY.c1
  have xl := TX.lt; have yl := TY.lt
  have fz : (PF == PF) = true := by simp
  go_wp2_with fail
  refine (awake5_any _).mono ?_; rintro e w12 ⟨rfl, b12⟩
  go_wp2_with fail
  go_ret
  exact ⟨rfl, b11.trans (b12.mono b11.size)⟩

end Go.Proofs.Ytcidpggcanjoiaa
