/- CutRangesMatchSpec: whatever the input, the law returns true. -/
import Derived.Test.YtgbdmgmbdjajeaaRFetch
import Derived.Test.YtgbdmgmbdjajeaaEqR
import Derived.Test.YtgbdmgmbdjajeaaGrid
namespace Go.Proofs.Ytgbdmgmbdjajeaa
set_option linter.unusedVariables false
set_option linter.unusedSimpArgs false
open Go.RowKit Go.Deep

set_option maxRecDepth 100000 in
set_option maxHeartbeats 8000000 in
theorem rangeslaw (v : Value) (ls : List Seg) (start time f t : Int) (w : World) (h : Segs w v ls) :
    Calls Try.prog 4 #[v, .int .i64 start, .int .i64 time, .agg #[.int .i64 f, .int .i64 t]] w fun e w' => e = .returned (.bool true) ∧ Below w.heap.size w w' := by
  obtain ⟨a, cap, rfl⟩ := h.parts
  have hmx := h.max.2
  have HS := Lib.hid h
  obtain ⟨n, hn⟩ : ∃ n, ls.length = n := ⟨_, rfl⟩
  rw [hn] at HS hmx ⊢
  obtain ⟨r, hr⟩ : ∃ r, rngF ls start = r := ⟨_, rfl⟩
  obtain ⟨L, hL⟩ : ∃ L, rngR ls start = L := ⟨_, rfl⟩
  obtain ⟨I, hI⟩ : ∃ I, seekI ls time = I := ⟨_, rfl⟩
  obtain ⟨D, hD⟩ : ∃ D, seekD ls time = D := ⟨_, rfl⟩
  obtain ⟨F, hF⟩ : ∃ F, seekF ls time = F := ⟨_, rfl⟩
  obtain ⟨FF, hFF⟩ : ∃ FF, fetchF ls f t start = FF := ⟨_, rfl⟩
  obtain ⟨FA, hFA⟩ : ∃ FA, fetchA ls f t start = FA := ⟨_, rfl⟩
  obtain ⟨FB, hFB⟩ : ∃ FB, fetchB ls f t start = FB := ⟨_, rfl⟩
  have HR1 := Lib.hid (fun W' (hb : Below w.heap.size w W') => ranges_any (.slice a n cap) ls start W' (HS.out.below hb (Nat.le_refl _)))
  have HR2 := Lib.hid (fun W' (hb : Below w.heap.size w W') => rranges2_any (.slice a n cap) ls start W' (HS.out.below hb (Nat.le_refl _)))
  have HK1 := Lib.hid (fun W' (hb : Below w.heap.size w W') => seek_any (.slice a n cap) ls time W' (HS.out.below hb (Nat.le_refl _)))
  have HK2 := Lib.hid (fun W' (hb : Below w.heap.size w W') => rseek_any (.slice a n cap) ls time W' (HS.out.below hb (Nat.le_refl _)))
  have HF1 := Lib.hid (fun W' (hb : Below w.heap.size w W') => fetch_any (.slice a n cap) ls f t start W' (HS.out.below hb (Nat.le_refl _)))
  have HF2 := Lib.hid (fun W' (hb : Below w.heap.size w W') => rfetch_any (.slice a n cap) ls f t start W' (HS.out.below hb (Nat.le_refl _)))
  simp only [hr, hL] at HR1 HR2
  simp only [hI, hD, hF] at HK1 HK2
  simp only [hFF, hFA, hFB] at HF1 HF2
  have q0 : (w.alloc (.cells #[.int .i64 f, .int .i64 t] 33)).cell? ⟨w.heap.size, 0, none⟩ = some (.int .i64 f) := by simp
  have q1 : (w.alloc (.cells #[.int .i64 f, .int .i64 t] 33)).cell? ⟨w.heap.size, 1, none⟩ = some (.int .i64 t) := by simp
  have b0 : Below w.heap.size w (w.alloc (.cells #[.int .i64 f, .int .i64 t] 33)) := (Below.refl _ _).alloc (Nat.le_refl _) _
  have z0 : w.heap.size < (w.alloc (.cells #[.int .i64 f, .int .i64 t] 33)).heap.size := by simp
  clear h hn hr hL hI hD hF hFF hFA hFB
  go_enter Try.func4, Try.ntmps4
  go_upto_region 1 with fail
  generalize w.alloc (.cells #[.int .i64 f, .int .i64 t] 33) = w0 at *
  obtain ⟨B, hB⟩ : ∃ B, w.heap.size = B := ⟨_, rfl⟩
  rw [hB] at q0 q1 z0
  simp only [hB]
  clear hB
  go_wp2_with fail
  refine (HR1.out _ b0).mono ?_; rintro e w1 ⟨⟨u1, rfl, p1⟩, b1⟩
  have bw1 := b0.trans (b1.mono b0.size)
  have P1 := Lib.hid p1
  clear p1
  go_wp2_with fail
  refine (HR2.out _ bw1).mono ?_; rintro e w2 ⟨⟨u2, rfl, p2⟩, b2⟩
  have bw2 := bw1.trans (b2.mono bw1.size)
  have P1 := Lib.hid (P1.out.below b2 (Nat.le_refl _))
  have P2 := Lib.hid p2
  clear p2
  go_wp2_with fail
  refine (equalR_same _ _ L _ P1.out P2.out).mono ?_; rintro e w' ⟨rfl, q, rfl⟩
  have bw3 : Below w.heap.size w (w2.drewN q) := below_drewN bw2 q
  have z1 : B < w1.heap.size := Nat.lt_of_lt_of_le z0 b1.size
  have q0 : (w2.drewN q).cell? ⟨B, 0, none⟩ = some (.int .i64 f) := (b2.cell (p := ⟨B, 0, none⟩) z1).trans ((b1.cell (p := ⟨B, 0, none⟩) z0).trans q0)
  have q1 : (w2.drewN q).cell? ⟨B, 1, none⟩ = some (.int .i64 t) := (b2.cell (p := ⟨B, 1, none⟩) z1).trans ((b1.cell (p := ⟨B, 1, none⟩) z0).trans q1)
  have z3 : B < (w2.drewN q).heap.size := by have := b2.size; simp; omega
  go_wp2_with fail
  generalize w2.drewN q = w3 at *
  refine (HK1.out _ bw3).mono ?_; rintro e w4 ⟨rfl, b4⟩
  have bw4 := bw3.trans (b4.mono bw3.size)
  go_wp2_with fail
  refine (HK2.out _ bw4).mono ?_; rintro e w5 ⟨rfl, b5⟩
  have bw5 := bw4.trans (b5.mono bw4.size)
  have z4 : B < w4.heap.size := Nat.lt_of_lt_of_le z3 b4.size
  have z5 : B < w5.heap.size := Nat.lt_of_lt_of_le z4 b5.size
  have q0 : w5.cell? ⟨B, 0, none⟩ = some (.int .i64 f) := (b5.cell (p := ⟨B, 0, none⟩) z4).trans ((b4.cell (p := ⟨B, 0, none⟩) z3).trans q0)
  have q1 : w5.cell? ⟨B, 1, none⟩ = some (.int .i64 t) := (b5.cell (p := ⟨B, 1, none⟩) z4).trans ((b4.cell (p := ⟨B, 1, none⟩) z3).trans q1)
  go_wp2_with fail
  refine (HF1.out _ bw5).mono ?_; rintro e w6 ⟨rfl, b6⟩
  have bw6 := bw5.trans (b6.mono bw5.size)
  have z6 : B < w6.heap.size := Nat.lt_of_lt_of_le z5 b6.size
  have q0 : w6.cell? ⟨B, 0, none⟩ = some (.int .i64 f) := (b6.cell (p := ⟨B, 0, none⟩) z5).trans q0
  have q1 : w6.cell? ⟨B, 1, none⟩ = some (.int .i64 t) := (b6.cell (p := ⟨B, 1, none⟩) z5).trans q1
  go_upto_region 8 with fail
  have hAl : Below w6.heap.size w6 (w6.alloc (.cells #[.int .i64 FA, .int .i64 FB] 38)) := (Below.refl _ _).alloc (Nat.le_refl _) _
  have q0 : (w6.alloc (.cells #[.int .i64 FA, .int .i64 FB] 38)).cell? ⟨B, 0, none⟩ = some (.int .i64 f) := (hAl.cell (p := ⟨B, 0, none⟩) z6).trans q0
  have q1 : (w6.alloc (.cells #[.int .i64 FA, .int .i64 FB] 38)).cell? ⟨B, 1, none⟩ = some (.int .i64 t) := (hAl.cell (p := ⟨B, 1, none⟩) z6).trans q1
  have k0 : (w6.alloc (.cells #[.int .i64 FA, .int .i64 FB] 38)).cell? ⟨w6.heap.size, 0, none⟩ = some (.int .i64 FA) := by simp
  have k1 : (w6.alloc (.cells #[.int .i64 FA, .int .i64 FB] 38)).cell? ⟨w6.heap.size, 1, none⟩ = some (.int .i64 FB) := by simp
  have kz : w6.heap.size < (w6.alloc (.cells #[.int .i64 FA, .int .i64 FB] 38)).heap.size := by simp
  have bw7 := bw6.alloc bw6.size (.cells #[.int .i64 FA, .int .i64 FB] 38)
  generalize w6.alloc (.cells #[.int .i64 FA, .int .i64 FB] 38) = w7 at *
  generalize w6.heap.size = R at *
  go_wp2_with fail
  refine (HF2.out _ bw7).mono ?_; rintro e w8 ⟨rfl, b8⟩
  have bw8 := bw7.trans (b8.mono bw7.size)
  have k0 : w8.cell? ⟨R, 0, none⟩ = some (.int .i64 FA) := (b8.cell (p := ⟨R, 0, none⟩) kz).trans k0
  have k1 : w8.cell? ⟨R, 1, none⟩ = some (.int .i64 FB) := (b8.cell (p := ⟨R, 1, none⟩) kz).trans k1
  have kz : R < w8.heap.size := Nat.lt_of_lt_of_le kz b8.size
  go_wp2_with fail
  refine (awake4_any _).mono ?_; rintro e w9 ⟨rfl, b9⟩
  have bwX := bw8.alloc bw8.size (.cells #[.int .i64 FA, .int .i64 FB] 38)
  have bw9 := bwX.trans (b9.mono bwX.size)
  go_wp2_with fail
  go_ret
  exact ⟨rfl, bw9⟩

end Go.Proofs.Ytgbdmgmbdjajeaa
