/- The reference's round: a fraction to a whole number. -/
import Derived.Test.YtppaklifacadpaaGreatDoorNumOver
namespace Go.Proofs.YtppaklifacadpaaGreatDoor
set_option linter.unusedVariables false
set_option linter.unusedSimpArgs false
open Go.RowKit

/-- The whole number to which the absolute value Z / Y is rounded. -/
def rdV (s : Bool) (way Z Y : Int) : Int := Z / Y + (if growsB (Z % Y) Y s way = true then 1 else 0)

theorem rd_no {s : Bool} {way Z Y : Int} (h : growsB (Z % Y) Y s way = false) : Z / Y = rdV s way Z Y := by rw [rdV, h]; simp
theorem rd_up {s : Bool} {way Z Y : Int} (h : growsB (Z % Y) Y s way = true) : Z / Y + 1 = rdV s way Z Y := by rw [rdV, h]; simp

set_option maxRecDepth 100000 in
set_option maxHeartbeats 4000000 in
theorem round_down_pos (a1 a2 : Option Addr) (n1 n2 c1 c2 : Nat) (zs ys : List Int) (w : World) (hu : Lim w (.slice a1 n1 c1) zs) (hv : Lim w (.slice a2 n2 c2) ys) (cz : Canon zs) (cy : Canon ys) (hp : 0 < lval ys) (L : Nat) (hn : zs.length ≤ L) (hm : ys.length ≤ L) (hL : L ≤ 400) (hL1 : 1 ≤ L) :
    Calls Tryz.prog 19 #[.agg #[.bool false, .slice a1 n1 c1, .slice a2 n2 c2], .int .i64 1] w fun e w' => (∃ r, e = .returned r ∧ ∃ qs, Lim w' r qs ∧ Canon qs ∧ lval qs = rdV false 1 (lval zs) (lval ys) ∧ qs.length ≤ L + 1) ∧ Below w.heap.size w w' := by
  have HU := Lib.hid hu; have HV := Lib.hid hv; have CZ := Lib.hid cz; have CY := Lib.hid cy; have HP := Lib.hid hp
  have hu1 := hu.below ((Below.refl w.heap.size w).alloc (Nat.le_refl _) (.cells #[.bool false, .slice a1 n1 c1, .slice a2 n2 c2] 38)) (Nat.le_refl _)
  have hv1 := hv.below ((Below.refl w.heap.size w).alloc (Nat.le_refl _) (.cells #[.bool false, .slice a1 n1 c1, .slice a2 n2 c2] 38)) (Nat.le_refl _)
  have HU1 := Lib.hid hu1; have HV1 := Lib.hid hv1
  have HB1 : Hid (Below w.heap.size w (w.alloc (.cells #[.bool false, .slice a1 n1 c1, .slice a2 n2 c2] 38))) := Lib.hid ((Below.refl _ _).alloc (Nat.le_refl _) _)
  have HS1 : Hid ((w.alloc (.cells #[.bool false, .slice a1 n1 c1, .slice a2 n2 c2] 38)).heap.size = w.heap.size + 1) := Lib.hid (by simp)
  have HC1 : ∀ j, Hid ((w.alloc (.cells #[.bool false, .slice a1 n1 c1, .slice a2 n2 c2] 38)).cell? ⟨w.heap.size, j, none⟩ = (#[.bool false, .slice a1 n1 c1, .slice a2 n2 c2] : Array Value)[j]?) := fun j => Lib.hid (World.cell?_alloc_new _ _ _ _)
  clear hu hv cz cy hp hu1 hv1
  go_enter Tryz.func19, Tryz.ntmps19
  go_wp2_with fail
  refine (divide_any _ _ zs ys _ HU1.out HV1.out CZ.out.1 CY.out HP.out (by omega) (by omega)).mono ?_
  rintro e w2 ⟨⟨r, t, rfl, qs, rs, g1, g2, g3, g4, g5, g6, g7, g8⟩, b2⟩
  have G1 := Lib.hid g1; have G2 := Lib.hid g2; have G3 := Lib.hid g3; have G4 := Lib.hid g4; have G5 := Lib.hid g5; have G6 := Lib.hid g6; have G7 := Lib.hid g7; have G8 := Lib.hid g8
  have hc0 : w2.cell? ⟨w.heap.size, 0, none⟩ = some (.bool false) := by rw [b2.cell (by rw [HS1.out]; exact Nat.lt_succ_self _), (HC1 0).out]; rfl
  have hc2 : w2.cell? ⟨w.heap.size, 2, none⟩ = some (.slice a2 n2 c2) := by rw [b2.cell (by rw [HS1.out]; exact Nat.lt_succ_self _), (HC1 2).out]; rfl
  have B2 := Lib.hid (HB1.out.trans (b2.mono HB1.out.size))
  have HV2 := Lib.hid (HV1.out.below b2 (Nat.le_refl _))
  have HSW : Hid (w.heap.size + 1 ≤ w2.heap.size) := Lib.hid (by have := b2.size; rw [HS1.out] at this; exact this)
  have hq1 := G1.out.below ((Below.refl w2.heap.size w2).alloc (Nat.le_refl _) (.cells #[.int .i64 1] 3)) (Nat.le_refl _)
  have HQ1 := Lib.hid hq1
  obtain ⟨a5, c5, rfl, -, -⟩ := G1.out.parts
  obtain ⟨a6, c6, e6, l6, -⟩ := G2.out.parts
  obtain ⟨m, hm⟩ : ∃ m, rs.length = m := ⟨_, rfl⟩
  rw [hm] at e6 l6
  unfold maxLen at l6
  subst e6
  have HMM := Lib.hid hm
  clear g1 g2 g3 g4 g5 g6 g7 g8 b2 hq1 hm
  go_wp2_with fail
  go_ret
  exact ⟨⟨_, rfl, qs, G1.out, G3.out, G5.out.trans (rd_no (by simp [growsB])), by have := G7.out; omega⟩, B2.out⟩

set_option maxRecDepth 100000 in
set_option maxHeartbeats 4000000 in
theorem round_down_neg (a1 a2 : Option Addr) (n1 n2 c1 c2 : Nat) (zs ys : List Int) (w : World) (hu : Lim w (.slice a1 n1 c1) zs) (hv : Lim w (.slice a2 n2 c2) ys) (cz : Canon zs) (cy : Canon ys) (hp : 0 < lval ys) (L : Nat) (hn : zs.length ≤ L) (hm : ys.length ≤ L) (hL : L ≤ 400) (hL1 : 1 ≤ L) :
    Calls Tryz.prog 19 #[.agg #[.bool true, .slice a1 n1 c1, .slice a2 n2 c2], .int .i64 1] w fun e w' => (∃ r, e = .returned r ∧ ∃ qs, Lim w' r qs ∧ Canon qs ∧ lval qs = rdV true 1 (lval zs) (lval ys) ∧ qs.length ≤ L + 1) ∧ Below w.heap.size w w' := by
  have HU := Lib.hid hu; have HV := Lib.hid hv; have CZ := Lib.hid cz; have CY := Lib.hid cy; have HP := Lib.hid hp
  have hu1 := hu.below ((Below.refl w.heap.size w).alloc (Nat.le_refl _) (.cells #[.bool true, .slice a1 n1 c1, .slice a2 n2 c2] 38)) (Nat.le_refl _)
  have hv1 := hv.below ((Below.refl w.heap.size w).alloc (Nat.le_refl _) (.cells #[.bool true, .slice a1 n1 c1, .slice a2 n2 c2] 38)) (Nat.le_refl _)
  have HU1 := Lib.hid hu1; have HV1 := Lib.hid hv1
  have HB1 : Hid (Below w.heap.size w (w.alloc (.cells #[.bool true, .slice a1 n1 c1, .slice a2 n2 c2] 38))) := Lib.hid ((Below.refl _ _).alloc (Nat.le_refl _) _)
  have HS1 : Hid ((w.alloc (.cells #[.bool true, .slice a1 n1 c1, .slice a2 n2 c2] 38)).heap.size = w.heap.size + 1) := Lib.hid (by simp)
  have HC1 : ∀ j, Hid ((w.alloc (.cells #[.bool true, .slice a1 n1 c1, .slice a2 n2 c2] 38)).cell? ⟨w.heap.size, j, none⟩ = (#[.bool true, .slice a1 n1 c1, .slice a2 n2 c2] : Array Value)[j]?) := fun j => Lib.hid (World.cell?_alloc_new _ _ _ _)
  clear hu hv cz cy hp hu1 hv1
  go_enter Tryz.func19, Tryz.ntmps19
  go_wp2_with fail
  refine (divide_any _ _ zs ys _ HU1.out HV1.out CZ.out.1 CY.out HP.out (by omega) (by omega)).mono ?_
  rintro e w2 ⟨⟨r, t, rfl, qs, rs, g1, g2, g3, g4, g5, g6, g7, g8⟩, b2⟩
  have G1 := Lib.hid g1; have G2 := Lib.hid g2; have G3 := Lib.hid g3; have G4 := Lib.hid g4; have G5 := Lib.hid g5; have G6 := Lib.hid g6; have G7 := Lib.hid g7; have G8 := Lib.hid g8
  have hc0 : w2.cell? ⟨w.heap.size, 0, none⟩ = some (.bool true) := by rw [b2.cell (by rw [HS1.out]; exact Nat.lt_succ_self _), (HC1 0).out]; rfl
  have hc2 : w2.cell? ⟨w.heap.size, 2, none⟩ = some (.slice a2 n2 c2) := by rw [b2.cell (by rw [HS1.out]; exact Nat.lt_succ_self _), (HC1 2).out]; rfl
  have B2 := Lib.hid (HB1.out.trans (b2.mono HB1.out.size))
  have HV2 := Lib.hid (HV1.out.below b2 (Nat.le_refl _))
  have HSW : Hid (w.heap.size + 1 ≤ w2.heap.size) := Lib.hid (by have := b2.size; rw [HS1.out] at this; exact this)
  have hq1 := G1.out.below ((Below.refl w2.heap.size w2).alloc (Nat.le_refl _) (.cells #[.int .i64 1] 3)) (Nat.le_refl _)
  have HQ1 := Lib.hid hq1
  obtain ⟨a5, c5, rfl, -, -⟩ := G1.out.parts
  obtain ⟨a6, c6, e6, l6, -⟩ := G2.out.parts
  obtain ⟨m, hm⟩ : ∃ m, rs.length = m := ⟨_, rfl⟩
  rw [hm] at e6 l6
  unfold maxLen at l6
  subst e6
  have HMM := Lib.hid hm
  clear g1 g2 g3 g4 g5 g6 g7 g8 b2 hq1 hm
  by_cases h0 : m < 1
  · have hm0 : m = 0 := by omega
    subst hm0
    have hz : lval zs % lval ys = 0 := by rw [← G6.out, List.length_eq_zero_iff.1 HMM.out]; rfl
    have HZ := Lib.hid hz
    clear hz h0
    go_wp2_with fail
    go_ret
    exact ⟨⟨_, rfl, qs, G1.out, G3.out, G5.out.trans (rd_no (by rw [HZ.out]; simp [growsB])), by have := G7.out; omega⟩, B2.out⟩
  · have hz : 0 < lval zs % lval ys := by rw [← G6.out]; exact (canon_pos rs G4.out).2 (fun hx => by have := HMM.out; rw [hx] at this; simp at this; omega)
    have HZ := Lib.hid hz
    clear hz
    go_wp2_with fail
    refine (add_any _ _ qs [1] _ HQ1.out (lim_one w2) G3.out canon_one (by have := G7.out; omega) (by simp)).mono ?_
    rintro e w4 ⟨⟨r4, rfl, ks, k1, k2, k3, k4⟩, b4⟩
    have K1 := Lib.hid k1; have K2 := Lib.hid k2; have K3 := Lib.hid k3; have K4 := Lib.hid k4; have B4 := Lib.hid ((B2.out.alloc B2.out.size (.cells #[.int .i64 1] 3)).trans (b4.mono (by have := B2.out.size; simp; omega)))
    clear k1 k2 k3 k4 b4
    go_wp2_with fail
    go_ret
    exact ⟨⟨_, rfl, ks, K1.out, K2.out, by rw [K3.out, lval_1, G5.out]; exact rd_up (by simp [growsB, HZ.out]), by have h5 := K4.out; have := G7.out; rw [show ([1] : List Int).length = 1 from rfl] at h5; omega⟩, B4.out⟩

set_option maxRecDepth 100000 in
set_option maxHeartbeats 4000000 in
theorem round_up_neg (a1 a2 : Option Addr) (n1 n2 c1 c2 : Nat) (zs ys : List Int) (w : World) (hu : Lim w (.slice a1 n1 c1) zs) (hv : Lim w (.slice a2 n2 c2) ys) (cz : Canon zs) (cy : Canon ys) (hp : 0 < lval ys) (L : Nat) (hn : zs.length ≤ L) (hm : ys.length ≤ L) (hL : L ≤ 400) (hL1 : 1 ≤ L) :
    Calls Tryz.prog 19 #[.agg #[.bool true, .slice a1 n1 c1, .slice a2 n2 c2], .int .i64 3] w fun e w' => (∃ r, e = .returned r ∧ ∃ qs, Lim w' r qs ∧ Canon qs ∧ lval qs = rdV true 3 (lval zs) (lval ys) ∧ qs.length ≤ L + 1) ∧ Below w.heap.size w w' := by
  have HU := Lib.hid hu; have HV := Lib.hid hv; have CZ := Lib.hid cz; have CY := Lib.hid cy; have HP := Lib.hid hp
  have hu1 := hu.below ((Below.refl w.heap.size w).alloc (Nat.le_refl _) (.cells #[.bool true, .slice a1 n1 c1, .slice a2 n2 c2] 38)) (Nat.le_refl _)
  have hv1 := hv.below ((Below.refl w.heap.size w).alloc (Nat.le_refl _) (.cells #[.bool true, .slice a1 n1 c1, .slice a2 n2 c2] 38)) (Nat.le_refl _)
  have HU1 := Lib.hid hu1; have HV1 := Lib.hid hv1
  have HB1 : Hid (Below w.heap.size w (w.alloc (.cells #[.bool true, .slice a1 n1 c1, .slice a2 n2 c2] 38))) := Lib.hid ((Below.refl _ _).alloc (Nat.le_refl _) _)
  have HS1 : Hid ((w.alloc (.cells #[.bool true, .slice a1 n1 c1, .slice a2 n2 c2] 38)).heap.size = w.heap.size + 1) := Lib.hid (by simp)
  have HC1 : ∀ j, Hid ((w.alloc (.cells #[.bool true, .slice a1 n1 c1, .slice a2 n2 c2] 38)).cell? ⟨w.heap.size, j, none⟩ = (#[.bool true, .slice a1 n1 c1, .slice a2 n2 c2] : Array Value)[j]?) := fun j => Lib.hid (World.cell?_alloc_new _ _ _ _)
  clear hu hv cz cy hp hu1 hv1
  go_enter Tryz.func19, Tryz.ntmps19
  go_wp2_with fail
  refine (divide_any _ _ zs ys _ HU1.out HV1.out CZ.out.1 CY.out HP.out (by omega) (by omega)).mono ?_
  rintro e w2 ⟨⟨r, t, rfl, qs, rs, g1, g2, g3, g4, g5, g6, g7, g8⟩, b2⟩
  have G1 := Lib.hid g1; have G2 := Lib.hid g2; have G3 := Lib.hid g3; have G4 := Lib.hid g4; have G5 := Lib.hid g5; have G6 := Lib.hid g6; have G7 := Lib.hid g7; have G8 := Lib.hid g8
  have hc0 : w2.cell? ⟨w.heap.size, 0, none⟩ = some (.bool true) := by rw [b2.cell (by rw [HS1.out]; exact Nat.lt_succ_self _), (HC1 0).out]; rfl
  have hc2 : w2.cell? ⟨w.heap.size, 2, none⟩ = some (.slice a2 n2 c2) := by rw [b2.cell (by rw [HS1.out]; exact Nat.lt_succ_self _), (HC1 2).out]; rfl
  have B2 := Lib.hid (HB1.out.trans (b2.mono HB1.out.size))
  have HV2 := Lib.hid (HV1.out.below b2 (Nat.le_refl _))
  have HSW : Hid (w.heap.size + 1 ≤ w2.heap.size) := Lib.hid (by have := b2.size; rw [HS1.out] at this; exact this)
  have hq1 := G1.out.below ((Below.refl w2.heap.size w2).alloc (Nat.le_refl _) (.cells #[.int .i64 1] 3)) (Nat.le_refl _)
  have HQ1 := Lib.hid hq1
  obtain ⟨a5, c5, rfl, -, -⟩ := G1.out.parts
  obtain ⟨a6, c6, e6, l6, -⟩ := G2.out.parts
  obtain ⟨m, hm⟩ : ∃ m, rs.length = m := ⟨_, rfl⟩
  rw [hm] at e6 l6
  unfold maxLen at l6
  subst e6
  have HMM := Lib.hid hm
  clear g1 g2 g3 g4 g5 g6 g7 g8 b2 hq1 hm
  go_wp2_with fail
  go_ret
  exact ⟨⟨_, rfl, qs, G1.out, G3.out, G5.out.trans (rd_no (by simp [growsB])), by have := G7.out; omega⟩, B2.out⟩

set_option maxRecDepth 100000 in
set_option maxHeartbeats 4000000 in
theorem round_up_pos (a1 a2 : Option Addr) (n1 n2 c1 c2 : Nat) (zs ys : List Int) (w : World) (hu : Lim w (.slice a1 n1 c1) zs) (hv : Lim w (.slice a2 n2 c2) ys) (cz : Canon zs) (cy : Canon ys) (hp : 0 < lval ys) (L : Nat) (hn : zs.length ≤ L) (hm : ys.length ≤ L) (hL : L ≤ 400) (hL1 : 1 ≤ L) :
    Calls Tryz.prog 19 #[.agg #[.bool false, .slice a1 n1 c1, .slice a2 n2 c2], .int .i64 3] w fun e w' => (∃ r, e = .returned r ∧ ∃ qs, Lim w' r qs ∧ Canon qs ∧ lval qs = rdV false 3 (lval zs) (lval ys) ∧ qs.length ≤ L + 1) ∧ Below w.heap.size w w' := by
  have HU := Lib.hid hu; have HV := Lib.hid hv; have CZ := Lib.hid cz; have CY := Lib.hid cy; have HP := Lib.hid hp
  have hu1 := hu.below ((Below.refl w.heap.size w).alloc (Nat.le_refl _) (.cells #[.bool false, .slice a1 n1 c1, .slice a2 n2 c2] 38)) (Nat.le_refl _)
  have hv1 := hv.below ((Below.refl w.heap.size w).alloc (Nat.le_refl _) (.cells #[.bool false, .slice a1 n1 c1, .slice a2 n2 c2] 38)) (Nat.le_refl _)
  have HU1 := Lib.hid hu1; have HV1 := Lib.hid hv1
  have HB1 : Hid (Below w.heap.size w (w.alloc (.cells #[.bool false, .slice a1 n1 c1, .slice a2 n2 c2] 38))) := Lib.hid ((Below.refl _ _).alloc (Nat.le_refl _) _)
  have HS1 : Hid ((w.alloc (.cells #[.bool false, .slice a1 n1 c1, .slice a2 n2 c2] 38)).heap.size = w.heap.size + 1) := Lib.hid (by simp)
  have HC1 : ∀ j, Hid ((w.alloc (.cells #[.bool false, .slice a1 n1 c1, .slice a2 n2 c2] 38)).cell? ⟨w.heap.size, j, none⟩ = (#[.bool false, .slice a1 n1 c1, .slice a2 n2 c2] : Array Value)[j]?) := fun j => Lib.hid (World.cell?_alloc_new _ _ _ _)
  clear hu hv cz cy hp hu1 hv1
  go_enter Tryz.func19, Tryz.ntmps19
  go_wp2_with fail
  refine (divide_any _ _ zs ys _ HU1.out HV1.out CZ.out.1 CY.out HP.out (by omega) (by omega)).mono ?_
  rintro e w2 ⟨⟨r, t, rfl, qs, rs, g1, g2, g3, g4, g5, g6, g7, g8⟩, b2⟩
  have G1 := Lib.hid g1; have G2 := Lib.hid g2; have G3 := Lib.hid g3; have G4 := Lib.hid g4; have G5 := Lib.hid g5; have G6 := Lib.hid g6; have G7 := Lib.hid g7; have G8 := Lib.hid g8
  have hc0 : w2.cell? ⟨w.heap.size, 0, none⟩ = some (.bool false) := by rw [b2.cell (by rw [HS1.out]; exact Nat.lt_succ_self _), (HC1 0).out]; rfl
  have hc2 : w2.cell? ⟨w.heap.size, 2, none⟩ = some (.slice a2 n2 c2) := by rw [b2.cell (by rw [HS1.out]; exact Nat.lt_succ_self _), (HC1 2).out]; rfl
  have B2 := Lib.hid (HB1.out.trans (b2.mono HB1.out.size))
  have HV2 := Lib.hid (HV1.out.below b2 (Nat.le_refl _))
  have HSW : Hid (w.heap.size + 1 ≤ w2.heap.size) := Lib.hid (by have := b2.size; rw [HS1.out] at this; exact this)
  have hq1 := G1.out.below ((Below.refl w2.heap.size w2).alloc (Nat.le_refl _) (.cells #[.int .i64 1] 3)) (Nat.le_refl _)
  have HQ1 := Lib.hid hq1
  obtain ⟨a5, c5, rfl, -, -⟩ := G1.out.parts
  obtain ⟨a6, c6, e6, l6, -⟩ := G2.out.parts
  obtain ⟨m, hm⟩ : ∃ m, rs.length = m := ⟨_, rfl⟩
  rw [hm] at e6 l6
  unfold maxLen at l6
  subst e6
  have HMM := Lib.hid hm
  clear g1 g2 g3 g4 g5 g6 g7 g8 b2 hq1 hm
  by_cases h0 : m < 1
  · have hm0 : m = 0 := by omega
    subst hm0
    have hz : lval zs % lval ys = 0 := by rw [← G6.out, List.length_eq_zero_iff.1 HMM.out]; rfl
    have HZ := Lib.hid hz
    clear hz h0
    go_wp2_with fail
    go_ret
    exact ⟨⟨_, rfl, qs, G1.out, G3.out, G5.out.trans (rd_no (by rw [HZ.out]; simp [growsB])), by have := G7.out; omega⟩, B2.out⟩
  · have hz : 0 < lval zs % lval ys := by rw [← G6.out]; exact (canon_pos rs G4.out).2 (fun hx => by have := HMM.out; rw [hx] at this; simp at this; omega)
    have HZ := Lib.hid hz
    clear hz
    go_wp2_with fail
    refine (add_any _ _ qs [1] _ HQ1.out (lim_one w2) G3.out canon_one (by have := G7.out; omega) (by simp)).mono ?_
    rintro e w4 ⟨⟨r4, rfl, ks, k1, k2, k3, k4⟩, b4⟩
    have K1 := Lib.hid k1; have K2 := Lib.hid k2; have K3 := Lib.hid k3; have K4 := Lib.hid k4; have B4 := Lib.hid ((B2.out.alloc B2.out.size (.cells #[.int .i64 1] 3)).trans (b4.mono (by have := B2.out.size; simp; omega)))
    clear k1 k2 k3 k4 b4
    go_wp2_with fail
    go_ret
    exact ⟨⟨_, rfl, ks, K1.out, K2.out, by rw [K3.out, lval_1, G5.out]; exact rd_up (by simp [growsB, HZ.out]), by have h5 := K4.out; have := G7.out; rw [show ([1] : List Int).length = 1 from rfl] at h5; omega⟩, B4.out⟩

set_option maxRecDepth 100000 in
set_option maxHeartbeats 4000000 in
theorem round_near_false (a1 a2 : Option Addr) (n1 n2 c1 c2 : Nat) (zs ys : List Int) (w : World) (hu : Lim w (.slice a1 n1 c1) zs) (hv : Lim w (.slice a2 n2 c2) ys) (cz : Canon zs) (cy : Canon ys) (hp : 0 < lval ys) (L : Nat) (hn : zs.length ≤ L) (hm : ys.length ≤ L) (hL : L ≤ 400) (hL1 : 1 ≤ L) :
    Calls Tryz.prog 19 #[.agg #[.bool false, .slice a1 n1 c1, .slice a2 n2 c2], .int .i64 2] w fun e w' => (∃ r, e = .returned r ∧ ∃ qs, Lim w' r qs ∧ Canon qs ∧ lval qs = rdV false 2 (lval zs) (lval ys) ∧ qs.length ≤ L + 1) ∧ Below w.heap.size w w' := by
  have HU := Lib.hid hu; have HV := Lib.hid hv; have CZ := Lib.hid cz; have CY := Lib.hid cy; have HP := Lib.hid hp
  have hu1 := hu.below ((Below.refl w.heap.size w).alloc (Nat.le_refl _) (.cells #[.bool false, .slice a1 n1 c1, .slice a2 n2 c2] 38)) (Nat.le_refl _)
  have hv1 := hv.below ((Below.refl w.heap.size w).alloc (Nat.le_refl _) (.cells #[.bool false, .slice a1 n1 c1, .slice a2 n2 c2] 38)) (Nat.le_refl _)
  have HU1 := Lib.hid hu1; have HV1 := Lib.hid hv1
  have HB1 : Hid (Below w.heap.size w (w.alloc (.cells #[.bool false, .slice a1 n1 c1, .slice a2 n2 c2] 38))) := Lib.hid ((Below.refl _ _).alloc (Nat.le_refl _) _)
  have HS1 : Hid ((w.alloc (.cells #[.bool false, .slice a1 n1 c1, .slice a2 n2 c2] 38)).heap.size = w.heap.size + 1) := Lib.hid (by simp)
  have HC1 : ∀ j, Hid ((w.alloc (.cells #[.bool false, .slice a1 n1 c1, .slice a2 n2 c2] 38)).cell? ⟨w.heap.size, j, none⟩ = (#[.bool false, .slice a1 n1 c1, .slice a2 n2 c2] : Array Value)[j]?) := fun j => Lib.hid (World.cell?_alloc_new _ _ _ _)
  clear hu hv cz cy hp hu1 hv1
  go_enter Tryz.func19, Tryz.ntmps19
  go_wp2_with fail
  refine (divide_any _ _ zs ys _ HU1.out HV1.out CZ.out.1 CY.out HP.out (by omega) (by omega)).mono ?_
  rintro e w2 ⟨⟨r, t, rfl, qs, rs, g1, g2, g3, g4, g5, g6, g7, g8⟩, b2⟩
  have G1 := Lib.hid g1; have G2 := Lib.hid g2; have G3 := Lib.hid g3; have G4 := Lib.hid g4; have G5 := Lib.hid g5; have G6 := Lib.hid g6; have G7 := Lib.hid g7; have G8 := Lib.hid g8
  have hc0 : w2.cell? ⟨w.heap.size, 0, none⟩ = some (.bool false) := by rw [b2.cell (by rw [HS1.out]; exact Nat.lt_succ_self _), (HC1 0).out]; rfl
  have hc2 : w2.cell? ⟨w.heap.size, 2, none⟩ = some (.slice a2 n2 c2) := by rw [b2.cell (by rw [HS1.out]; exact Nat.lt_succ_self _), (HC1 2).out]; rfl
  have B2 := Lib.hid (HB1.out.trans (b2.mono HB1.out.size))
  have HV2 := Lib.hid (HV1.out.below b2 (Nat.le_refl _))
  have HSW : Hid (w.heap.size + 1 ≤ w2.heap.size) := Lib.hid (by have := b2.size; rw [HS1.out] at this; exact this)
  have hq1 := G1.out.below ((Below.refl w2.heap.size w2).alloc (Nat.le_refl _) (.cells #[.int .i64 1] 3)) (Nat.le_refl _)
  have HQ1 := Lib.hid hq1
  obtain ⟨a5, c5, rfl, -, -⟩ := G1.out.parts
  obtain ⟨a6, c6, e6, l6, -⟩ := G2.out.parts
  obtain ⟨m, hm⟩ : ∃ m, rs.length = m := ⟨_, rfl⟩
  rw [hm] at e6 l6
  unfold maxLen at l6
  subst e6
  have HMM := Lib.hid hm
  clear g1 g2 g3 g4 g5 g6 g7 g8 b2 hq1 hm
  go_upto_region 9 with fail
  go_region_held3 (fun w' => w'.cell? ⟨w.heap.size, 2, none⟩ = some (.slice a2 n2 c2))
    (first
      | exact m4
      | exact m2
      | (go_keep; done))
    (first
      | (go_at_call 46
         refine (add_any _ _ rs rs _ ?g1 ?g2 G4.out G4.out ?g3 ?g4).mono ?_
         (case g1 => exact G2.out.below (B := w2.heap.size) (by repeat (first | exact Below.refl _ _ | apply below_drewN | apply Below.drew)) (Nat.le_refl _))
         (case g2 => exact G2.out.below (B := w2.heap.size) (by repeat (first | exact Below.refl _ _ | apply below_drewN | apply Below.drew)) (Nat.le_refl _))
         (case g3 => have := G8.out; omega)
         (case g4 => have := G8.out; omega)
         rintro e w3 ⟨⟨r3, rfl, ds, ta1, ta2, ta3, ta4⟩, b3⟩
         have TA1 := Lib.hid ta1
         have TA2 := Lib.hid ta2
         have TA3 := Lib.hid ta3
         have BW3 : Hid (Below w2.heap.size w2 w3) := Lib.hid (Below.trans (by repeat (first | exact Below.refl _ _ | apply below_drewN | apply Below.drew)) (b3.mono (by simp)))
         have hs2 : w.heap.size + 1 ≤ w2.heap.size := HSW.out
         have hs3 : w.heap.size + 1 ≤ w3.heap.size := by have := BW3.out.size; omega
         have m2 : w3.cell? ⟨w.heap.size, 2, none⟩ = some (.slice a2 n2 c2) := by rw [BW3.out.cell (by show w.heap.size < _; omega)]; exact hc2
         clear ta1 ta2 ta3 ta4)
      | (go_at_call 45
         refine (cmp_any _ _ ds ys _ ?g1 ?g2 TA2.out CY.out).mono ?_
         (case g1 => exact TA1.out.below (B := w3.heap.size) (by repeat (first | exact Below.refl _ _ | apply below_drewN | apply Below.drew)) (Nat.le_refl _))
         (case g2 => exact HV2.out.below (B := w2.heap.size) (by repeat (first | exact BW3.out | apply below_drewN | apply Below.drew)) (Nat.le_refl _))
         rintro e w4 ⟨rfl, q4, hw4⟩
         obtain ⟨C, hC⟩ : ∃ C, cmpI (lval ds) (lval ys) = C := ⟨_, rfl⟩
         rw [hC]
         have HC := Lib.hid hC
         have BW4 : Hid (Below w2.heap.size w2 w4) := Lib.hid (by rw [hw4]; repeat (first | exact BW3.out | apply below_drewN | apply Below.drew))
         have m4 : w4.cell? ⟨w.heap.size, 2, none⟩ = some (.slice a2 n2 c2) := by rw [BW4.out.cell (by show w.heap.size < _; omega)]; exact hc2
         have hs4 : w.heap.size + 1 ≤ w4.heap.size := by have := BW4.out.size; omega
         clear hC hw4))
  all_goals
    have HQ4 := Lib.hid (G1.out.below BW4.out (Nat.le_refl _))
    have HQ5 := Lib.hid (HQ4.out.below ((Below.refl w4.heap.size w4).alloc (Nat.le_refl _) (.cells #[.int .i64 1] 3)) (Nat.le_refl _))
    have HB4 := Lib.hid (B2.out.trans (BW4.out.mono B2.out.size))
    by_cases h0 : 0 ≤ C
    · have hz : growsB (lval zs % lval ys) (lval ys) false 2 = true := by
        have h1 := HC.out
        have h2 := TA3.out
        rw [G6.out] at h2
        have h3 : lval ys ≤ lval ds := by
          apply Decidable.byContradiction; intro hx
          have := cmpI_lt (show lval ds < lval ys by omega)
          omega
        simp [growsB]; omega
      have HZ := Lib.hid hz
      clear hz
      go_wp2_with fail
      refine (add_any _ _ qs [1] _ HQ5.out (lim_one w4) G3.out canon_one (by have := G7.out; omega) (by simp)).mono ?_
      rintro e w4 ⟨⟨r4, rfl, ks, k1, k2, k3, k4⟩, b4⟩
      have K1 := Lib.hid k1; have K2 := Lib.hid k2; have K3 := Lib.hid k3; have K4 := Lib.hid k4; have B4 := Lib.hid ((HB4.out.alloc HB4.out.size (.cells #[.int .i64 1] 3)).trans (b4.mono (by have := HB4.out.size; simp; omega)))
      clear k1 k2 k3 k4 b4
      go_wp2_with fail
      go_ret
      exact ⟨⟨_, rfl, ks, K1.out, K2.out, by rw [K3.out, lval_1, G5.out]; exact rd_up (HZ.out), by have h5 := K4.out; have := G7.out; rw [show ([1] : List Int).length = 1 from rfl] at h5; omega⟩, B4.out⟩
    · have hz : growsB (lval zs % lval ys) (lval ys) false 2 = false := by
        have h1 := HC.out
        have h2 := TA3.out
        rw [G6.out] at h2
        have h3 : lval ds < lval ys := by
          apply Decidable.byContradiction; intro hx
          rcases Int.lt_or_eq_of_le (show lval ys ≤ lval ds by omega) with h | h
          · have := cmpI_gt h; omega
          · have := cmpI_eq h.symm; omega
        simp [growsB]; omega
      have HZ := Lib.hid hz
      have h0' : decide (0 ≤ C) = false := by simp only [decide_eq_false_iff_not]; exact h0
      clear hz
      go_wp2_with fail
      go_ret
      exact ⟨⟨_, rfl, qs, HQ4.out, G3.out, G5.out.trans (rd_no (HZ.out)), by have := G7.out; omega⟩, HB4.out⟩

set_option maxRecDepth 100000 in
set_option maxHeartbeats 4000000 in
theorem round_near_true (a1 a2 : Option Addr) (n1 n2 c1 c2 : Nat) (zs ys : List Int) (w : World) (hu : Lim w (.slice a1 n1 c1) zs) (hv : Lim w (.slice a2 n2 c2) ys) (cz : Canon zs) (cy : Canon ys) (hp : 0 < lval ys) (L : Nat) (hn : zs.length ≤ L) (hm : ys.length ≤ L) (hL : L ≤ 400) (hL1 : 1 ≤ L) :
    Calls Tryz.prog 19 #[.agg #[.bool true, .slice a1 n1 c1, .slice a2 n2 c2], .int .i64 2] w fun e w' => (∃ r, e = .returned r ∧ ∃ qs, Lim w' r qs ∧ Canon qs ∧ lval qs = rdV true 2 (lval zs) (lval ys) ∧ qs.length ≤ L + 1) ∧ Below w.heap.size w w' := by
  have HU := Lib.hid hu; have HV := Lib.hid hv; have CZ := Lib.hid cz; have CY := Lib.hid cy; have HP := Lib.hid hp
  have hu1 := hu.below ((Below.refl w.heap.size w).alloc (Nat.le_refl _) (.cells #[.bool true, .slice a1 n1 c1, .slice a2 n2 c2] 38)) (Nat.le_refl _)
  have hv1 := hv.below ((Below.refl w.heap.size w).alloc (Nat.le_refl _) (.cells #[.bool true, .slice a1 n1 c1, .slice a2 n2 c2] 38)) (Nat.le_refl _)
  have HU1 := Lib.hid hu1; have HV1 := Lib.hid hv1
  have HB1 : Hid (Below w.heap.size w (w.alloc (.cells #[.bool true, .slice a1 n1 c1, .slice a2 n2 c2] 38))) := Lib.hid ((Below.refl _ _).alloc (Nat.le_refl _) _)
  have HS1 : Hid ((w.alloc (.cells #[.bool true, .slice a1 n1 c1, .slice a2 n2 c2] 38)).heap.size = w.heap.size + 1) := Lib.hid (by simp)
  have HC1 : ∀ j, Hid ((w.alloc (.cells #[.bool true, .slice a1 n1 c1, .slice a2 n2 c2] 38)).cell? ⟨w.heap.size, j, none⟩ = (#[.bool true, .slice a1 n1 c1, .slice a2 n2 c2] : Array Value)[j]?) := fun j => Lib.hid (World.cell?_alloc_new _ _ _ _)
  clear hu hv cz cy hp hu1 hv1
  go_enter Tryz.func19, Tryz.ntmps19
  go_wp2_with fail
  refine (divide_any _ _ zs ys _ HU1.out HV1.out CZ.out.1 CY.out HP.out (by omega) (by omega)).mono ?_
  rintro e w2 ⟨⟨r, t, rfl, qs, rs, g1, g2, g3, g4, g5, g6, g7, g8⟩, b2⟩
  have G1 := Lib.hid g1; have G2 := Lib.hid g2; have G3 := Lib.hid g3; have G4 := Lib.hid g4; have G5 := Lib.hid g5; have G6 := Lib.hid g6; have G7 := Lib.hid g7; have G8 := Lib.hid g8
  have hc0 : w2.cell? ⟨w.heap.size, 0, none⟩ = some (.bool true) := by rw [b2.cell (by rw [HS1.out]; exact Nat.lt_succ_self _), (HC1 0).out]; rfl
  have hc2 : w2.cell? ⟨w.heap.size, 2, none⟩ = some (.slice a2 n2 c2) := by rw [b2.cell (by rw [HS1.out]; exact Nat.lt_succ_self _), (HC1 2).out]; rfl
  have B2 := Lib.hid (HB1.out.trans (b2.mono HB1.out.size))
  have HV2 := Lib.hid (HV1.out.below b2 (Nat.le_refl _))
  have HSW : Hid (w.heap.size + 1 ≤ w2.heap.size) := Lib.hid (by have := b2.size; rw [HS1.out] at this; exact this)
  have hq1 := G1.out.below ((Below.refl w2.heap.size w2).alloc (Nat.le_refl _) (.cells #[.int .i64 1] 3)) (Nat.le_refl _)
  have HQ1 := Lib.hid hq1
  obtain ⟨a5, c5, rfl, -, -⟩ := G1.out.parts
  obtain ⟨a6, c6, e6, l6, -⟩ := G2.out.parts
  obtain ⟨m, hm⟩ : ∃ m, rs.length = m := ⟨_, rfl⟩
  rw [hm] at e6 l6
  unfold maxLen at l6
  subst e6
  have HMM := Lib.hid hm
  clear g1 g2 g3 g4 g5 g6 g7 g8 b2 hq1 hm
  go_upto_region 9 with fail
  go_region_held3 (fun w' => w'.cell? ⟨w.heap.size, 2, none⟩ = some (.slice a2 n2 c2))
    (first
      | exact m4
      | exact m2
      | (go_keep; done))
    (first
      | (go_at_call 46
         refine (add_any _ _ rs rs _ ?g1 ?g2 G4.out G4.out ?g3 ?g4).mono ?_
         (case g1 => exact G2.out.below (B := w2.heap.size) (by repeat (first | exact Below.refl _ _ | apply below_drewN | apply Below.drew)) (Nat.le_refl _))
         (case g2 => exact G2.out.below (B := w2.heap.size) (by repeat (first | exact Below.refl _ _ | apply below_drewN | apply Below.drew)) (Nat.le_refl _))
         (case g3 => have := G8.out; omega)
         (case g4 => have := G8.out; omega)
         rintro e w3 ⟨⟨r3, rfl, ds, ta1, ta2, ta3, ta4⟩, b3⟩
         have TA1 := Lib.hid ta1
         have TA2 := Lib.hid ta2
         have TA3 := Lib.hid ta3
         have BW3 : Hid (Below w2.heap.size w2 w3) := Lib.hid (Below.trans (by repeat (first | exact Below.refl _ _ | apply below_drewN | apply Below.drew)) (b3.mono (by simp)))
         have hs2 : w.heap.size + 1 ≤ w2.heap.size := HSW.out
         have hs3 : w.heap.size + 1 ≤ w3.heap.size := by have := BW3.out.size; omega
         have m2 : w3.cell? ⟨w.heap.size, 2, none⟩ = some (.slice a2 n2 c2) := by rw [BW3.out.cell (by show w.heap.size < _; omega)]; exact hc2
         clear ta1 ta2 ta3 ta4)
      | (go_at_call 45
         refine (cmp_any _ _ ds ys _ ?g1 ?g2 TA2.out CY.out).mono ?_
         (case g1 => exact TA1.out.below (B := w3.heap.size) (by repeat (first | exact Below.refl _ _ | apply below_drewN | apply Below.drew)) (Nat.le_refl _))
         (case g2 => exact HV2.out.below (B := w2.heap.size) (by repeat (first | exact BW3.out | apply below_drewN | apply Below.drew)) (Nat.le_refl _))
         rintro e w4 ⟨rfl, q4, hw4⟩
         obtain ⟨C, hC⟩ : ∃ C, cmpI (lval ds) (lval ys) = C := ⟨_, rfl⟩
         rw [hC]
         have HC := Lib.hid hC
         have BW4 : Hid (Below w2.heap.size w2 w4) := Lib.hid (by rw [hw4]; repeat (first | exact BW3.out | apply below_drewN | apply Below.drew))
         have m4 : w4.cell? ⟨w.heap.size, 2, none⟩ = some (.slice a2 n2 c2) := by rw [BW4.out.cell (by show w.heap.size < _; omega)]; exact hc2
         have hs4 : w.heap.size + 1 ≤ w4.heap.size := by have := BW4.out.size; omega
         clear hC hw4))
  all_goals
    have HQ4 := Lib.hid (G1.out.below BW4.out (Nat.le_refl _))
    have HQ5 := Lib.hid (HQ4.out.below ((Below.refl w4.heap.size w4).alloc (Nat.le_refl _) (.cells #[.int .i64 1] 3)) (Nat.le_refl _))
    have HB4 := Lib.hid (B2.out.trans (BW4.out.mono B2.out.size))
    by_cases h0 : 0 ≤ C
    · have hz : growsB (lval zs % lval ys) (lval ys) true 2 = true := by
        have h1 := HC.out
        have h2 := TA3.out
        rw [G6.out] at h2
        have h3 : lval ys ≤ lval ds := by
          apply Decidable.byContradiction; intro hx
          have := cmpI_lt (show lval ds < lval ys by omega)
          omega
        simp [growsB]; omega
      have HZ := Lib.hid hz
      clear hz
      go_wp2_with fail
      refine (add_any _ _ qs [1] _ HQ5.out (lim_one w4) G3.out canon_one (by have := G7.out; omega) (by simp)).mono ?_
      rintro e w4 ⟨⟨r4, rfl, ks, k1, k2, k3, k4⟩, b4⟩
      have K1 := Lib.hid k1; have K2 := Lib.hid k2; have K3 := Lib.hid k3; have K4 := Lib.hid k4; have B4 := Lib.hid ((HB4.out.alloc HB4.out.size (.cells #[.int .i64 1] 3)).trans (b4.mono (by have := HB4.out.size; simp; omega)))
      clear k1 k2 k3 k4 b4
      go_wp2_with fail
      go_ret
      exact ⟨⟨_, rfl, ks, K1.out, K2.out, by rw [K3.out, lval_1, G5.out]; exact rd_up (HZ.out), by have h5 := K4.out; have := G7.out; rw [show ([1] : List Int).length = 1 from rfl] at h5; omega⟩, B4.out⟩
    · have hz : growsB (lval zs % lval ys) (lval ys) true 2 = false := by
        have h1 := HC.out
        have h2 := TA3.out
        rw [G6.out] at h2
        have h3 : lval ds < lval ys := by
          apply Decidable.byContradiction; intro hx
          rcases Int.lt_or_eq_of_le (show lval ys ≤ lval ds by omega) with h | h
          · have := cmpI_gt h; omega
          · have := cmpI_eq h.symm; omega
        simp [growsB]; omega
      have HZ := Lib.hid hz
      have h0' : decide (0 ≤ C) = false := by simp only [decide_eq_false_iff_not]; exact h0
      clear hz
      go_wp2_with fail
      go_ret
      exact ⟨⟨_, rfl, qs, HQ4.out, G3.out, G5.out.trans (rd_no (HZ.out)), by have := G7.out; omega⟩, HB4.out⟩

end Go.Proofs.YtppaklifacadpaaGreatDoor
