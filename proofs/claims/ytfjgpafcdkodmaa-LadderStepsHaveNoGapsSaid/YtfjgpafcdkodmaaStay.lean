/- staysCorner (program). -/
import Derived.Test.YtfjgpafcdkodmaaHullW
namespace Go.Proofs.Ytfjgpafcdkodmaa
set_option linter.unusedVariables false
set_option linter.unusedSimpArgs false
open Go.RowKit Go.Shelf Go.Deep

/-- Corners as the program keeps them: the last one last. -/
def cornI (st : List Nat) : List Int := st.reverse.map (fun n : Nat => (n : Int))
theorem cornI_len (st : List Nat) : (cornI st).length = st.length := by simp [cornI]
theorem cornI_top (a : Nat) (t : List Nat) : (cornI (a :: t)).getD (t.length) 0 = (a : Int) := by
  unfold cornI
  rw [List.getD_eq_getElem?_getD, List.getElem?_map, List.reverse_cons, List.getElem?_append_right (by simp)]
  simp
theorem cornI_next (a b : Nat) (t : List Nat) : (cornI (a :: b :: t)).getD (t.length) 0 = (b : Int) := by
  unfold cornI
  rw [List.getD_eq_getElem?_getD, List.getElem?_map, List.reverse_cons, List.getElem?_append_left (by simp), List.reverse_cons, List.getElem?_append_right (by simp)]
  simp
theorem cornI_cons (a : Nat) (t : List Nat) : cornI (a :: t) = cornI t ++ [(a : Int)] := by simp [cornI]
set_option maxRecDepth 100000 in
set_option maxHeartbeats 4000000 in
theorem stay_low (b off n cap g o m cp : Nat) (rs : List Rung) (a : Nat) (la r : Rung) (hra : ¬ la.ra < r.ra) (w : World) (hz : rs.length = n) (hn : n ≤ 100) (hlt : b < w.heap.size) (hS : Rungs w (.slice (some ⟨b, off, none⟩) n cap) rs) (hg : g < w.heap.size) (hm1 : 1 ≤ m) (hm : m ≤ 100)
    (hct : w.cell? ⟨g, o + (m - 1), none⟩ = some (.int .i64 (a : Int))) (ha : a < n) (hla : rs.getD a rung0 = la) (okr : OkR r) (oka : OkR la) :
    Calls Try.prog 103 #[.slice (some ⟨b, off, none⟩) n cap, .slice (some ⟨g, o, none⟩) m cp, .agg #[.string r.nm, .int .i64 r.ra, .int .i64 r.he, .int .i64 r.qu]] w fun e w' => e = .returned (.bool false) ∧ Below w.heap.size w w' := by
  obtain ⟨c0, c1, c2, c3⟩ := hS.cells a (by omega)
  rw [hla] at c0 c1 c2 c3
  have XR0 := Four.new w r 37
  have b1 : Below w.heap.size w (w.alloc (.cells #[.string r.nm, .int .i64 r.ra, .int .i64 r.he, .int .i64 r.qu] 37)) := (Below.refl _ w).alloc (Nat.le_refl _) _
  have hct1 : (w.alloc (.cells #[.string r.nm, .int .i64 r.ra, .int .i64 r.he, .int .i64 r.qu] 37)).cell? ⟨g, o + (m - 1), none⟩ = some (.int .i64 (a : Int)) := by rw [b1.cell (p := ⟨g, o + (m - 1), none⟩) hg]; exact hct
  rw [← b1.cell (p := ⟨b, off + a * 4, none⟩) hlt] at c0
  rw [← b1.cell (p := ⟨b, off + a * 4 + 1, none⟩) hlt] at c1
  rw [← b1.cell (p := ⟨b, off + a * 4 + 2, none⟩) hlt] at c2
  rw [← b1.cell (p := ⟨b, off + a * 4 + 3, none⟩) hlt] at c3
  have i0 : (0 : Int) ≤ (a : Int) := by omega
  have i1 : (a : Int) < (n : Int) := by omega
  have j2 : (0 : Int) ≤ (m : Int) - 1 := by omega
  have j3 : (m : Int) - 1 < (m : Int) := by omega
  have j6 : (1 : Int) ≤ (m : Int) := by omega
  have j4 : ((m : Int) - 1).toNat = m - 1 := by omega
  have j5 : IntKind.i64.wrap ((m : Int) - 1) = (m : Int) - 1 := IntWalk.i64_in _ ⟨by omega, by omega⟩
  have hl1 := XR0.lt
  have hb1 : b < (w.alloc (.cells #[.string r.nm, .int .i64 r.ra, .int .i64 r.he, .int .i64 r.qu] 37)).heap.size := Nat.lt_of_lt_of_le hlt b1.size
  have hg1 : g < (w.alloc (.cells #[.string r.nm, .int .i64 r.ra, .int .i64 r.he, .int .i64 r.qu] 37)).heap.size := Nat.lt_of_lt_of_le hg b1.size
  clear hS hct hz hla
  go_enter Try.func103, Try.ntmps103
  go_upto_region 2 with fail
  have hs1 : (w.alloc (.cells #[.string r.nm, .int .i64 r.ra, .int .i64 r.he, .int .i64 r.qu] 37)).heap.size = w.heap.size + 1 := by simp
  have XL0 := Four.new (w.alloc (.cells #[.string r.nm, .int .i64 r.ra, .int .i64 r.he, .int .i64 r.qu] 37)) la 37
  have b2 := b1.alloc (o := .cells #[.string la.nm, .int .i64 la.ra, .int .i64 la.he, .int .i64 la.qu] 37) b1.size
  have XR1 := XR0.alloc (.cells #[.string la.nm, .int .i64 la.ra, .int .i64 la.he, .int .i64 la.qu] 37)
  have hz2 : b < ((w.alloc (.cells #[.string r.nm, .int .i64 r.ra, .int .i64 r.he, .int .i64 r.qu] 37)).alloc (.cells #[.string la.nm, .int .i64 la.ra, .int .i64 la.he, .int .i64 la.qu] 37)).heap.size := Nat.lt_of_lt_of_le hlt b2.size
  have hg2 : g < ((w.alloc (.cells #[.string r.nm, .int .i64 r.ra, .int .i64 r.he, .int .i64 r.qu] 37)).alloc (.cells #[.string la.nm, .int .i64 la.ra, .int .i64 la.he, .int .i64 la.qu] 37)).heap.size := Nat.lt_of_lt_of_le hg b2.size
  rw [hs1] at XL0
  generalize w.alloc (.cells #[.string r.nm, .int .i64 r.ra, .int .i64 r.he, .int .i64 r.qu] 37) = A1 at *
  go_upto_region 3 with fail
  generalize A1.alloc (.cells #[.string la.nm, .int .i64 la.ra, .int .i64 la.he, .int .i64 la.qu] 37) = W at *
  have x1 := XR1.c1; have x0 := XR1.c0; have x2 := XR1.c2; have x3 := XR1.c3; have xl := XR1.lt
  have l1 := XL0.c1; have l0 := XL0.c0; have l2 := XL0.c2; have l3 := XL0.c3; have ll := XL0.lt
  clear c0 c1 c2 c3 hct1 XR0 XR1 XL0 b1
  have hd : decide (la.ra < r.ra) = false := decide_eq_false hra
  clear hra
  go_quiet (fail)
  go_wp2_with fail
  go_ret
  exact ⟨rfl, below_drewN b2 nq⟩
set_option maxRecDepth 100000 in
set_option maxHeartbeats 4000000 in
theorem stay_one (b off n cap g o m cp : Nat) (rs : List Rung) (a : Nat) (la r : Rung) (hra : la.ra < r.ra) (w : World) (hz : rs.length = n) (hn : n ≤ 100) (hlt : b < w.heap.size) (hS : Rungs w (.slice (some ⟨b, off, none⟩) n cap) rs) (hg : g < w.heap.size) (hme : m = 1)
    (hct : w.cell? ⟨g, o, none⟩ = some (.int .i64 (a : Int))) (ha : a < n) (hla : rs.getD a rung0 = la) (okr : OkR r) (oka : OkR la) :
    Calls Try.prog 103 #[.slice (some ⟨b, off, none⟩) n cap, .slice (some ⟨g, o, none⟩) m cp, .agg #[.string r.nm, .int .i64 r.ra, .int .i64 r.he, .int .i64 r.qu]] w fun e w' => e = .returned (.bool true) ∧ Below w.heap.size w w' := by
  subst hme
  obtain ⟨c0, c1, c2, c3⟩ := hS.cells a (by omega)
  rw [hla] at c0 c1 c2 c3
  have XR0 := Four.new w r 37
  have b1 : Below w.heap.size w (w.alloc (.cells #[.string r.nm, .int .i64 r.ra, .int .i64 r.he, .int .i64 r.qu] 37)) := (Below.refl _ w).alloc (Nat.le_refl _) _
  have hct1 : (w.alloc (.cells #[.string r.nm, .int .i64 r.ra, .int .i64 r.he, .int .i64 r.qu] 37)).cell? ⟨g, o, none⟩ = some (.int .i64 (a : Int)) := by rw [b1.cell (p := ⟨g, o, none⟩) hg]; exact hct
  rw [← b1.cell (p := ⟨b, off + a * 4, none⟩) hlt] at c0
  rw [← b1.cell (p := ⟨b, off + a * 4 + 1, none⟩) hlt] at c1
  rw [← b1.cell (p := ⟨b, off + a * 4 + 2, none⟩) hlt] at c2
  rw [← b1.cell (p := ⟨b, off + a * 4 + 3, none⟩) hlt] at c3
  have i0 : (0 : Int) ≤ (a : Int) := by omega
  have i1 : (a : Int) < (n : Int) := by omega
  have hl1 := XR0.lt
  have hb1 : b < (w.alloc (.cells #[.string r.nm, .int .i64 r.ra, .int .i64 r.he, .int .i64 r.qu] 37)).heap.size := Nat.lt_of_lt_of_le hlt b1.size
  have hg1 : g < (w.alloc (.cells #[.string r.nm, .int .i64 r.ra, .int .i64 r.he, .int .i64 r.qu] 37)).heap.size := Nat.lt_of_lt_of_le hg b1.size
  clear hS hct hz hla
  go_enter Try.func103, Try.ntmps103
  go_upto_region 2 with fail
  have hs1 : (w.alloc (.cells #[.string r.nm, .int .i64 r.ra, .int .i64 r.he, .int .i64 r.qu] 37)).heap.size = w.heap.size + 1 := by simp
  have XL0 := Four.new (w.alloc (.cells #[.string r.nm, .int .i64 r.ra, .int .i64 r.he, .int .i64 r.qu] 37)) la 37
  have b2 := b1.alloc (o := .cells #[.string la.nm, .int .i64 la.ra, .int .i64 la.he, .int .i64 la.qu] 37) b1.size
  have XR1 := XR0.alloc (.cells #[.string la.nm, .int .i64 la.ra, .int .i64 la.he, .int .i64 la.qu] 37)
  have hz2 : b < ((w.alloc (.cells #[.string r.nm, .int .i64 r.ra, .int .i64 r.he, .int .i64 r.qu] 37)).alloc (.cells #[.string la.nm, .int .i64 la.ra, .int .i64 la.he, .int .i64 la.qu] 37)).heap.size := Nat.lt_of_lt_of_le hlt b2.size
  have hg2 : g < ((w.alloc (.cells #[.string r.nm, .int .i64 r.ra, .int .i64 r.he, .int .i64 r.qu] 37)).alloc (.cells #[.string la.nm, .int .i64 la.ra, .int .i64 la.he, .int .i64 la.qu] 37)).heap.size := Nat.lt_of_lt_of_le hg b2.size
  rw [hs1] at XL0
  generalize w.alloc (.cells #[.string r.nm, .int .i64 r.ra, .int .i64 r.he, .int .i64 r.qu] 37) = A1 at *
  go_upto_region 3 with fail
  generalize A1.alloc (.cells #[.string la.nm, .int .i64 la.ra, .int .i64 la.he, .int .i64 la.qu] 37) = W at *
  have x1 := XR1.c1; have x0 := XR1.c0; have x2 := XR1.c2; have x3 := XR1.c3; have xl := XR1.lt
  have l1 := XL0.c1; have l0 := XL0.c0; have l2 := XL0.c2; have l3 := XL0.c3; have ll := XL0.lt
  clear c0 c1 c2 c3 hct1 XR0 XR1 XL0 b1
  go_quiet (fail)
  go_wp2_with fail
  go_ret
  exact ⟨rfl, below_drewN b2 nq⟩
set_option maxRecDepth 100000 in
set_option maxHeartbeats 4000000 in
theorem stay_two (b off n cap g o m cp : Nat) (rs : List Rung) (a : Nat) (la r : Rung) (d : Nat) (ld : Rung) (hra : la.ra < r.ra) (w : World) (hz : rs.length = n) (hn : n ≤ 100) (hlt : b < w.heap.size) (hS : Rungs w (.slice (some ⟨b, off, none⟩) n cap) rs) (hg : g < w.heap.size) (hm1 : 2 ≤ m) (hcn : w.cell? ⟨g, o + (m - 2), none⟩ = some (.int .i64 (d : Int))) (hd : d < n) (hld : rs.getD d rung0 = ld) (okd : OkR ld) (hm : m ≤ 100)
    (hct : w.cell? ⟨g, o + (m - 1), none⟩ = some (.int .i64 (a : Int))) (ha : a < n) (hla : rs.getD a rung0 = la) (okr : OkR r) (oka : OkR la) :
    Calls Try.prog 103 #[.slice (some ⟨b, off, none⟩) n cap, .slice (some ⟨g, o, none⟩) m cp, .agg #[.string r.nm, .int .i64 r.ra, .int .i64 r.he, .int .i64 r.qu]] w fun e w' => e = .returned (.bool (aboveB la ld r)) ∧ Below w.heap.size w w' := by
  obtain ⟨c0, c1, c2, c3⟩ := hS.cells a (by omega)
  rw [hla] at c0 c1 c2 c3
  have XR0 := Four.new w r 37
  have b1 : Below w.heap.size w (w.alloc (.cells #[.string r.nm, .int .i64 r.ra, .int .i64 r.he, .int .i64 r.qu] 37)) := (Below.refl _ w).alloc (Nat.le_refl _) _
  have hct1 : (w.alloc (.cells #[.string r.nm, .int .i64 r.ra, .int .i64 r.he, .int .i64 r.qu] 37)).cell? ⟨g, o + (m - 1), none⟩ = some (.int .i64 (a : Int)) := by rw [b1.cell (p := ⟨g, o + (m - 1), none⟩) hg]; exact hct
  rw [← b1.cell (p := ⟨b, off + a * 4, none⟩) hlt] at c0
  rw [← b1.cell (p := ⟨b, off + a * 4 + 1, none⟩) hlt] at c1
  rw [← b1.cell (p := ⟨b, off + a * 4 + 2, none⟩) hlt] at c2
  rw [← b1.cell (p := ⟨b, off + a * 4 + 3, none⟩) hlt] at c3
  have hcn1 : (w.alloc (.cells #[.string r.nm, .int .i64 r.ra, .int .i64 r.he, .int .i64 r.qu] 37)).cell? ⟨g, o + (m - 2), none⟩ = some (.int .i64 (d : Int)) := by rw [b1.cell (p := ⟨g, o + (m - 2), none⟩) hg]; exact hcn
  obtain ⟨f0, f1, f2, f3⟩ := hS.cells d (by omega)
  rw [hld] at f0 f1 f2 f3
  have i2 : (0 : Int) ≤ (d : Int) := by omega
  have i3 : (d : Int) < (n : Int) := by omega
  have HAB := Lib.hid (fun W => isAbove_any la ld r W oka okd okr)
  obtain ⟨R, hR⟩ : ∃ R, aboveB la ld r = R := ⟨_, rfl⟩
  rw [hR] at HAB ⊢
  have k2 : (0 : Int) ≤ (m : Int) - 2 := by omega
  have k3 : (m : Int) - 2 < (m : Int) := by omega
  have k6 : (2 : Int) ≤ (m : Int) := by omega
  have k4 : ((m : Int) - 2).toNat = m - 2 := by omega
  have k5 : IntKind.i64.wrap ((m : Int) - 2) = (m : Int) - 2 := IntWalk.i64_in _ ⟨by omega, by omega⟩
  have i0 : (0 : Int) ≤ (a : Int) := by omega
  have i1 : (a : Int) < (n : Int) := by omega
  have j2 : (0 : Int) ≤ (m : Int) - 1 := by omega
  have j3 : (m : Int) - 1 < (m : Int) := by omega
  have j6 : (1 : Int) ≤ (m : Int) := by omega
  have j4 : ((m : Int) - 1).toNat = m - 1 := by omega
  have j5 : IntKind.i64.wrap ((m : Int) - 1) = (m : Int) - 1 := IntWalk.i64_in _ ⟨by omega, by omega⟩
  have hl1 := XR0.lt
  have hb1 : b < (w.alloc (.cells #[.string r.nm, .int .i64 r.ra, .int .i64 r.he, .int .i64 r.qu] 37)).heap.size := Nat.lt_of_lt_of_le hlt b1.size
  have hg1 : g < (w.alloc (.cells #[.string r.nm, .int .i64 r.ra, .int .i64 r.he, .int .i64 r.qu] 37)).heap.size := Nat.lt_of_lt_of_le hg b1.size
  clear hS hct hz hla hld hR okr oka okd
  go_enter Try.func103, Try.ntmps103
  go_upto_region 2 with fail
  have hs1 : (w.alloc (.cells #[.string r.nm, .int .i64 r.ra, .int .i64 r.he, .int .i64 r.qu] 37)).heap.size = w.heap.size + 1 := by simp
  have XL0 := Four.new (w.alloc (.cells #[.string r.nm, .int .i64 r.ra, .int .i64 r.he, .int .i64 r.qu] 37)) la 37
  have b2 := b1.alloc (o := .cells #[.string la.nm, .int .i64 la.ra, .int .i64 la.he, .int .i64 la.qu] 37) b1.size
  have XR1 := XR0.alloc (.cells #[.string la.nm, .int .i64 la.ra, .int .i64 la.he, .int .i64 la.qu] 37)
  have hz2 : b < ((w.alloc (.cells #[.string r.nm, .int .i64 r.ra, .int .i64 r.he, .int .i64 r.qu] 37)).alloc (.cells #[.string la.nm, .int .i64 la.ra, .int .i64 la.he, .int .i64 la.qu] 37)).heap.size := Nat.lt_of_lt_of_le hlt b2.size
  have hg2 : g < ((w.alloc (.cells #[.string r.nm, .int .i64 r.ra, .int .i64 r.he, .int .i64 r.qu] 37)).alloc (.cells #[.string la.nm, .int .i64 la.ra, .int .i64 la.he, .int .i64 la.qu] 37)).heap.size := Nat.lt_of_lt_of_le hg b2.size
  have hcn2 : ((w.alloc (.cells #[.string r.nm, .int .i64 r.ra, .int .i64 r.he, .int .i64 r.qu] 37)).alloc (.cells #[.string la.nm, .int .i64 la.ra, .int .i64 la.he, .int .i64 la.qu] 37)).cell? ⟨g, o + (m - 2), none⟩ = some (.int .i64 (d : Int)) := by rw [b2.cell (p := ⟨g, o + (m - 2), none⟩) hg]; exact hcn
  rw [← b2.cell (p := ⟨b, off + d * 4, none⟩) hlt] at f0
  rw [← b2.cell (p := ⟨b, off + d * 4 + 1, none⟩) hlt] at f1
  rw [← b2.cell (p := ⟨b, off + d * 4 + 2, none⟩) hlt] at f2
  rw [← b2.cell (p := ⟨b, off + d * 4 + 3, none⟩) hlt] at f3
  rw [hs1] at XL0
  generalize w.alloc (.cells #[.string r.nm, .int .i64 r.ra, .int .i64 r.he, .int .i64 r.qu] 37) = A1 at *
  go_upto_region 3 with fail
  generalize A1.alloc (.cells #[.string la.nm, .int .i64 la.ra, .int .i64 la.he, .int .i64 la.qu] 37) = W at *
  have x1 := XR1.c1; have x0 := XR1.c0; have x2 := XR1.c2; have x3 := XR1.c3; have xl := XR1.lt
  have l1 := XL0.c1; have l0 := XL0.c0; have l2 := XL0.c2; have l3 := XL0.c3; have ll := XL0.lt
  clear c0 c1 c2 c3 hct1 hcn1 hcn XR0 XR1 XL0 b1
  have hme : ((m : Int) == 1) = false := by simp; omega
  refine wp_region_noPanic ?_
  refine wp_region_held_drew (S := fun w' => Below W.heap.size W w') (by kernel_rfl) ?hS0 (fun hHeld => ?_)
  case hS0 => exact (Below.refl _ W).drew
  have hS : Below W.heap.size W W.drew := (Below.refl _ W).drew
  clear hHeld
  generalize W.drew = wd at *
  refine wpAnyH_take (i := 0) (v := ?_) rfl (by kernel_rfl) (by kernel_rfl) (by kernel_rfl) (fun _ _ _ h => h) (Or.inl ⟨by kernel_rfl, ?hy⟩) (by assumption) ?_
  case hy => (intro wq hSw; have q0 := (hSw.cell (p := ⟨w.heap.size, 0, none⟩) xl).trans x0; have q1 := (hSw.cell (p := ⟨w.heap.size, 1, none⟩) xl).trans x1; have q2 := (hSw.cell (p := ⟨w.heap.size, 2, none⟩) xl).trans x2; have q3 := (hSw.cell (p := ⟨w.heap.size, 3, none⟩) xl).trans x3; have q4 := (hSw.cell (p := ⟨w.heap.size + 1, 0, none⟩) ll).trans l0; have q5 := (hSw.cell (p := ⟨w.heap.size + 1, 1, none⟩) ll).trans l1; have q6 := (hSw.cell (p := ⟨w.heap.size + 1, 2, none⟩) ll).trans l2; have q7 := (hSw.cell (p := ⟨w.heap.size + 1, 3, none⟩) ll).trans l3; have q8 := (hSw.cell (p := ⟨g, o + (m - 2), none⟩) hg2).trans hcn2; have p0 := (hSw.cell (p := ⟨b, off + d * 4, none⟩) hz2).trans f0; have p1 := (hSw.cell (p := ⟨b, off + d * 4 + 1, none⟩) hz2).trans f1; have p2 := (hSw.cell (p := ⟨b, off + d * 4 + 2, none⟩) hz2).trans f2; have p3 := (hSw.cell (p := ⟨b, off + d * 4 + 3, none⟩) hz2).trans f3; have s1 := Nat.lt_of_lt_of_le xl hSw.size; have s2 := Nat.lt_of_lt_of_le ll hSw.size; have s3 := Nat.lt_of_lt_of_le hz2 hSw.size; have s4 := Nat.lt_of_lt_of_le hg2 hSw.size; go_simp; try (with_reducible rfl))
  try simp only [Act.put, List.setIfInBounds_toArray, List.set_cons_zero, List.set_cons_succ]
  refine wpAnyH_take (i := 1) (v := ?_) rfl (by kernel_rfl) (by kernel_rfl) (by kernel_rfl) (fun _ _ _ h => h) (Or.inl ⟨by kernel_rfl, ?hy⟩) (by assumption) ?_
  case hy => (intro wq hSw; have q0 := (hSw.cell (p := ⟨w.heap.size, 0, none⟩) xl).trans x0; have q1 := (hSw.cell (p := ⟨w.heap.size, 1, none⟩) xl).trans x1; have q2 := (hSw.cell (p := ⟨w.heap.size, 2, none⟩) xl).trans x2; have q3 := (hSw.cell (p := ⟨w.heap.size, 3, none⟩) xl).trans x3; have q4 := (hSw.cell (p := ⟨w.heap.size + 1, 0, none⟩) ll).trans l0; have q5 := (hSw.cell (p := ⟨w.heap.size + 1, 1, none⟩) ll).trans l1; have q6 := (hSw.cell (p := ⟨w.heap.size + 1, 2, none⟩) ll).trans l2; have q7 := (hSw.cell (p := ⟨w.heap.size + 1, 3, none⟩) ll).trans l3; have q8 := (hSw.cell (p := ⟨g, o + (m - 2), none⟩) hg2).trans hcn2; have p0 := (hSw.cell (p := ⟨b, off + d * 4, none⟩) hz2).trans f0; have p1 := (hSw.cell (p := ⟨b, off + d * 4 + 1, none⟩) hz2).trans f1; have p2 := (hSw.cell (p := ⟨b, off + d * 4 + 2, none⟩) hz2).trans f2; have p3 := (hSw.cell (p := ⟨b, off + d * 4 + 3, none⟩) hz2).trans f3; have s1 := Nat.lt_of_lt_of_le xl hSw.size; have s2 := Nat.lt_of_lt_of_le ll hSw.size; have s3 := Nat.lt_of_lt_of_le hz2 hSw.size; have s4 := Nat.lt_of_lt_of_le hg2 hSw.size; go_simp; try (with_reducible rfl))
  try simp only [Act.put, List.setIfInBounds_toArray, List.set_cons_zero, List.set_cons_succ]
  refine wpAnyH_take (i := 2) (v := ?_) rfl (by kernel_rfl) (by kernel_rfl) (by kernel_rfl) (fun _ _ _ h => h) (Or.inl ⟨by kernel_rfl, ?hy⟩) (by assumption) ?_
  case hy => (intro wq hSw; have q0 := (hSw.cell (p := ⟨w.heap.size, 0, none⟩) xl).trans x0; have q1 := (hSw.cell (p := ⟨w.heap.size, 1, none⟩) xl).trans x1; have q2 := (hSw.cell (p := ⟨w.heap.size, 2, none⟩) xl).trans x2; have q3 := (hSw.cell (p := ⟨w.heap.size, 3, none⟩) xl).trans x3; have q4 := (hSw.cell (p := ⟨w.heap.size + 1, 0, none⟩) ll).trans l0; have q5 := (hSw.cell (p := ⟨w.heap.size + 1, 1, none⟩) ll).trans l1; have q6 := (hSw.cell (p := ⟨w.heap.size + 1, 2, none⟩) ll).trans l2; have q7 := (hSw.cell (p := ⟨w.heap.size + 1, 3, none⟩) ll).trans l3; have q8 := (hSw.cell (p := ⟨g, o + (m - 2), none⟩) hg2).trans hcn2; have p0 := (hSw.cell (p := ⟨b, off + d * 4, none⟩) hz2).trans f0; have p1 := (hSw.cell (p := ⟨b, off + d * 4 + 1, none⟩) hz2).trans f1; have p2 := (hSw.cell (p := ⟨b, off + d * 4 + 2, none⟩) hz2).trans f2; have p3 := (hSw.cell (p := ⟨b, off + d * 4 + 3, none⟩) hz2).trans f3; have s1 := Nat.lt_of_lt_of_le xl hSw.size; have s2 := Nat.lt_of_lt_of_le ll hSw.size; have s3 := Nat.lt_of_lt_of_le hz2 hSw.size; have s4 := Nat.lt_of_lt_of_le hg2 hSw.size; go_simp; try (with_reducible rfl))
  try simp only [Act.put, List.setIfInBounds_toArray, List.set_cons_zero, List.set_cons_succ]
  refine wpAnyH_take (i := 3) (v := ?_) rfl (by kernel_rfl) (by kernel_rfl) (by kernel_rfl) (fun _ _ _ h => h) (Or.inl ⟨by kernel_rfl, ?hy⟩) (by assumption) ?_
  case hy => (intro wq hSw; have q0 := (hSw.cell (p := ⟨w.heap.size, 0, none⟩) xl).trans x0; have q1 := (hSw.cell (p := ⟨w.heap.size, 1, none⟩) xl).trans x1; have q2 := (hSw.cell (p := ⟨w.heap.size, 2, none⟩) xl).trans x2; have q3 := (hSw.cell (p := ⟨w.heap.size, 3, none⟩) xl).trans x3; have q4 := (hSw.cell (p := ⟨w.heap.size + 1, 0, none⟩) ll).trans l0; have q5 := (hSw.cell (p := ⟨w.heap.size + 1, 1, none⟩) ll).trans l1; have q6 := (hSw.cell (p := ⟨w.heap.size + 1, 2, none⟩) ll).trans l2; have q7 := (hSw.cell (p := ⟨w.heap.size + 1, 3, none⟩) ll).trans l3; have q8 := (hSw.cell (p := ⟨g, o + (m - 2), none⟩) hg2).trans hcn2; have p0 := (hSw.cell (p := ⟨b, off + d * 4, none⟩) hz2).trans f0; have p1 := (hSw.cell (p := ⟨b, off + d * 4 + 1, none⟩) hz2).trans f1; have p2 := (hSw.cell (p := ⟨b, off + d * 4 + 2, none⟩) hz2).trans f2; have p3 := (hSw.cell (p := ⟨b, off + d * 4 + 3, none⟩) hz2).trans f3; have s1 := Nat.lt_of_lt_of_le xl hSw.size; have s2 := Nat.lt_of_lt_of_le ll hSw.size; have s3 := Nat.lt_of_lt_of_le hz2 hSw.size; have s4 := Nat.lt_of_lt_of_le hg2 hSw.size; go_simp; try (with_reducible rfl))
  try simp only [Act.put, List.setIfInBounds_toArray, List.set_cons_zero, List.set_cons_succ]
  refine wpAnyH_take (i := 4) (v := ?_) rfl (by kernel_rfl) (by kernel_rfl) (by kernel_rfl) (fun _ _ _ h => h) (Or.inl ⟨by kernel_rfl, ?hy⟩) (by assumption) ?_
  case hy => (intro wq hSw; have q0 := (hSw.cell (p := ⟨w.heap.size, 0, none⟩) xl).trans x0; have q1 := (hSw.cell (p := ⟨w.heap.size, 1, none⟩) xl).trans x1; have q2 := (hSw.cell (p := ⟨w.heap.size, 2, none⟩) xl).trans x2; have q3 := (hSw.cell (p := ⟨w.heap.size, 3, none⟩) xl).trans x3; have q4 := (hSw.cell (p := ⟨w.heap.size + 1, 0, none⟩) ll).trans l0; have q5 := (hSw.cell (p := ⟨w.heap.size + 1, 1, none⟩) ll).trans l1; have q6 := (hSw.cell (p := ⟨w.heap.size + 1, 2, none⟩) ll).trans l2; have q7 := (hSw.cell (p := ⟨w.heap.size + 1, 3, none⟩) ll).trans l3; have q8 := (hSw.cell (p := ⟨g, o + (m - 2), none⟩) hg2).trans hcn2; have p0 := (hSw.cell (p := ⟨b, off + d * 4, none⟩) hz2).trans f0; have p1 := (hSw.cell (p := ⟨b, off + d * 4 + 1, none⟩) hz2).trans f1; have p2 := (hSw.cell (p := ⟨b, off + d * 4 + 2, none⟩) hz2).trans f2; have p3 := (hSw.cell (p := ⟨b, off + d * 4 + 3, none⟩) hz2).trans f3; have s1 := Nat.lt_of_lt_of_le xl hSw.size; have s2 := Nat.lt_of_lt_of_le ll hSw.size; have s3 := Nat.lt_of_lt_of_le hz2 hSw.size; have s4 := Nat.lt_of_lt_of_le hg2 hSw.size; go_simp; try (with_reducible rfl))
  try simp only [Act.put, List.setIfInBounds_toArray, List.set_cons_zero, List.set_cons_succ]
  refine wpAnyH_take (i := 5) (v := ?_) rfl (by kernel_rfl) (by kernel_rfl) (by kernel_rfl) (fun _ _ _ h => h) (Or.inl ⟨by kernel_rfl, ?hy⟩) (by assumption) ?_
  case hy => (intro wq hSw; have q0 := (hSw.cell (p := ⟨w.heap.size, 0, none⟩) xl).trans x0; have q1 := (hSw.cell (p := ⟨w.heap.size, 1, none⟩) xl).trans x1; have q2 := (hSw.cell (p := ⟨w.heap.size, 2, none⟩) xl).trans x2; have q3 := (hSw.cell (p := ⟨w.heap.size, 3, none⟩) xl).trans x3; have q4 := (hSw.cell (p := ⟨w.heap.size + 1, 0, none⟩) ll).trans l0; have q5 := (hSw.cell (p := ⟨w.heap.size + 1, 1, none⟩) ll).trans l1; have q6 := (hSw.cell (p := ⟨w.heap.size + 1, 2, none⟩) ll).trans l2; have q7 := (hSw.cell (p := ⟨w.heap.size + 1, 3, none⟩) ll).trans l3; have q8 := (hSw.cell (p := ⟨g, o + (m - 2), none⟩) hg2).trans hcn2; have p0 := (hSw.cell (p := ⟨b, off + d * 4, none⟩) hz2).trans f0; have p1 := (hSw.cell (p := ⟨b, off + d * 4 + 1, none⟩) hz2).trans f1; have p2 := (hSw.cell (p := ⟨b, off + d * 4 + 2, none⟩) hz2).trans f2; have p3 := (hSw.cell (p := ⟨b, off + d * 4 + 3, none⟩) hz2).trans f3; have s1 := Nat.lt_of_lt_of_le xl hSw.size; have s2 := Nat.lt_of_lt_of_le ll hSw.size; have s3 := Nat.lt_of_lt_of_le hz2 hSw.size; have s4 := Nat.lt_of_lt_of_le hg2 hSw.size; go_simp; try (with_reducible rfl))
  try simp only [Act.put, List.setIfInBounds_toArray, List.set_cons_zero, List.set_cons_succ]
  refine wpAnyH_take (i := 6) (v := ?_) rfl (by kernel_rfl) (by kernel_rfl) (by kernel_rfl) (fun _ _ _ h => h) (Or.inl ⟨by kernel_rfl, ?hy⟩) (by assumption) ?_
  case hy => (intro wq hSw; have q0 := (hSw.cell (p := ⟨w.heap.size, 0, none⟩) xl).trans x0; have q1 := (hSw.cell (p := ⟨w.heap.size, 1, none⟩) xl).trans x1; have q2 := (hSw.cell (p := ⟨w.heap.size, 2, none⟩) xl).trans x2; have q3 := (hSw.cell (p := ⟨w.heap.size, 3, none⟩) xl).trans x3; have q4 := (hSw.cell (p := ⟨w.heap.size + 1, 0, none⟩) ll).trans l0; have q5 := (hSw.cell (p := ⟨w.heap.size + 1, 1, none⟩) ll).trans l1; have q6 := (hSw.cell (p := ⟨w.heap.size + 1, 2, none⟩) ll).trans l2; have q7 := (hSw.cell (p := ⟨w.heap.size + 1, 3, none⟩) ll).trans l3; have q8 := (hSw.cell (p := ⟨g, o + (m - 2), none⟩) hg2).trans hcn2; have p0 := (hSw.cell (p := ⟨b, off + d * 4, none⟩) hz2).trans f0; have p1 := (hSw.cell (p := ⟨b, off + d * 4 + 1, none⟩) hz2).trans f1; have p2 := (hSw.cell (p := ⟨b, off + d * 4 + 2, none⟩) hz2).trans f2; have p3 := (hSw.cell (p := ⟨b, off + d * 4 + 3, none⟩) hz2).trans f3; have s1 := Nat.lt_of_lt_of_le xl hSw.size; have s2 := Nat.lt_of_lt_of_le ll hSw.size; have s3 := Nat.lt_of_lt_of_le hz2 hSw.size; have s4 := Nat.lt_of_lt_of_le hg2 hSw.size; go_simp; try (with_reducible rfl))
  try simp only [Act.put, List.setIfInBounds_toArray, List.set_cons_zero, List.set_cons_succ]
  refine wpAnyH_take (i := 7) (v := ?_) rfl (by kernel_rfl) (by kernel_rfl) (by kernel_rfl) (fun _ _ _ h => h) (Or.inl ⟨by kernel_rfl, ?hy⟩) (by assumption) ?_
  case hy => (intro wq hSw; have q0 := (hSw.cell (p := ⟨w.heap.size, 0, none⟩) xl).trans x0; have q1 := (hSw.cell (p := ⟨w.heap.size, 1, none⟩) xl).trans x1; have q2 := (hSw.cell (p := ⟨w.heap.size, 2, none⟩) xl).trans x2; have q3 := (hSw.cell (p := ⟨w.heap.size, 3, none⟩) xl).trans x3; have q4 := (hSw.cell (p := ⟨w.heap.size + 1, 0, none⟩) ll).trans l0; have q5 := (hSw.cell (p := ⟨w.heap.size + 1, 1, none⟩) ll).trans l1; have q6 := (hSw.cell (p := ⟨w.heap.size + 1, 2, none⟩) ll).trans l2; have q7 := (hSw.cell (p := ⟨w.heap.size + 1, 3, none⟩) ll).trans l3; have q8 := (hSw.cell (p := ⟨g, o + (m - 2), none⟩) hg2).trans hcn2; have p0 := (hSw.cell (p := ⟨b, off + d * 4, none⟩) hz2).trans f0; have p1 := (hSw.cell (p := ⟨b, off + d * 4 + 1, none⟩) hz2).trans f1; have p2 := (hSw.cell (p := ⟨b, off + d * 4 + 2, none⟩) hz2).trans f2; have p3 := (hSw.cell (p := ⟨b, off + d * 4 + 3, none⟩) hz2).trans f3; have s1 := Nat.lt_of_lt_of_le xl hSw.size; have s2 := Nat.lt_of_lt_of_le ll hSw.size; have s3 := Nat.lt_of_lt_of_le hz2 hSw.size; have s4 := Nat.lt_of_lt_of_le hg2 hSw.size; go_simp; try (with_reducible rfl))
  try simp only [Act.put, List.setIfInBounds_toArray, List.set_cons_zero, List.set_cons_succ]
  refine wpAnyH_take (i := 8) (v := ?_) rfl (by kernel_rfl) (by kernel_rfl) (by kernel_rfl) (fun _ _ _ h => h) (Or.inl ⟨by kernel_rfl, ?hy⟩) (by assumption) ?_
  case hy => (intro wq hSw; have q0 := (hSw.cell (p := ⟨w.heap.size, 0, none⟩) xl).trans x0; have q1 := (hSw.cell (p := ⟨w.heap.size, 1, none⟩) xl).trans x1; have q2 := (hSw.cell (p := ⟨w.heap.size, 2, none⟩) xl).trans x2; have q3 := (hSw.cell (p := ⟨w.heap.size, 3, none⟩) xl).trans x3; have q4 := (hSw.cell (p := ⟨w.heap.size + 1, 0, none⟩) ll).trans l0; have q5 := (hSw.cell (p := ⟨w.heap.size + 1, 1, none⟩) ll).trans l1; have q6 := (hSw.cell (p := ⟨w.heap.size + 1, 2, none⟩) ll).trans l2; have q7 := (hSw.cell (p := ⟨w.heap.size + 1, 3, none⟩) ll).trans l3; have q8 := (hSw.cell (p := ⟨g, o + (m - 2), none⟩) hg2).trans hcn2; have p0 := (hSw.cell (p := ⟨b, off + d * 4, none⟩) hz2).trans f0; have p1 := (hSw.cell (p := ⟨b, off + d * 4 + 1, none⟩) hz2).trans f1; have p2 := (hSw.cell (p := ⟨b, off + d * 4 + 2, none⟩) hz2).trans f2; have p3 := (hSw.cell (p := ⟨b, off + d * 4 + 3, none⟩) hz2).trans f3; have s1 := Nat.lt_of_lt_of_le xl hSw.size; have s2 := Nat.lt_of_lt_of_le ll hSw.size; have s3 := Nat.lt_of_lt_of_le hz2 hSw.size; have s4 := Nat.lt_of_lt_of_le hg2 hSw.size; go_simp; try (with_reducible rfl))
  try simp only [Act.put, List.setIfInBounds_toArray, List.set_cons_zero, List.set_cons_succ]
  refine wpAnyH_take (i := 9) (v := ?_) rfl (by kernel_rfl) (by kernel_rfl) (by kernel_rfl) (fun _ _ _ h => h) (Or.inl ⟨by kernel_rfl, ?hy⟩) (by assumption) ?_
  case hy => (intro wq hSw; have q0 := (hSw.cell (p := ⟨w.heap.size, 0, none⟩) xl).trans x0; have q1 := (hSw.cell (p := ⟨w.heap.size, 1, none⟩) xl).trans x1; have q2 := (hSw.cell (p := ⟨w.heap.size, 2, none⟩) xl).trans x2; have q3 := (hSw.cell (p := ⟨w.heap.size, 3, none⟩) xl).trans x3; have q4 := (hSw.cell (p := ⟨w.heap.size + 1, 0, none⟩) ll).trans l0; have q5 := (hSw.cell (p := ⟨w.heap.size + 1, 1, none⟩) ll).trans l1; have q6 := (hSw.cell (p := ⟨w.heap.size + 1, 2, none⟩) ll).trans l2; have q7 := (hSw.cell (p := ⟨w.heap.size + 1, 3, none⟩) ll).trans l3; have q8 := (hSw.cell (p := ⟨g, o + (m - 2), none⟩) hg2).trans hcn2; have p0 := (hSw.cell (p := ⟨b, off + d * 4, none⟩) hz2).trans f0; have p1 := (hSw.cell (p := ⟨b, off + d * 4 + 1, none⟩) hz2).trans f1; have p2 := (hSw.cell (p := ⟨b, off + d * 4 + 2, none⟩) hz2).trans f2; have p3 := (hSw.cell (p := ⟨b, off + d * 4 + 3, none⟩) hz2).trans f3; have s1 := Nat.lt_of_lt_of_le xl hSw.size; have s2 := Nat.lt_of_lt_of_le ll hSw.size; have s3 := Nat.lt_of_lt_of_le hz2 hSw.size; have s4 := Nat.lt_of_lt_of_le hg2 hSw.size; go_simp; try (with_reducible rfl))
  try simp only [Act.put, List.setIfInBounds_toArray, List.set_cons_zero, List.set_cons_succ]
  refine wpAnyH_take (i := 10) (v := ?_) rfl (by kernel_rfl) (by kernel_rfl) (by kernel_rfl) (fun _ _ _ h => h) (Or.inl ⟨by kernel_rfl, ?hy⟩) (by assumption) ?_
  case hy => (intro wq hSw; have q0 := (hSw.cell (p := ⟨w.heap.size, 0, none⟩) xl).trans x0; have q1 := (hSw.cell (p := ⟨w.heap.size, 1, none⟩) xl).trans x1; have q2 := (hSw.cell (p := ⟨w.heap.size, 2, none⟩) xl).trans x2; have q3 := (hSw.cell (p := ⟨w.heap.size, 3, none⟩) xl).trans x3; have q4 := (hSw.cell (p := ⟨w.heap.size + 1, 0, none⟩) ll).trans l0; have q5 := (hSw.cell (p := ⟨w.heap.size + 1, 1, none⟩) ll).trans l1; have q6 := (hSw.cell (p := ⟨w.heap.size + 1, 2, none⟩) ll).trans l2; have q7 := (hSw.cell (p := ⟨w.heap.size + 1, 3, none⟩) ll).trans l3; have q8 := (hSw.cell (p := ⟨g, o + (m - 2), none⟩) hg2).trans hcn2; have p0 := (hSw.cell (p := ⟨b, off + d * 4, none⟩) hz2).trans f0; have p1 := (hSw.cell (p := ⟨b, off + d * 4 + 1, none⟩) hz2).trans f1; have p2 := (hSw.cell (p := ⟨b, off + d * 4 + 2, none⟩) hz2).trans f2; have p3 := (hSw.cell (p := ⟨b, off + d * 4 + 3, none⟩) hz2).trans f3; have s1 := Nat.lt_of_lt_of_le xl hSw.size; have s2 := Nat.lt_of_lt_of_le ll hSw.size; have s3 := Nat.lt_of_lt_of_le hz2 hSw.size; have s4 := Nat.lt_of_lt_of_le hg2 hSw.size; go_simp; try (with_reducible rfl))
  try simp only [Act.put, List.setIfInBounds_toArray, List.set_cons_zero, List.set_cons_succ]
  refine wpAnyH_take (i := 11) (v := ?_) rfl (by kernel_rfl) (by kernel_rfl) (by kernel_rfl) (fun _ _ _ h => h) (Or.inl ⟨by kernel_rfl, ?hy⟩) (by assumption) ?_
  case hy => (intro wq hSw; have q0 := (hSw.cell (p := ⟨w.heap.size, 0, none⟩) xl).trans x0; have q1 := (hSw.cell (p := ⟨w.heap.size, 1, none⟩) xl).trans x1; have q2 := (hSw.cell (p := ⟨w.heap.size, 2, none⟩) xl).trans x2; have q3 := (hSw.cell (p := ⟨w.heap.size, 3, none⟩) xl).trans x3; have q4 := (hSw.cell (p := ⟨w.heap.size + 1, 0, none⟩) ll).trans l0; have q5 := (hSw.cell (p := ⟨w.heap.size + 1, 1, none⟩) ll).trans l1; have q6 := (hSw.cell (p := ⟨w.heap.size + 1, 2, none⟩) ll).trans l2; have q7 := (hSw.cell (p := ⟨w.heap.size + 1, 3, none⟩) ll).trans l3; have q8 := (hSw.cell (p := ⟨g, o + (m - 2), none⟩) hg2).trans hcn2; have p0 := (hSw.cell (p := ⟨b, off + d * 4, none⟩) hz2).trans f0; have p1 := (hSw.cell (p := ⟨b, off + d * 4 + 1, none⟩) hz2).trans f1; have p2 := (hSw.cell (p := ⟨b, off + d * 4 + 2, none⟩) hz2).trans f2; have p3 := (hSw.cell (p := ⟨b, off + d * 4 + 3, none⟩) hz2).trans f3; have s1 := Nat.lt_of_lt_of_le xl hSw.size; have s2 := Nat.lt_of_lt_of_le ll hSw.size; have s3 := Nat.lt_of_lt_of_le hz2 hSw.size; have s4 := Nat.lt_of_lt_of_le hg2 hSw.size; go_simp; try (with_reducible rfl))
  try simp only [Act.put, List.setIfInBounds_toArray, List.set_cons_zero, List.set_cons_succ]
  refine wpAnyH_take (i := 12) (v := ?_) rfl (by kernel_rfl) (by kernel_rfl) (by kernel_rfl) (fun _ _ _ h => h) (Or.inl ⟨by kernel_rfl, ?hy⟩) (by assumption) ?_
  case hy => (intro wq hSw; have q0 := (hSw.cell (p := ⟨w.heap.size, 0, none⟩) xl).trans x0; have q1 := (hSw.cell (p := ⟨w.heap.size, 1, none⟩) xl).trans x1; have q2 := (hSw.cell (p := ⟨w.heap.size, 2, none⟩) xl).trans x2; have q3 := (hSw.cell (p := ⟨w.heap.size, 3, none⟩) xl).trans x3; have q4 := (hSw.cell (p := ⟨w.heap.size + 1, 0, none⟩) ll).trans l0; have q5 := (hSw.cell (p := ⟨w.heap.size + 1, 1, none⟩) ll).trans l1; have q6 := (hSw.cell (p := ⟨w.heap.size + 1, 2, none⟩) ll).trans l2; have q7 := (hSw.cell (p := ⟨w.heap.size + 1, 3, none⟩) ll).trans l3; have q8 := (hSw.cell (p := ⟨g, o + (m - 2), none⟩) hg2).trans hcn2; have p0 := (hSw.cell (p := ⟨b, off + d * 4, none⟩) hz2).trans f0; have p1 := (hSw.cell (p := ⟨b, off + d * 4 + 1, none⟩) hz2).trans f1; have p2 := (hSw.cell (p := ⟨b, off + d * 4 + 2, none⟩) hz2).trans f2; have p3 := (hSw.cell (p := ⟨b, off + d * 4 + 3, none⟩) hz2).trans f3; have s1 := Nat.lt_of_lt_of_le xl hSw.size; have s2 := Nat.lt_of_lt_of_le ll hSw.size; have s3 := Nat.lt_of_lt_of_le hz2 hSw.size; have s4 := Nat.lt_of_lt_of_le hg2 hSw.size; go_simp; try (with_reducible rfl))
  try simp only [Act.put, List.setIfInBounds_toArray, List.set_cons_zero, List.set_cons_succ]
  refine wpAnyH_take (i := 13) (v := ?_) rfl (by kernel_rfl) (by kernel_rfl) (by kernel_rfl) (fun _ _ _ h => h) (Or.inl ⟨by kernel_rfl, ?hy⟩) (by assumption) ?_
  case hy => (intro wq hSw; have q0 := (hSw.cell (p := ⟨w.heap.size, 0, none⟩) xl).trans x0; have q1 := (hSw.cell (p := ⟨w.heap.size, 1, none⟩) xl).trans x1; have q2 := (hSw.cell (p := ⟨w.heap.size, 2, none⟩) xl).trans x2; have q3 := (hSw.cell (p := ⟨w.heap.size, 3, none⟩) xl).trans x3; have q4 := (hSw.cell (p := ⟨w.heap.size + 1, 0, none⟩) ll).trans l0; have q5 := (hSw.cell (p := ⟨w.heap.size + 1, 1, none⟩) ll).trans l1; have q6 := (hSw.cell (p := ⟨w.heap.size + 1, 2, none⟩) ll).trans l2; have q7 := (hSw.cell (p := ⟨w.heap.size + 1, 3, none⟩) ll).trans l3; have q8 := (hSw.cell (p := ⟨g, o + (m - 2), none⟩) hg2).trans hcn2; have p0 := (hSw.cell (p := ⟨b, off + d * 4, none⟩) hz2).trans f0; have p1 := (hSw.cell (p := ⟨b, off + d * 4 + 1, none⟩) hz2).trans f1; have p2 := (hSw.cell (p := ⟨b, off + d * 4 + 2, none⟩) hz2).trans f2; have p3 := (hSw.cell (p := ⟨b, off + d * 4 + 3, none⟩) hz2).trans f3; have s1 := Nat.lt_of_lt_of_le xl hSw.size; have s2 := Nat.lt_of_lt_of_le ll hSw.size; have s3 := Nat.lt_of_lt_of_le hz2 hSw.size; have s4 := Nat.lt_of_lt_of_le hg2 hSw.size; go_simp; try (with_reducible rfl))
  try simp only [Act.put, List.setIfInBounds_toArray, List.set_cons_zero, List.set_cons_succ]
  refine wpAnyH_take (i := 14) (v := ?_) rfl (by kernel_rfl) (by kernel_rfl) (by kernel_rfl) (fun _ _ _ h => h) (Or.inl ⟨by kernel_rfl, ?hy⟩) (by assumption) ?_
  case hy => (intro wq hSw; have q0 := (hSw.cell (p := ⟨w.heap.size, 0, none⟩) xl).trans x0; have q1 := (hSw.cell (p := ⟨w.heap.size, 1, none⟩) xl).trans x1; have q2 := (hSw.cell (p := ⟨w.heap.size, 2, none⟩) xl).trans x2; have q3 := (hSw.cell (p := ⟨w.heap.size, 3, none⟩) xl).trans x3; have q4 := (hSw.cell (p := ⟨w.heap.size + 1, 0, none⟩) ll).trans l0; have q5 := (hSw.cell (p := ⟨w.heap.size + 1, 1, none⟩) ll).trans l1; have q6 := (hSw.cell (p := ⟨w.heap.size + 1, 2, none⟩) ll).trans l2; have q7 := (hSw.cell (p := ⟨w.heap.size + 1, 3, none⟩) ll).trans l3; have q8 := (hSw.cell (p := ⟨g, o + (m - 2), none⟩) hg2).trans hcn2; have p0 := (hSw.cell (p := ⟨b, off + d * 4, none⟩) hz2).trans f0; have p1 := (hSw.cell (p := ⟨b, off + d * 4 + 1, none⟩) hz2).trans f1; have p2 := (hSw.cell (p := ⟨b, off + d * 4 + 2, none⟩) hz2).trans f2; have p3 := (hSw.cell (p := ⟨b, off + d * 4 + 3, none⟩) hz2).trans f3; have s1 := Nat.lt_of_lt_of_le xl hSw.size; have s2 := Nat.lt_of_lt_of_le ll hSw.size; have s3 := Nat.lt_of_lt_of_le hz2 hSw.size; have s4 := Nat.lt_of_lt_of_le hg2 hSw.size; go_simp; try (with_reducible rfl))
  try simp only [Act.put, List.setIfInBounds_toArray, List.set_cons_zero, List.set_cons_succ]
  refine wpAnyH_take (i := 15) (v := ?_) rfl (by kernel_rfl) (by kernel_rfl) (by kernel_rfl) (fun _ _ _ h => h) (Or.inl ⟨by kernel_rfl, ?hy⟩) (by assumption) ?_
  case hy => (intro wq hSw; have q0 := (hSw.cell (p := ⟨w.heap.size, 0, none⟩) xl).trans x0; have q1 := (hSw.cell (p := ⟨w.heap.size, 1, none⟩) xl).trans x1; have q2 := (hSw.cell (p := ⟨w.heap.size, 2, none⟩) xl).trans x2; have q3 := (hSw.cell (p := ⟨w.heap.size, 3, none⟩) xl).trans x3; have q4 := (hSw.cell (p := ⟨w.heap.size + 1, 0, none⟩) ll).trans l0; have q5 := (hSw.cell (p := ⟨w.heap.size + 1, 1, none⟩) ll).trans l1; have q6 := (hSw.cell (p := ⟨w.heap.size + 1, 2, none⟩) ll).trans l2; have q7 := (hSw.cell (p := ⟨w.heap.size + 1, 3, none⟩) ll).trans l3; have q8 := (hSw.cell (p := ⟨g, o + (m - 2), none⟩) hg2).trans hcn2; have p0 := (hSw.cell (p := ⟨b, off + d * 4, none⟩) hz2).trans f0; have p1 := (hSw.cell (p := ⟨b, off + d * 4 + 1, none⟩) hz2).trans f1; have p2 := (hSw.cell (p := ⟨b, off + d * 4 + 2, none⟩) hz2).trans f2; have p3 := (hSw.cell (p := ⟨b, off + d * 4 + 3, none⟩) hz2).trans f3; have s1 := Nat.lt_of_lt_of_le xl hSw.size; have s2 := Nat.lt_of_lt_of_le ll hSw.size; have s3 := Nat.lt_of_lt_of_le hz2 hSw.size; have s4 := Nat.lt_of_lt_of_le hg2 hSw.size; go_simp; try (with_reducible rfl))
  try simp only [Act.put, List.setIfInBounds_toArray, List.set_cons_zero, List.set_cons_succ]
  refine wpAnyH_take (i := 16) (v := ?_) rfl (by kernel_rfl) (by kernel_rfl) (by kernel_rfl) (fun _ _ _ h => h) (Or.inl ⟨by kernel_rfl, ?hy⟩) (by assumption) ?_
  case hy => (intro wq hSw; have q0 := (hSw.cell (p := ⟨w.heap.size, 0, none⟩) xl).trans x0; have q1 := (hSw.cell (p := ⟨w.heap.size, 1, none⟩) xl).trans x1; have q2 := (hSw.cell (p := ⟨w.heap.size, 2, none⟩) xl).trans x2; have q3 := (hSw.cell (p := ⟨w.heap.size, 3, none⟩) xl).trans x3; have q4 := (hSw.cell (p := ⟨w.heap.size + 1, 0, none⟩) ll).trans l0; have q5 := (hSw.cell (p := ⟨w.heap.size + 1, 1, none⟩) ll).trans l1; have q6 := (hSw.cell (p := ⟨w.heap.size + 1, 2, none⟩) ll).trans l2; have q7 := (hSw.cell (p := ⟨w.heap.size + 1, 3, none⟩) ll).trans l3; have q8 := (hSw.cell (p := ⟨g, o + (m - 2), none⟩) hg2).trans hcn2; have p0 := (hSw.cell (p := ⟨b, off + d * 4, none⟩) hz2).trans f0; have p1 := (hSw.cell (p := ⟨b, off + d * 4 + 1, none⟩) hz2).trans f1; have p2 := (hSw.cell (p := ⟨b, off + d * 4 + 2, none⟩) hz2).trans f2; have p3 := (hSw.cell (p := ⟨b, off + d * 4 + 3, none⟩) hz2).trans f3; have s1 := Nat.lt_of_lt_of_le xl hSw.size; have s2 := Nat.lt_of_lt_of_le ll hSw.size; have s3 := Nat.lt_of_lt_of_le hz2 hSw.size; have s4 := Nat.lt_of_lt_of_le hg2 hSw.size; go_simp; try (with_reducible rfl))
  try simp only [Act.put, List.setIfInBounds_toArray, List.set_cons_zero, List.set_cons_succ]
  refine wpAnyH_take (i := 17) (v := ?_) rfl (by kernel_rfl) (by kernel_rfl) (by kernel_rfl) (fun _ _ _ h => h) (Or.inl ⟨by kernel_rfl, ?hy⟩) (by assumption) ?_
  case hy => (intro wq hSw; have q0 := (hSw.cell (p := ⟨w.heap.size, 0, none⟩) xl).trans x0; have q1 := (hSw.cell (p := ⟨w.heap.size, 1, none⟩) xl).trans x1; have q2 := (hSw.cell (p := ⟨w.heap.size, 2, none⟩) xl).trans x2; have q3 := (hSw.cell (p := ⟨w.heap.size, 3, none⟩) xl).trans x3; have q4 := (hSw.cell (p := ⟨w.heap.size + 1, 0, none⟩) ll).trans l0; have q5 := (hSw.cell (p := ⟨w.heap.size + 1, 1, none⟩) ll).trans l1; have q6 := (hSw.cell (p := ⟨w.heap.size + 1, 2, none⟩) ll).trans l2; have q7 := (hSw.cell (p := ⟨w.heap.size + 1, 3, none⟩) ll).trans l3; have q8 := (hSw.cell (p := ⟨g, o + (m - 2), none⟩) hg2).trans hcn2; have p0 := (hSw.cell (p := ⟨b, off + d * 4, none⟩) hz2).trans f0; have p1 := (hSw.cell (p := ⟨b, off + d * 4 + 1, none⟩) hz2).trans f1; have p2 := (hSw.cell (p := ⟨b, off + d * 4 + 2, none⟩) hz2).trans f2; have p3 := (hSw.cell (p := ⟨b, off + d * 4 + 3, none⟩) hz2).trans f3; have s1 := Nat.lt_of_lt_of_le xl hSw.size; have s2 := Nat.lt_of_lt_of_le ll hSw.size; have s3 := Nat.lt_of_lt_of_le hz2 hSw.size; have s4 := Nat.lt_of_lt_of_le hg2 hSw.size; go_simp; try (with_reducible rfl))
  try simp only [Act.put, List.setIfInBounds_toArray, List.set_cons_zero, List.set_cons_succ]
  refine wpAnyH_take (i := 18) (v := ?_) rfl (by kernel_rfl) (by kernel_rfl) (by kernel_rfl) (fun _ _ _ h => h) (Or.inl ⟨by kernel_rfl, ?hy⟩) (by assumption) ?_
  case hy => (intro wq hSw; have q0 := (hSw.cell (p := ⟨w.heap.size, 0, none⟩) xl).trans x0; have q1 := (hSw.cell (p := ⟨w.heap.size, 1, none⟩) xl).trans x1; have q2 := (hSw.cell (p := ⟨w.heap.size, 2, none⟩) xl).trans x2; have q3 := (hSw.cell (p := ⟨w.heap.size, 3, none⟩) xl).trans x3; have q4 := (hSw.cell (p := ⟨w.heap.size + 1, 0, none⟩) ll).trans l0; have q5 := (hSw.cell (p := ⟨w.heap.size + 1, 1, none⟩) ll).trans l1; have q6 := (hSw.cell (p := ⟨w.heap.size + 1, 2, none⟩) ll).trans l2; have q7 := (hSw.cell (p := ⟨w.heap.size + 1, 3, none⟩) ll).trans l3; have q8 := (hSw.cell (p := ⟨g, o + (m - 2), none⟩) hg2).trans hcn2; have p0 := (hSw.cell (p := ⟨b, off + d * 4, none⟩) hz2).trans f0; have p1 := (hSw.cell (p := ⟨b, off + d * 4 + 1, none⟩) hz2).trans f1; have p2 := (hSw.cell (p := ⟨b, off + d * 4 + 2, none⟩) hz2).trans f2; have p3 := (hSw.cell (p := ⟨b, off + d * 4 + 3, none⟩) hz2).trans f3; have s1 := Nat.lt_of_lt_of_le xl hSw.size; have s2 := Nat.lt_of_lt_of_le ll hSw.size; have s3 := Nat.lt_of_lt_of_le hz2 hSw.size; have s4 := Nat.lt_of_lt_of_le hg2 hSw.size; go_simp; try (with_reducible rfl))
  try simp only [Act.put, List.setIfInBounds_toArray, List.set_cons_zero, List.set_cons_succ]
  refine wpAnyH_ready (rs := [19]) (by kernel_rfl) (by simp) ?_
  refine AllReadyH.cons rfl (fun K hK => ?_) AllReadyH.nil
  go_simp
  refine (HAB.out _).mono ?_; rintro e w3 ⟨rfl, b3⟩; have hS : Below W.heap.size W w3 := hS.trans (b3.mono hS.size)
  refine hK.out _ _ hS (fun hHeld => ?_)
  clear hK K hHeld
  try simp only [Act.put, List.setIfInBounds_toArray, List.set_cons_zero, List.set_cons_succ]
  refine wpAnyH_take (i := 20) (v := ?_) rfl (by kernel_rfl) (by kernel_rfl) (by kernel_rfl) (fun _ _ _ h => h) (Or.inl ⟨by kernel_rfl, ?hy⟩) (by assumption) ?_
  case hy => (intro wq hSw; have q0 := (hSw.cell (p := ⟨w.heap.size, 0, none⟩) xl).trans x0; have q1 := (hSw.cell (p := ⟨w.heap.size, 1, none⟩) xl).trans x1; have q2 := (hSw.cell (p := ⟨w.heap.size, 2, none⟩) xl).trans x2; have q3 := (hSw.cell (p := ⟨w.heap.size, 3, none⟩) xl).trans x3; have q4 := (hSw.cell (p := ⟨w.heap.size + 1, 0, none⟩) ll).trans l0; have q5 := (hSw.cell (p := ⟨w.heap.size + 1, 1, none⟩) ll).trans l1; have q6 := (hSw.cell (p := ⟨w.heap.size + 1, 2, none⟩) ll).trans l2; have q7 := (hSw.cell (p := ⟨w.heap.size + 1, 3, none⟩) ll).trans l3; have q8 := (hSw.cell (p := ⟨g, o + (m - 2), none⟩) hg2).trans hcn2; have p0 := (hSw.cell (p := ⟨b, off + d * 4, none⟩) hz2).trans f0; have p1 := (hSw.cell (p := ⟨b, off + d * 4 + 1, none⟩) hz2).trans f1; have p2 := (hSw.cell (p := ⟨b, off + d * 4 + 2, none⟩) hz2).trans f2; have p3 := (hSw.cell (p := ⟨b, off + d * 4 + 3, none⟩) hz2).trans f3; have s1 := Nat.lt_of_lt_of_le xl hSw.size; have s2 := Nat.lt_of_lt_of_le ll hSw.size; have s3 := Nat.lt_of_lt_of_le hz2 hSw.size; have s4 := Nat.lt_of_lt_of_le hg2 hSw.size; go_simp; try (with_reducible rfl))
  try simp only [Act.put, List.setIfInBounds_toArray, List.set_cons_zero, List.set_cons_succ]
  refine wpAnyH_take (i := 21) (v := ?_) rfl (by kernel_rfl) (by kernel_rfl) (by kernel_rfl) (fun _ _ _ h => h) (Or.inl ⟨by kernel_rfl, ?hy⟩) (by assumption) ?_
  case hy => (intro wq hSw; have q0 := (hSw.cell (p := ⟨w.heap.size, 0, none⟩) xl).trans x0; have q1 := (hSw.cell (p := ⟨w.heap.size, 1, none⟩) xl).trans x1; have q2 := (hSw.cell (p := ⟨w.heap.size, 2, none⟩) xl).trans x2; have q3 := (hSw.cell (p := ⟨w.heap.size, 3, none⟩) xl).trans x3; have q4 := (hSw.cell (p := ⟨w.heap.size + 1, 0, none⟩) ll).trans l0; have q5 := (hSw.cell (p := ⟨w.heap.size + 1, 1, none⟩) ll).trans l1; have q6 := (hSw.cell (p := ⟨w.heap.size + 1, 2, none⟩) ll).trans l2; have q7 := (hSw.cell (p := ⟨w.heap.size + 1, 3, none⟩) ll).trans l3; have q8 := (hSw.cell (p := ⟨g, o + (m - 2), none⟩) hg2).trans hcn2; have p0 := (hSw.cell (p := ⟨b, off + d * 4, none⟩) hz2).trans f0; have p1 := (hSw.cell (p := ⟨b, off + d * 4 + 1, none⟩) hz2).trans f1; have p2 := (hSw.cell (p := ⟨b, off + d * 4 + 2, none⟩) hz2).trans f2; have p3 := (hSw.cell (p := ⟨b, off + d * 4 + 3, none⟩) hz2).trans f3; have s1 := Nat.lt_of_lt_of_le xl hSw.size; have s2 := Nat.lt_of_lt_of_le ll hSw.size; have s3 := Nat.lt_of_lt_of_le hz2 hSw.size; have s4 := Nat.lt_of_lt_of_le hg2 hSw.size; go_simp; try (with_reducible rfl))
  try simp only [Act.put, List.setIfInBounds_toArray, List.set_cons_zero, List.set_cons_succ]
  refine wpAnyH_take (i := 22) (v := ?_) rfl (by kernel_rfl) (by kernel_rfl) (by kernel_rfl) (fun _ _ _ h => h) (Or.inl ⟨by kernel_rfl, ?hy⟩) (by assumption) ?_
  case hy => (intro wq hSw; have q0 := (hSw.cell (p := ⟨w.heap.size, 0, none⟩) xl).trans x0; have q1 := (hSw.cell (p := ⟨w.heap.size, 1, none⟩) xl).trans x1; have q2 := (hSw.cell (p := ⟨w.heap.size, 2, none⟩) xl).trans x2; have q3 := (hSw.cell (p := ⟨w.heap.size, 3, none⟩) xl).trans x3; have q4 := (hSw.cell (p := ⟨w.heap.size + 1, 0, none⟩) ll).trans l0; have q5 := (hSw.cell (p := ⟨w.heap.size + 1, 1, none⟩) ll).trans l1; have q6 := (hSw.cell (p := ⟨w.heap.size + 1, 2, none⟩) ll).trans l2; have q7 := (hSw.cell (p := ⟨w.heap.size + 1, 3, none⟩) ll).trans l3; have q8 := (hSw.cell (p := ⟨g, o + (m - 2), none⟩) hg2).trans hcn2; have p0 := (hSw.cell (p := ⟨b, off + d * 4, none⟩) hz2).trans f0; have p1 := (hSw.cell (p := ⟨b, off + d * 4 + 1, none⟩) hz2).trans f1; have p2 := (hSw.cell (p := ⟨b, off + d * 4 + 2, none⟩) hz2).trans f2; have p3 := (hSw.cell (p := ⟨b, off + d * 4 + 3, none⟩) hz2).trans f3; have s1 := Nat.lt_of_lt_of_le xl hSw.size; have s2 := Nat.lt_of_lt_of_le ll hSw.size; have s3 := Nat.lt_of_lt_of_le hz2 hSw.size; have s4 := Nat.lt_of_lt_of_le hg2 hSw.size; go_simp; try (with_reducible rfl))
  try simp only [Act.put, List.setIfInBounds_toArray, List.set_cons_zero, List.set_cons_succ]
  refine wpAnyH_done (by kernel_rfl) ?_ _
  refine NoPanic.normal ?_
  try go_simp
  go_wp2_with fail
  go_ret
  exact ⟨rfl, b2.trans (hS.mono b2.size)⟩
theorem stay_any (u v : Value) (rs : List Rung) (a : Nat) (t : List Nat) (r : Rung) (w : World) (hu : Rungs w u rs) (hv : Nums w v (cornI (a :: t))) (hlt : ∀ x ∈ a :: t, x < rs.length) (hlen : (a :: t).length ≤ 100) (hok : OkRs rs) (hr : OkR r) :
    Calls Try.prog 103 #[u, v, .agg #[.string r.nm, .int .i64 r.ra, .int .i64 r.he, .int .i64 r.qu]] w fun e w' => e = .returned (.bool (stayB rs (a :: t) r)) ∧ Below w.heap.size w w' := by
  have ha := hlt a List.mem_cons_self
  obtain ⟨b, off, cap, rfl, hb, hl, hm⟩ := hu.spot (by omega)
  have hnl : (cornI (a :: t)).length = t.length + 1 := cornI_len _
  rcases hv with ⟨_, _, _, h0⟩ | ⟨g, o, cp, rfl, hne, hg, hcm, hc⟩
  · rw [h0] at hnl; simp at hnl
  · have h1 := hc t.length (by omega)
    rw [cornI_top] at h1
    have hm100 : t.length + 1 ≤ 100 := by simpa using hlen
    by_cases hra : (rs.getD a rung0).ra < r.ra
    · cases t with
      | nil =>
        have e : stayB rs [a] r = true := decide_eq_true hra
        rw [e]
        exact stay_one b off rs.length cap g o _ cp rs a _ r hra w rfl hok.len hb hu hg hnl h1 ha rfl hr (hok.ok a ha)
      | cons d t =>
        have hd := hlt d (by simp)
        have h2 := hc t.length (by rw [hnl]; simp; omega)
        rw [cornI_next] at h2
        have e : stayB rs (a :: d :: t) r = aboveB (rs.getD a rung0) (rs.getD d rung0) r := by rw [stayB, decide_eq_true hra]; rfl
        rw [e]
        refine stay_two b off rs.length cap g o _ cp rs a _ r d _ hra w rfl hok.len hb hu hg (by rw [hnl]; simp) ?_ hd rfl (hok.ok d hd) (by rw [hnl]; exact hm100) ?_ ha rfl hr (hok.ok a ha)
        · rw [hnl, show (d :: t).length + 1 - 2 = t.length by simp]; exact h2
        · rw [hnl, show (d :: t).length + 1 - 1 = (d :: t).length by simp]; exact h1
    · have e : stayB rs (a :: t) r = false := by
        cases t with
        | nil => exact decide_eq_false hra
        | cons d t => rw [stayB, decide_eq_false hra]; rfl
      rw [e]
      refine stay_low b off rs.length cap g o _ cp rs a _ r hra w rfl hok.len hb hu hg (by omega) (by rw [hnl]; exact hm100) ?_ ha rfl hr (hok.ok a ha)
      rw [hnl, Nat.add_sub_cancel]; exact h1

end Go.Proofs.Ytfjgpafcdkodmaa
