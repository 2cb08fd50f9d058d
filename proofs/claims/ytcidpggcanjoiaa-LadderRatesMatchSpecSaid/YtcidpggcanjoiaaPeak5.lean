/- Peak (program). -/
import Derived.Test.YtcidpggcanjoiaaPeakW
namespace Go.Proofs.Ytcidpggcanjoiaa
set_option linter.unusedVariables false
set_option linter.unusedSimpArgs false
open Go.RowKit Go.Deep

theorem pk_empty {F G : List Int} {s lo hi : Int} (h : segF F G s ≠ 0) : pkG F G s lo hi = segF F G s := by
  rw [pkG, fstF, if_neg h]
set_option maxRecDepth 100000 in
set_option maxHeartbeats 4000000 in
theorem peak_fault (u v : Value) (F G : List Int) (s lo hi : Int) (w : World) (hu : Nums w u F) (hv : Nums w v G) (hg : pkG F G s lo hi ≠ 0) :
    Calls Try.prog 18 #[u, v, .int .i64 s, .int .i64 lo, .int .i64 hi] w
      fun e w' => e = .returned (.tuple #[.agg #[.int .i64 (peX F G s lo hi), .int .i64 (peY F G s lo hi)], .bool (peB F G s lo hi), .int .i64 (peF F G s lo hi)]) ∧ Below w.heap.size w w' := by
  obtain ⟨e1, e2, e3, e4⟩ := pe_fault hg
  rw [e1, e2, e3, e4]
  have hbw : Below w.heap.size w (w.alloc (.cells #[.int .i64 0, .int .i64 0] 24)) := (Below.refl _ w).alloc (Nat.le_refl _) _
  have HU := Lib.hid (hu.below hbw (Nat.le_refl _))
  have HV := Lib.hid (hv.below hbw (Nat.le_refl _))
  have HG : Hid (fstF [segF F G s, fIf (!inB lo 1 hi) 1, fIf (decide (1000000000000000 < hi)) 1] = pkG F G s lo hi) := Lib.hid rfl
  obtain ⟨R, hR⟩ : ∃ R, pkG F G s lo hi = R := ⟨_, rfl⟩
  rw [hR] at HG hg ⊢
  have hb0 : (R == 0) = false := by simp [hg]
  clear e1 e2 e3 e4 hR hg hu hv
  go_enter Try.func18, Try.ntmps18
  go_wp2_with fail
  refine (chkseg_any _ _ F G s _ HU.out HV.out).mono ?_; rintro e w' ⟨rfl, rfl⟩
  go_wp2_with fail
  refine (bwithin_any _ _ _ _).mono ?_; rintro e w' ⟨rfl, rfl⟩
  go_wp2_with fail
  refine (bfaultIf_any _ _ _).mono ?_; rintro e w' ⟨rfl, rfl⟩
  go_wp2_with fail
  refine (bfaultIf_any _ _ _).mono ?_; rintro e w' ⟨rfl, rfl⟩
  go_wp2_with fail
  have hz : (w.alloc (.cells #[.int .i64 0, .int .i64 0] 24)).heap.size = w.heap.size + 1 := by simp
  have hb3 := bfirst3 (segF F G s) (fIf (!inB lo 1 hi) 1) (fIf (decide (1000000000000000 < hi)) 1) (w.alloc (.cells #[.int .i64 0, .int .i64 0] 24))
  rw [HG.out, hz] at hb3
  refine hb3.mono ?_; rintro e w' ⟨rfl, rfl⟩
  clear hb3
  have T0 := (Two.new w 0 0 24).alloc (.cells #[.int .i64 (segF F G s), .int .i64 (fIf (!inB lo 1 hi) 1), .int .i64 (fIf (decide (1000000000000000 < hi)) 1)] 25)
  have hbA := hbw.alloc (o := .cells #[.int .i64 (segF F G s), .int .i64 (fIf (!inB lo 1 hi) 1), .int .i64 (fIf (decide (1000000000000000 < hi)) 1)] 25) (by rw [hz]; omega)
  clear hz hbw HG HU HV
  go_upto_region 2 with fail
  generalize (w.alloc (.cells #[.int .i64 0, .int .i64 0] 24)).alloc (.cells #[.int .i64 (segF F G s), .int .i64 (fIf (!inB lo 1 hi) 1), .int .i64 (fIf (decide (1000000000000000 < hi)) 1)] 25) = A at *
  have r0 := T0.c0
  have r1 := T0.c1
  have rf0 := T0.f0
  have rf1 := T0.f1
  have rl := T0.lt
  go_wp2_with fail
  refine bodyPost_ret (by simp [results, Try.results18, go_sem, r0, r1]; try rfl) rfl ?_
  exact ⟨rfl, (hbA.setCell (p := ⟨w.heap.size, 0, none⟩) (Nat.le_refl _) _).setCell (p := ⟨w.heap.size, 1, none⟩) (Nat.le_refl _) _⟩
theorem peak_any (u v : Value) (F G : List Int) (s lo hi : Int) (w : World) (hu : Nums w u F) (hv : Nums w v G) :
    Calls Try.prog 18 #[u, v, .int .i64 s, .int .i64 lo, .int .i64 hi] w
      fun e w' => e = .returned (.tuple #[.agg #[.int .i64 (peX F G s lo hi), .int .i64 (peY F G s lo hi)], .bool (peB F G s lo hi), .int .i64 (peF F G s lo hi)]) ∧ Below w.heap.size w w' := by
  by_cases hg : pkG F G s lo hi = 0
  · obtain ⟨hs, -⟩ := pkG_zero hg
    obtain ⟨l0, lg, -⟩ := segF_zero hs
    rcases hu with ⟨a, c, rfl, rfl⟩ | ⟨b, o, c, rfl, hne, hb, hl, hc⟩
    · simp at l0
    · rcases hv with ⟨a', c', rfl, rfl⟩ | ⟨b', o', c', rfl, hne', hb', hl', hc'⟩
      · simp at lg; omega
      · rw [lg] at hc' ⊢
        exact peak_walk b o F.length c b' o' c' F G s lo hi w rfl lg l0 hg hb hb' hc hc'
  · exact peak_fault u v F G s lo hi w hu hv hg

end Go.Proofs.Ytcidpggcanjoiaa
