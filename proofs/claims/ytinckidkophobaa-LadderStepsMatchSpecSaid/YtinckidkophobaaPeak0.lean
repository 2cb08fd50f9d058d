/- Blocks of two numbers; what Peak answers; Peak (program). -/
import Derived.Test.YtinckidkophobaaMean5
import Derived.Deep.RegionHeld3
namespace Go.Proofs.Ytinckidkophobaa
set_option linter.unusedVariables false
set_option linter.unusedSimpArgs false
open Go.RowKit Go.Deep

/-- Block X holds two numbers that may be written. -/
structure Two (W : World) (X : Nat) (x y : Int) : Prop where
  lt : X < W.heap.size
  c0 : W.cell? ⟨X, 0, none⟩ = some (.int .i64 x)
  c1 : W.cell? ⟨X, 1, none⟩ = some (.int .i64 y)
  f0 : W.frozen? ⟨X, 0, none⟩ = false
  f1 : W.frozen? ⟨X, 1, none⟩ = false
theorem Two.below {W W' : World} {X B : Nat} {x y : Int} (h : Two W X x y) (hb : Below B W W') (hX : X < B) : Two W' X x y :=
  ⟨Nat.lt_of_lt_of_le h.lt hb.size, by rw [hb.cell (p := ⟨X, 0, none⟩) hX]; exact h.c0, by rw [hb.cell (p := ⟨X, 1, none⟩) hX]; exact h.c1, by rw [hb.frozen (p := ⟨X, 0, none⟩) hX]; exact h.f0, by rw [hb.frozen (p := ⟨X, 1, none⟩) hX]; exact h.f1⟩
theorem Two.drewN {W : World} {X : Nat} {x y : Int} (h : Two W X x y) (q : Nat) : Two (W.drewN q) X x y := ⟨h.lt, h.c0, h.c1, h.f0, h.f1⟩
theorem Two.drew {W : World} {X : Nat} {x y : Int} (h : Two W X x y) : Two W.drew X x y := ⟨h.lt, h.c0, h.c1, h.f0, h.f1⟩
theorem Two.new (W : World) (x y : Int) (T : TypeId) : Two (W.alloc (.cells #[.int .i64 x, .int .i64 y] T)) W.heap.size x y := by
  refine ⟨by simp, ?_, ?_, by go_simp, by go_simp⟩
  · rw [World.cell?_alloc_at _ _ _ _ rfl]; rfl
  · rw [World.cell?_alloc_at _ _ _ _ rfl]; rfl
theorem Two.alloc {W : World} {X : Nat} {x y : Int} (h : Two W X x y) (o : Obj) : Two (W.alloc o) X x y :=
  h.below ((Below.refl W.heap.size W).alloc (Nat.le_refl _) o) h.lt
theorem Two.other {W : World} {X Y i : Nat} {x y : Int} {v : Value} (h : Two W X x y) (hn : X ≠ Y) : Two (W.setCell ⟨Y, i, none⟩ v) X x y := by
  refine ⟨by simpa using h.lt, ?_, ?_, by simpa using h.f0, by simpa using h.f1⟩
  · rw [World.cell?_setCell_far _ _ _ _ (by show Y ≠ X; omega)]; exact h.c0
  · rw [World.cell?_setCell_far _ _ _ _ (by show Y ≠ X; omega)]; exact h.c1
theorem Two.set {W : World} {X : Nat} {x y x' y' : Int} (h : Two W X x y) : Two ((W.setCell ⟨X, 0, none⟩ (.int .i64 x')).setCell ⟨X, 1, none⟩ (.int .i64 y')) X x' y' := by
  have k1 : (W.setCell ⟨X, 0, none⟩ (.int .i64 x')).cell? ⟨X, 1, none⟩ = some (.int .i64 y) := by rw [World.cell?_setCell_other _ _ _ _ (by simp)]; exact h.c1
  refine ⟨by simpa using h.lt, ?_, World.cell?_setCell_same _ _ _ k1, by simpa using h.f0, by simpa using h.f1⟩
  rw [World.cell?_setCell_other _ _ _ _ (by simp)]
  exact World.cell?_setCell_same _ _ _ h.c0
theorem Two.set' {W : World} {X : Nat} {x y x' y' : Int} (h : Two W X x y) : Two ((W.setCell ⟨X, 1, none⟩ (.int .i64 y')).setCell ⟨X, 0, none⟩ (.int .i64 x')) X x' y' := by
  have k1 : (W.setCell ⟨X, 1, none⟩ (.int .i64 y')).cell? ⟨X, 0, none⟩ = some (.int .i64 x) := by rw [World.cell?_setCell_other _ _ _ _ (by simp)]; exact h.c0
  refine ⟨by simpa using h.lt, World.cell?_setCell_same _ _ _ k1, ?_, by simpa using h.f0, by simpa using h.f1⟩
  rw [World.cell?_setCell_other _ _ _ _ (by simp)]
  exact World.cell?_setCell_same _ _ _ h.c1

theorem beq_dec (a : Int) : (a == 0) = decide (a = 0) := by rw [Bool.eq_iff_iff]; simp
/-- What Peak answers. -/
def pkG (F G : List Int) (s lo hi : Int) : Int := fstF [segF F G s, fIf (!inB lo 1 hi) 1, fIf (decide (1000000000000000 < hi)) 1]
def pkR (F G : List Int) (lo hi : Int) : Option (Int × Int) := pkAll (fun j => F.getD j 0) (fun j => G.getD j 0) lo hi F.length F.length 0 none
def peF (F G : List Int) (s lo hi : Int) : Int := if pkG F G s lo hi = 0 then (if pkR F G lo hi = none then 0 else rtF ((pkR F G lo hi).getD (0, 0)).1 ((pkR F G lo hi).getD (0, 0)).2 s) else pkG F G s lo hi
def peB (F G : List Int) (s lo hi : Int) : Bool := decide (pkG F G s lo hi = 0) && (!decide (pkR F G lo hi = none) && decide (peF F G s lo hi = 0))
def peX (F G : List Int) (s lo hi : Int) : Int := if peB F G s lo hi = true then rtN ((pkR F G lo hi).getD (0, 0)).1 ((pkR F G lo hi).getD (0, 0)).2 s else 0
def peY (F G : List Int) (s lo hi : Int) : Int := if peB F G s lo hi = true then rtD ((pkR F G lo hi).getD (0, 0)).1 ((pkR F G lo hi).getD (0, 0)).2 s else 0
theorem pe_fault {F G : List Int} {s lo hi : Int} (h : pkG F G s lo hi ≠ 0) : peF F G s lo hi = pkG F G s lo hi ∧ peB F G s lo hi = false ∧ peX F G s lo hi = 0 ∧ peY F G s lo hi = 0 := by
  have e : peB F G s lo hi = false := by simp [peB, h]
  refine ⟨by rw [peF, if_neg h], e, ?_, ?_⟩
  · rw [peX, e]; rfl
  · rw [peY, e]; rfl
theorem pe_none {F G : List Int} {s lo hi : Int} (h : pkG F G s lo hi = 0) (h2 : pkR F G lo hi = none) : peF F G s lo hi = 0 ∧ peB F G s lo hi = false ∧ peX F G s lo hi = 0 ∧ peY F G s lo hi = 0 := by
  have e : peB F G s lo hi = false := by simp [peB, h2]
  refine ⟨by rw [peF, if_pos h, if_pos h2], e, ?_, ?_⟩
  · rw [peX, e]; rfl
  · rw [peY, e]; rfl
theorem pe_some {F G : List Int} {s lo hi b t : Int} (h : pkG F G s lo hi = 0) (h2 : pkR F G lo hi = some (b, t)) : peF F G s lo hi = rtF b t s ∧ peB F G s lo hi = decide (rtF b t s = 0) ∧ peX F G s lo hi = rtX b t s ∧ peY F G s lo hi = rtY b t s := by
  have hF : peF F G s lo hi = rtF b t s := by rw [peF, if_pos h, h2, if_neg (by simp)]; rfl
  have e : peB F G s lo hi = decide (rtF b t s = 0) := by simp [peB, h, h2, hF]
  refine ⟨hF, e, ?_, ?_⟩
  · rw [peX, e, h2, rtX]; by_cases h0 : rtF b t s = 0 <;> simp [h0]
  · rw [peY, e, h2, rtY]; by_cases h0 : rtF b t s = 0 <;> simp [h0]
theorem pkG_zero {F G : List Int} {s lo hi : Int} (h : pkG F G s lo hi = 0) : segF F G s = 0 ∧ 1 ≤ lo ∧ lo ≤ hi ∧ hi ≤ 1000000000000000 := by
  unfold pkG at h
  rw [fstF_zero] at h
  simp only [List.mem_cons, List.not_mem_nil, or_false, forall_eq_or_imp, forall_eq] at h
  rw [fIf_zero (by decide), fIf_zero (by decide)] at h
  simp only [Bool.not_eq_false', inB_iff, decide_eq_false_iff_not] at h
  exact ⟨h.1, h.2.1.1, h.2.1.2, by omega⟩
theorem bfirst3 (x y z : Int) (w : World) :
    Calls Try.prog 26 #[.slice (some ⟨w.heap.size, 0, none⟩) 3 3] (w.alloc (.cells #[.int .i64 x, .int .i64 y, .int .i64 z] 26)) fun e w' => e = .returned (.int .i64 (fstF [x, y, z])) ∧ w.alloc (.cells #[.int .i64 x, .int .i64 y, .int .i64 z] 26) = w' := by
  refine bfirst_any w.heap.size 0 3 3 [x, y, z] _ rfl (by omega) fun j hj => ?_
  rw [World.cell?_alloc_at _ _ _ _ (by simp)]
  match j, hj with
  | 0, _ => rfl
  | 1, _ => rfl
  | 2, _ => rfl
/-- What has been found so far, as the program keeps it. -/
def stO (fnd : Bool) (pb pt : Int) : Option (Int × Int) := if fnd = true then some (pb, pt) else none
theorem stO_step (fnd : Bool) (pb pt lo hi b t : Int) (ht : t ≤ hi) : pkStep lo hi b t (stO fnd pb pt) = if lo ≤ t ∧ (fnd = false ∨ pb * t < b * pt) then some (b, t) else stO fnd pb pt := by
  unfold pkStep stO
  cases fnd
  · simp [ht]
  · simp [ht]

end Go.Proofs.Ytinckidkophobaa
