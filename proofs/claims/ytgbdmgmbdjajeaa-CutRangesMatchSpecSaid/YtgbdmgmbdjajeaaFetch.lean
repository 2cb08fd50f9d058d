/- cut.Fetch. -/
import Derived.Test.YtgbdmgmbdjajeaaSeek
import Derived.Test.YtgbdmgmbdjajeaaRanges
namespace Go.Proofs.Ytgbdmgmbdjajeaa
set_option linter.unusedVariables false
set_option linter.unusedSimpArgs false
open Go.RowKit Go.Deep

def feG (ls : List Seg) (f t start : Int) : Int := fstF [rngF ls start, timF ls, fIf (!inB f (-1000000000000000) 1000000000000000 || !inB t (-1000000000000000) 1000000000000000) 1, fIf (decide (t ≤ f)) 8]
def fetchF (ls : List Seg) (f t start : Int) : Int := if feG ls f t start ≠ 0 then feG ls f t start else if (tchTo ls f t ls.length).2.2 = true then 0 else 9
/-- What Fetch returns. -/
def fetchA (ls : List Seg) (f t start : Int) : Int := if fetchF ls f t start = 0 then rngS start ls (tchTo ls f t ls.length).1 else 0
def fetchB (ls : List Seg) (f t start : Int) : Int := if fetchF ls f t start = 0 then rngS start ls ((tchTo ls f t ls.length).2.1 + 1) else 0
theorem feG_zero (ls : List Seg) (f t start : Int) : feG ls f t start = 0 ↔ rngF ls start = 0 ∧ Timed ls ∧ (isT f ∧ isT t) ∧ f < t := by
  unfold feG isT
  rw [fstF_zero]
  simp only [List.mem_cons, List.not_mem_nil, or_false, forall_eq_or_imp, forall_eq]
  rw [fIf_zero (by decide), fIf_zero (by decide), timF_zero]
  simp only [Bool.or_eq_false_iff, Bool.not_eq_false', inB_iff, decide_eq_false_iff_not, Int.not_le]
theorem carry2 {w1 W' w3 : World} {B : Nat} {f t : Int} (hB : B < w1.heap.size) (h : W'.cell? ⟨B, 0, none⟩ = some (.int .i64 f) ∧ W'.cell? ⟨B, 1, none⟩ = some (.int .i64 t) ∧ Below w1.heap.size w1 W') (b3 : Below W'.heap.size W' w3) : w3.cell? ⟨B, 0, none⟩ = some (.int .i64 f) ∧ w3.cell? ⟨B, 1, none⟩ = some (.int .i64 t) ∧ Below w1.heap.size w1 w3 := by
  obtain ⟨q0, q1, hb⟩ := h
  have hs2 : B < W'.heap.size := Nat.lt_of_lt_of_le hB hb.size
  exact ⟨(b3.cell (p := ⟨B, 0, none⟩) hs2).trans q0, (b3.cell (p := ⟨B, 1, none⟩) hs2).trans q1, hb.trans (b3.mono hb.size)⟩
theorem ret2_agg {a b c d e f : Int} (h : a = b) (h2 : c = d) (h3 : e = f) : Ending.returned (.tuple #[.agg #[.int .i64 a, .int .i64 c], .int .i64 e]) = .returned (.tuple #[.agg #[.int .i64 b, .int .i64 d], .int .i64 f]) := by rw [h, h2, h3]
set_option maxRecDepth 100000 in
set_option maxHeartbeats 8000000 in
theorem fetch_any (v : Value) (ls : List Seg) (f t start : Int) (w : World) (h : Segs w v ls) :
    Calls Try.prog 19 #[v, .agg #[.int .i64 f, .int .i64 t], .int .i64 start] w fun e w' => e = .returned (.tuple #[.agg #[.int .i64 (fetchA ls f t start), .int .i64 (fetchB ls f t start)], .int .i64 (fetchF ls f t start)]) ∧ Below w.heap.size w w' := by
  obtain ⟨a, cap, rfl⟩ := h.parts
  have HS := Lib.hid h
  obtain ⟨FF, hFF⟩ : ∃ FF, fetchF ls f t start = FF := ⟨_, rfl⟩
  obtain ⟨FA, hFA⟩ : ∃ FA, fetchA ls f t start = FA := ⟨_, rfl⟩
  obtain ⟨FB, hFB⟩ : ∃ FB, fetchB ls f t start = FB := ⟨_, rfl⟩
  have HFF := Lib.hid hFF; have HFA := Lib.hid hFA; have HFB := Lib.hid hFB
  rw [hFF, hFA, hFB]
  obtain ⟨g, hg⟩ : ∃ g, feG ls f t start = g := ⟨_, rfl⟩
  obtain ⟨r, hr⟩ : ∃ r, rngF ls start = r := ⟨_, rfl⟩
  obtain ⟨tm, htm⟩ : ∃ tm, timF ls = tm := ⟨_, rfl⟩
  have HGG := Lib.hid hg
  have HR := Lib.hid hr; have HTM := Lib.hid htm
  have HG : Hid (fstF [r, tm, fIf (!inB f (-1000000000000000) 1000000000000000 || !inB t (-1000000000000000) 1000000000000000) 1, fIf (decide (t ≤ f)) 8] = g) := Lib.hid (by rw [← hg, ← hr, ← htm]; rfl)
  have hmx := h.max.2
  obtain ⟨n, hn⟩ : ∃ n, ls.length = n := ⟨_, rfl⟩
  have HN := Lib.hid hn
  rw [hn] at HS hmx ⊢
  have q0 : ((w.alloc (.cells #[.int .i64 f, .int .i64 t] 33)).alloc (.cells #[.int .i64 0, .int .i64 0] 38)).cell? ⟨w.heap.size, 0, none⟩ = some (.int .i64 f) := by rw [World.cell?_alloc_past _ _ _ (by simp), World.cell?_alloc_at _ _ _ _ (by simp)]; rfl
  have q1 : ((w.alloc (.cells #[.int .i64 f, .int .i64 t] 33)).alloc (.cells #[.int .i64 0, .int .i64 0] 38)).cell? ⟨w.heap.size, 1, none⟩ = some (.int .i64 t) := by rw [World.cell?_alloc_past _ _ _ (by simp), World.cell?_alloc_at _ _ _ _ (by simp)]; rfl
  have r0 : ((w.alloc (.cells #[.int .i64 f, .int .i64 t] 33)).alloc (.cells #[.int .i64 0, .int .i64 0] 38)).cell? ⟨w.heap.size + 1, 0, none⟩ = some (.int .i64 0) := by simp
  have r1 : ((w.alloc (.cells #[.int .i64 f, .int .i64 t] 33)).alloc (.cells #[.int .i64 0, .int .i64 0] 38)).cell? ⟨w.heap.size + 1, 1, none⟩ = some (.int .i64 0) := by simp
  have rf0 : ((w.alloc (.cells #[.int .i64 f, .int .i64 t] 33)).alloc (.cells #[.int .i64 0, .int .i64 0] 38)).frozen? ⟨w.heap.size + 1, 0, none⟩ = false := by simp
  have rf1 : ((w.alloc (.cells #[.int .i64 f, .int .i64 t] 33)).alloc (.cells #[.int .i64 0, .int .i64 0] 38)).frozen? ⟨w.heap.size + 1, 1, none⟩ = false := by simp
  have b0 : Below w.heap.size w ((w.alloc (.cells #[.int .i64 f, .int .i64 t] 33)).alloc (.cells #[.int .i64 0, .int .i64 0] 38)) := ((Below.refl _ _).alloc (Nat.le_refl _) _).alloc (by simp) _
  have hz0 : w.heap.size + 1 < ((w.alloc (.cells #[.int .i64 f, .int .i64 t] 33)).alloc (.cells #[.int .i64 0, .int .i64 0] 38)).heap.size := by simp
  clear hg hr htm h hn hFF hFA hFB
  go_enter Try.func19, Try.ntmps19
  go_upto_region 1 with fail
  generalize (w.alloc (.cells #[.int .i64 f, .int .i64 t] 33)).alloc (.cells #[.int .i64 0, .int .i64 0] 38) = w0 at *
  obtain ⟨B, hB⟩ : ∃ B, w.heap.size = B := ⟨_, rfl⟩
  rw [hB] at q0 q1 r0 r1 rf0 rf1 hz0
  simp only [hB]
  have HBB := Lib.hid hB
  clear hB
  go_wp2_with fail
  refine (ranges_any _ ls start _ (HS.out.below b0 (Nat.le_refl _))).mono ?_; rintro e w1 ⟨⟨u, rfl, hP⟩, b1⟩
  rw [HR.out]
  have hB1 : B < w1.heap.size := by have := b1.size; omega
  have hB2 : B + 1 < w1.heap.size := by have := b1.size; omega
  have s0 : w1.cell? ⟨B, 0, none⟩ = some (.int .i64 f) := by rw [b1.cell (p := ⟨B, 0, none⟩) (by show B < _; omega)]; exact q0
  have s1 : w1.cell? ⟨B, 1, none⟩ = some (.int .i64 t) := by rw [b1.cell (p := ⟨B, 1, none⟩) (by show B < _; omega)]; exact q1
  have u0 : w1.cell? ⟨B + 1, 0, none⟩ = some (.int .i64 0) := by rw [b1.cell (p := ⟨B + 1, 0, none⟩) hz0]; exact r0
  have u1 : w1.cell? ⟨B + 1, 1, none⟩ = some (.int .i64 0) := by rw [b1.cell (p := ⟨B + 1, 1, none⟩) hz0]; exact r1
  have uf0 : w1.frozen? ⟨B + 1, 0, none⟩ = false := by rw [b1.frozen (p := ⟨B + 1, 0, none⟩) hz0]; exact rf0
  have uf1 : w1.frozen? ⟨B + 1, 1, none⟩ = false := by rw [b1.frozen (p := ⟨B + 1, 1, none⟩) hz0]; exact rf1
  have hbw := b0.trans (b1.mono b0.size)
  have HS1 := Lib.hid (HS.out.below hbw (Nat.le_refl _))
  have HP := Lib.hid hP
  obtain ⟨pa, pc, rfl, -⟩ := hP.parts
  clear q0 q1 r0 r1 rf0 rf1 hP
  go_upto_region 2 with fail
  have hS : w1.cell? ⟨B, 0, none⟩ = some (.int .i64 f) ∧ w1.cell? ⟨B, 1, none⟩ = some (.int .i64 t) ∧ Below w1.heap.size w1 w1 := ⟨s0, s1, Below.refl _ _⟩
  have HTI : Hid (∀ W', Below w1.heap.size w1 W' → Calls Try.prog 35 #[.slice a n cap] W' fun e w' => e = .returned (.int .i64 tm) ∧ Below W'.heap.size W' w') := Lib.hid (fun W' hb => by rw [← HTM.out]; exact tims_any _ ls W' (HS1.out.below hb (Nat.le_refl _)))
  go_cut [9] (fun s9 wx => s9 = .int .i64 g ∧ Below w1.heap.size w1 wx)
  case first =>
    by_cases hf : inB f (-1000000000000000) 1000000000000000 = true
    · have HTF : Hid (∀ W', Calls Try.prog 37 #[.int .i64 f] W' fun e w' => e = .returned (.bool true) ∧ W' = w') := Lib.hid (fun W' => by rw [← hf]; exact btime_any f W')
      have HG2 : Hid (fstF [r, tm, fIf (!inB t (-1000000000000000) 1000000000000000) 1, fIf (decide (t ≤ f)) 8] = g) := Lib.hid (by have := HG.out; rw [hf] at this; exact this)
      clear hf
      go_region_held3 (fun w' => w'.cell? ⟨B, 0, none⟩ = some (.int .i64 f) ∧ w'.cell? ⟨B, 1, none⟩ = some (.int .i64 t) ∧ Below w1.heap.size w1 w')
        (first | (go_keep; done) | (exact hS) | (exact carry2 hB1 hS (Below.refl _ _).drew) | (exact carry2 hB1 hS ((Below.refl _ _).alloc (Nat.le_refl _) _)))
        (first
          | (go_at_call 35; refine (HTI.out _ (by first | exact hS.2.2 | exact hS.2.2.drew)).mono ?_; rintro e w3 ⟨rfl, b3⟩; (first | (have hS := carry2 hB1 hS b3) | (have hS := carry2 hB1 (carry2 hB1 hS (Below.refl _ _).drew) b3)))
          | (go_at_call 37; (with_reducible refine (HTF.out _).mono ?_); rintro e w' ⟨rfl, rfl⟩)
          | (go_at_call 37; refine (btime_any _ _).mono ?_; rintro e w' ⟨rfl, rfl⟩)
          | (go_at_call 36; refine (bfaultIf_any _ _ _).mono ?_; rintro e w' ⟨rfl, rfl⟩)
          | (go_at_call 34; refine (bfirst4 _ _ _ _ _).mono ?_; rintro e w' ⟨rfl, rfl⟩))
      all_goals
        rw [HG2.out]
        go_wp2_with fail
        go_meet
        exact ⟨rfl, hS.2.2.alloc hS.2.2.size _⟩
    · have hf' : inB f (-1000000000000000) 1000000000000000 = false := by simpa using hf
      have HTF : Hid (∀ W', Calls Try.prog 37 #[.int .i64 f] W' fun e w' => e = .returned (.bool false) ∧ W' = w') := Lib.hid (fun W' => by rw [← hf']; exact btime_any f W')
      have HG2 : Hid (fstF [r, tm, fIf true 1, fIf (decide (t ≤ f)) 8] = g) := Lib.hid (by have := HG.out; rw [hf'] at this; exact this)
      clear hf hf'
      refine wp_region_noPanic ?_
      refine wp_region_held_drew (S := fun w' => w'.cell? ⟨B, 0, none⟩ = some (.int .i64 f) ∧ w'.cell? ⟨B, 1, none⟩ = some (.int .i64 t) ∧ Below w1.heap.size w1 w') (by kernel_rfl) ?hS0 (fun hHeld => ?_)
      case hS0 => exact carry2 hB1 hS (Below.refl _ _).drew
      have hS : w1.drew.cell? ⟨B, 0, none⟩ = some (.int .i64 f) ∧ w1.drew.cell? ⟨B, 1, none⟩ = some (.int .i64 t) ∧ Below w1.heap.size w1 w1.drew := carry2 hB1 hS (Below.refl _ _).drew
      generalize w1.drew = wd at *
      refine wpAnyH_take (i := 0) (v := ?_) rfl (by kernel_rfl) (by kernel_rfl) (by kernel_rfl) (fun _ _ _ h => h) (Or.inl ⟨by kernel_rfl, ?hy⟩) (by assumption) ?_
      case hy => (intro w hSw; (try dsimp only at hSw); go_simp; try (with_reducible rfl))
      try simp only [Act.put, List.setIfInBounds_toArray, List.set_cons_zero, List.set_cons_succ]
      refine wpAnyH_take (i := 1) (v := ?_) rfl (by kernel_rfl) (by kernel_rfl) (by kernel_rfl) (fun _ _ _ h => h) (Or.inl ⟨by kernel_rfl, ?hy⟩) (by assumption) ?_
      case hy => (intro w hSw; (try dsimp only at hSw); go_simp; try (with_reducible rfl))
      try simp only [Act.put, List.setIfInBounds_toArray, List.set_cons_zero, List.set_cons_succ]
      refine wpAnyH_take (i := 3) (v := ?_) rfl (by kernel_rfl) (by kernel_rfl) (by kernel_rfl) (fun _ _ _ h => h) (Or.inl ⟨by kernel_rfl, ?hy⟩) (by assumption) ?_
      case hy => (intro w hSw; (try dsimp only at hSw); go_simp; try (with_reducible rfl))
      try simp only [Act.put, List.setIfInBounds_toArray, List.set_cons_zero, List.set_cons_succ]
      refine wpAnyH_take (i := 4) (v := ?_) rfl (by kernel_rfl) (by kernel_rfl) (by kernel_rfl) (fun _ _ _ h => h) (Or.inl ⟨by kernel_rfl, ?hy⟩) (by assumption) ?_
      case hy => (intro w hSw; (try dsimp only at hSw); go_simp; try (with_reducible rfl))
      try simp only [Act.put, List.setIfInBounds_toArray, List.set_cons_zero, List.set_cons_succ]
      refine wpAnyH_take (i := 14) (v := ?_) rfl (by kernel_rfl) (by kernel_rfl) (by kernel_rfl) (fun _ _ _ h => h) (Or.inl ⟨by kernel_rfl, ?hy⟩) (by assumption) ?_
      case hy => (intro w hSw; (try dsimp only at hSw); go_simp; try (with_reducible rfl))
      try simp only [Act.put, List.setIfInBounds_toArray, List.set_cons_zero, List.set_cons_succ]
      refine wpAnyH_take (i := 15) (v := ?_) rfl (by kernel_rfl) (by kernel_rfl) (by kernel_rfl) (fun _ _ _ h => h) (Or.inl ⟨by kernel_rfl, ?hy⟩) (by assumption) ?_
      case hy => (intro w hSw; (try dsimp only at hSw); go_simp; try (with_reducible rfl))
      try simp only [Act.put, List.setIfInBounds_toArray, List.set_cons_zero, List.set_cons_succ]
      refine wpAnyH_take (i := 16) (v := ?_) rfl (by kernel_rfl) (by kernel_rfl) (by kernel_rfl) (fun _ _ _ h => h) (Or.inl ⟨by kernel_rfl, ?hy⟩) (by assumption) ?_
      case hy => (intro w hSw; (try dsimp only at hSw); go_simp; try (with_reducible rfl))
      try simp only [Act.put, List.setIfInBounds_toArray, List.set_cons_zero, List.set_cons_succ]
      refine wpAnyH_take (i := 17) (v := ?_) rfl (by kernel_rfl) (by kernel_rfl) (by kernel_rfl) (fun _ _ _ h => h) (Or.inl ⟨by kernel_rfl, ?hy⟩) (by assumption) ?_
      case hy => (intro w hSw; (try dsimp only at hSw); go_simp; try (with_reducible rfl))
      try simp only [Act.put, List.setIfInBounds_toArray, List.set_cons_zero, List.set_cons_succ]
      refine wpAnyH_take (i := 18) (v := ?_) rfl (by kernel_rfl) (by kernel_rfl) (by kernel_rfl) (fun _ _ _ h => h) (Or.inl ⟨by kernel_rfl, ?hy⟩) (by assumption) ?_
      case hy => (intro w hSw; (try dsimp only at hSw); go_simp; try (with_reducible rfl))
      try simp only [Act.put, List.setIfInBounds_toArray, List.set_cons_zero, List.set_cons_succ]
      refine wpAnyH_ready (rs := [2]) (by kernel_rfl) (by simp) ?_
      refine AllReadyH.cons rfl (fun K hK => ?_) AllReadyH.nil
      go_simp
      refine (HTI.out _ hS.2.2).mono ?_; rintro e w3 ⟨rfl, b3⟩; have hS := carry2 hB1 hS b3
      refine hK.out _ _ hS (fun hHeld => ?_)
      clear hK K
      try simp only [Act.put, List.setIfInBounds_toArray, List.set_cons_zero, List.set_cons_succ]
      refine wpAnyH_ready (rs := [5]) (by kernel_rfl) (by simp) ?_
      refine AllReadyH.cons rfl (fun K hK => ?_) AllReadyH.nil
      go_simp
      refine (HTF.out _).mono ?_; rintro e w' ⟨rfl, rfl⟩
      refine hK.out _ _ hS (fun hHeld => ?_)
      clear hK K
      try simp only [Act.put, List.setIfInBounds_toArray, List.set_cons_zero, List.set_cons_succ]
      refine wpAnyH_take (i := 6) (v := ?_) rfl (by kernel_rfl) (by kernel_rfl) (by kernel_rfl) (fun _ _ _ h => h) (Or.inl ⟨by kernel_rfl, ?hy⟩) (by assumption) ?_
      case hy => (intro w hSw; (try dsimp only at hSw); go_simp; try (with_reducible rfl))
      try simp only [Act.put, List.setIfInBounds_toArray, List.set_cons_zero, List.set_cons_succ]
      refine wpAnyH_take (i := 7) (v := ?_) rfl (by kernel_rfl) (by kernel_rfl) (by kernel_rfl) (fun _ _ _ h => h) (Or.inl ⟨by kernel_rfl, ?hy⟩) (by assumption) ?_
      case hy => (intro w hSw; (try dsimp only at hSw); go_simp; try (with_reducible rfl))
      try simp only [Act.put, List.setIfInBounds_toArray, List.set_cons_zero, List.set_cons_succ]
      refine wpAnyH_take (i := 8) (v := undef) rfl (by kernel_rfl) (by kernel_rfl) (by kernel_rfl) (fun _ _ _ h => h) (Or.inr ⟨by kernel_rfl, rfl⟩) (by assumption) ?_
      try simp only [Act.put, List.setIfInBounds_toArray, List.set_cons_zero, List.set_cons_succ]
      refine wpAnyH_take (i := 9) (v := undef) rfl (by kernel_rfl) (by kernel_rfl) (by kernel_rfl) (fun _ _ _ h => h) (Or.inr ⟨by kernel_rfl, rfl⟩) (by assumption) ?_
      try simp only [Act.put, List.setIfInBounds_toArray, List.set_cons_zero, List.set_cons_succ]
      refine wpAnyH_take (i := 10) (v := undef) rfl (by kernel_rfl) (by kernel_rfl) (by kernel_rfl) (fun _ _ _ h => h) (Or.inr ⟨by kernel_rfl, rfl⟩) (by assumption) ?_
      try simp only [Act.put, List.setIfInBounds_toArray, List.set_cons_zero, List.set_cons_succ]
      refine wpAnyH_take (i := 11) (v := undef) rfl (by kernel_rfl) (by kernel_rfl) (by kernel_rfl) (fun _ _ _ h => h) (Or.inr ⟨by kernel_rfl, rfl⟩) (by assumption) ?_
      try simp only [Act.put, List.setIfInBounds_toArray, List.set_cons_zero, List.set_cons_succ]
      refine wpAnyH_take (i := 12) (v := ?_) rfl (by kernel_rfl) (by kernel_rfl) (by kernel_rfl) (fun _ _ _ h => h) (Or.inl ⟨by kernel_rfl, ?hy⟩) (by assumption) ?_
      case hy => (intro w hSw; (try dsimp only at hSw); go_simp; try (with_reducible rfl))
      try simp only [Act.put, List.setIfInBounds_toArray, List.set_cons_zero, List.set_cons_succ]
      refine wpAnyH_ready (rs := [13]) (by kernel_rfl) (by simp) ?_
      refine AllReadyH.cons rfl (fun K hK => ?_) AllReadyH.nil
      go_simp
      refine (bfaultIf_any _ _ _).mono ?_; rintro e w' ⟨rfl, rfl⟩
      refine hK.out _ _ hS (fun hHeld => ?_)
      clear hK K
      try simp only [Act.put, List.setIfInBounds_toArray, List.set_cons_zero, List.set_cons_succ]
      refine wpAnyH_ready (rs := [19]) (by kernel_rfl) (by simp) ?_
      refine AllReadyH.cons rfl (fun K hK => ?_) AllReadyH.nil
      go_simp
      refine (bfaultIf_any _ _ _).mono ?_; rintro e w' ⟨rfl, rfl⟩
      refine hK.out _ _ hS (fun hHeld => ?_)
      clear hK K
      try simp only [Act.put, List.setIfInBounds_toArray, List.set_cons_zero, List.set_cons_succ]
      refine wpAnyH_ready (rs := [20]) (by kernel_rfl) (by simp) ?_
      refine AllReadyH.cons rfl (fun K hK => ?_) AllReadyH.nil
      go_simp
      refine hK.out _ _ (carry2 hB1 hS ((Below.refl _ _).alloc (Nat.le_refl _) _)) (fun hHeld => ?_)
      have hS := hHeld
      clear hK K
      try simp only [Act.put, List.setIfInBounds_toArray, List.set_cons_zero, List.set_cons_succ]
      refine wpAnyH_ready (rs := [21]) (by kernel_rfl) (by simp) ?_
      refine AllReadyH.cons rfl (fun K hK => ?_) AllReadyH.nil
      go_simp
      refine (bfirst4 _ _ _ _ _).mono ?_; rintro e w' ⟨rfl, rfl⟩
      refine hK.out _ _ hS (fun hHeld => ?_)
      clear hK K
      try simp only [Act.put, List.setIfInBounds_toArray, List.set_cons_zero, List.set_cons_succ]
      refine wpAnyH_ready (rs := [22]) (by kernel_rfl) (by simp) ?_
      refine AllReadyH.cons rfl (fun K hK => ?_) AllReadyH.nil
      go_simp
      refine hK.out _ _ hS (fun hHeld => ?_)
      clear hK K
      try simp only [Act.put, List.setIfInBounds_toArray, List.set_cons_zero, List.set_cons_succ]
      refine wpAnyH_done (by kernel_rfl) ?_ _
      refine NoPanic.normal ?_
      rw [HG2.out]
      go_wp2_with fail
      go_meet
      exact ⟨rfl, hS.2.2⟩
  case rest =>
    obtain ⟨rfl, bc⟩ := hcut
    have k0 : wc.cell? ⟨B + 1, 0, none⟩ = some (.int .i64 0) := by rw [bc.cell (p := ⟨B + 1, 0, none⟩) hB2]; exact u0
    have k1 : wc.cell? ⟨B + 1, 1, none⟩ = some (.int .i64 0) := by rw [bc.cell (p := ⟨B + 1, 1, none⟩) hB2]; exact u1
    have kf0 : wc.frozen? ⟨B + 1, 0, none⟩ = false := by rw [bc.frozen (p := ⟨B + 1, 0, none⟩) hB2]; exact uf0
    have kf1 : wc.frozen? ⟨B + 1, 1, none⟩ = false := by rw [bc.frozen (p := ⟨B + 1, 1, none⟩) hB2]; exact uf1
    have v0 : wc.cell? ⟨B, 0, none⟩ = some (.int .i64 f) := by rw [bc.cell (p := ⟨B, 0, none⟩) hB1]; exact s0
    have v1 : wc.cell? ⟨B, 1, none⟩ = some (.int .i64 t) := by rw [bc.cell (p := ⟨B, 1, none⟩) hB1]; exact s1
    have bcw := hbw.trans (bc.mono hbw.size)
    have HSC := Lib.hid (HS.out.below bcw (Nat.le_refl _))
    have HPC := Lib.hid (HP.out.below bc (Nat.le_refl _))
    have hwB : w.heap.size ≤ B + 1 := by rw [HBB.out]; omega
    have hBc : B + 1 < wc.heap.size := Nat.lt_of_lt_of_le hB2 bc.size
    clear s0 s1 u0 u1 uf0 uf1 hS
    by_cases h0 : g = 0
    · subst h0
      obtain ⟨hr0, hT, -, hft⟩ := (feG_zero ls f t start).1 HGG.out
      have HLEN := Lib.hid hT.len
      obtain ⟨x, hx⟩ : ∃ x, (tchTo ls f t ls.length).1 = x := ⟨_, rfl⟩
      obtain ⟨y, hy⟩ : ∃ y, (tchTo ls f t ls.length).2.1 = y := ⟨_, rfl⟩
      obtain ⟨c, hc⟩ : ∃ c, (tchTo ls f t ls.length).2.2 = c := ⟨_, rfl⟩
      have HT := Lib.hid (touched_any (.slice a n cap) ls f t)
      rw [hx, hy, hc] at HT
      have HF : Hid (FF = if c = true then 0 else 9) := Lib.hid (by rw [← HFF.out, fetchF, if_neg (by simp [HGG.out]), hc])
      have HA : Hid (FA = if c = true then rngS start ls x else 0) := Lib.hid (by rw [← HFA.out, fetchA, HFF.out, HF.out, hx]; cases c <;> rfl)
      have HB' : Hid (FB = if c = true then rngS start ls (y + 1) else 0) := Lib.hid (by rw [← HFB.out, fetchB, HFF.out, HF.out, hy]; cases c <;> rfl)
      have HXY : Hid (c = true → x < n ∧ y < n) := Lib.hid (fun h => by
        have := tchTo_some ls f t ls.length (by rw [← h, ← hc])
        rw [hx, hy, HN.out] at this
        exact ⟨this.1, this.2.1⟩)
      have HRL : Hid (rngR ls start = rngTo start ls n) := Lib.hid (by rw [rngR, if_pos hr0, rngL_eq, HN.out])
      clear hx hy hc hT hr0 hft
      go_wp2_with fail
      refine (HT.out _ HLEN.out HSC.out).mono ?_; rintro e w3 ⟨rfl, b3⟩
      have l0 : w3.cell? ⟨B + 1, 0, none⟩ = some (.int .i64 0) := by rw [b3.cell (p := ⟨B + 1, 0, none⟩) hBc]; exact k0
      have l1 : w3.cell? ⟨B + 1, 1, none⟩ = some (.int .i64 0) := by rw [b3.cell (p := ⟨B + 1, 1, none⟩) hBc]; exact k1
      have lf0 : w3.frozen? ⟨B + 1, 0, none⟩ = false := by rw [b3.frozen (p := ⟨B + 1, 0, none⟩) hBc]; exact kf0
      have lf1 : w3.frozen? ⟨B + 1, 1, none⟩ = false := by rw [b3.frozen (p := ⟨B + 1, 1, none⟩) hBc]; exact kf1
      have b3w := bcw.trans (b3.mono bcw.size)
      clear k0 k1 kf0 kf1 v0 v1
      cases c
      · have e0 := HF.out; have e1 := HA.out; have e2 := HB'.out
        simp only [Bool.false_eq_true, if_false] at e0 e1 e2
        subst e0 e1 e2
        go_wp2_with fail
        refine bodyPost_ret (by simp [results, Try.results19, go_sem, l0, l1]; try rfl) rfl ?_
        exact ⟨rfl, (b3w.setCell (p := ⟨B + 1, 0, none⟩) hwB _).setCell (p := ⟨B + 1, 1, none⟩) hwB _⟩
      · obtain ⟨hxn, hyn⟩ := HXY.out rfl
        have e0 := HF.out; have e1 := HA.out; have e2 := HB'.out
        simp only [if_true] at e0 e1 e2
        have HP3 := (HPC.out.below b3 (Nat.le_refl _))
        rw [HRL.out] at HP3 ⊢
        rcases HP3 with ⟨a', c', hv, h1⟩ | ⟨pb, po, pc', hv, hne, plt, pl, pm, pcell⟩
        · have := rngTo_len start ls n; rw [h1] at this; simp at this; omega
        rw [rngTo_len] at hv pl pcell ⊢
        simp only [Value.slice.injEq] at hv
        obtain ⟨rfl, -, rfl⟩ := hv
        have p0 := (pcell x hxn).1
        have p1 := (pcell y hyn).2
        rw [rngTo_at _ _ _ _ hxn, ← e1] at p0
        rw [rngTo_at _ _ _ _ hyn, ← e2] at p1
        simp only at p0 p1
        clear pcell hne e1 e2
        subst e0
        go_upto_region 8 with fail
        go_region
        all_goals
          go_wp2_with fail
          refine bodyPost_ret (by simp [results, Try.results19, go_sem, l0, l1]; try rfl) rfl ?_
          exact ⟨rfl, ((b3w.setCell (p := ⟨B + 1, 0, none⟩) hwB _).setCell (p := ⟨B + 1, 1, none⟩) hwB _).drew⟩
    · have hF : FF = g := by rw [← HFF.out, fetchF, HGG.out, if_pos h0]
      have hA : FA = 0 := by rw [← HFA.out, fetchA, HFF.out, hF, if_neg h0]
      have hB3 : FB = 0 := by rw [← HFB.out, fetchB, HFF.out, hF, if_neg h0]
      subst hF hA hB3
      have hb : (FF == 0) = false := by simp [h0]
      clear h0
      go_wp2_with fail
      refine bodyPost_ret (by simp [results, Try.results19, go_sem, k0, k1]; try rfl) rfl ?_
      exact ⟨rfl, (bcw.setCell (p := ⟨B + 1, 0, none⟩) hwB _).setCell (p := ⟨B + 1, 1, none⟩) hwB _⟩

end Go.Proofs.Ytgbdmgmbdjajeaa
