/- cut.boundOf, cut.endOf, cut.checkTimes. -/
import Derived.Test.YtgbdmgmbdjajeaaRise
import Derived.Test.YtgbdmgmbdjajeaaSegs
import Derived.Test.YtgbdmgmbdjajeaaStill
namespace Go.Proofs.Ytgbdmgmbdjajeaa
set_option linter.unusedVariables false
set_option linter.unusedSimpArgs false
open Go.RowKit Go.Deep

/-- A segment by value. -/
abbrev segA (s : Seg) : Value := .agg #[.int .i64 s.no, .int .i64 s.fr, .int .i64 s.te, .int .i64 s.bg, .int .i64 s.ln, .int .i64 s.by_, .int .i64 s.ld]
theorem bound_any (s : Seg) (w : World) :
    Calls Try.prog 39 #[.agg #[.int .i64 s.no, .int .i64 s.fr, .int .i64 s.te, .int .i64 s.bg, .int .i64 s.ln, .int .i64 s.by_, .int .i64 s.ld]] w fun e w' => e = .returned (.int .i64 (bndV s)) ∧ Below w.heap.size w w' := by
  obtain ⟨no, fr, te, bg, ln, by_, ld⟩ := s
  obtain ⟨x, hx⟩ : ∃ x, bndV ⟨no, fr, te, bg, ln, by_, ld⟩ = x := ⟨_, rfl⟩
  have hw : IntKind.i64.wrap (bg + ld) = x := hx
  rw [hx]
  clear hx
  go_enter Try.func39, Try.ntmps39
  go_wp2_with fail
  go_ret
  exact ⟨rfl, (Below.refl _ _).alloc (Nat.le_refl _) _⟩
/-- The cells of a segment in new memory. -/
theorem seg_cells (s : Seg) (w : World) : (w.alloc (.cells #[.int .i64 s.no, .int .i64 s.fr, .int .i64 s.te, .int .i64 s.bg, .int .i64 s.ln, .int .i64 s.by_, .int .i64 s.ld] 45)).cell? ⟨w.heap.size, 0, none⟩ = some (.int .i64 s.no) ∧ (w.alloc (.cells #[.int .i64 s.no, .int .i64 s.fr, .int .i64 s.te, .int .i64 s.bg, .int .i64 s.ln, .int .i64 s.by_, .int .i64 s.ld] 45)).cell? ⟨w.heap.size, 1, none⟩ = some (.int .i64 s.fr) ∧ (w.alloc (.cells #[.int .i64 s.no, .int .i64 s.fr, .int .i64 s.te, .int .i64 s.bg, .int .i64 s.ln, .int .i64 s.by_, .int .i64 s.ld] 45)).cell? ⟨w.heap.size, 2, none⟩ = some (.int .i64 s.te) ∧ (w.alloc (.cells #[.int .i64 s.no, .int .i64 s.fr, .int .i64 s.te, .int .i64 s.bg, .int .i64 s.ln, .int .i64 s.by_, .int .i64 s.ld] 45)).cell? ⟨w.heap.size, 3, none⟩ = some (.int .i64 s.bg) ∧ (w.alloc (.cells #[.int .i64 s.no, .int .i64 s.fr, .int .i64 s.te, .int .i64 s.bg, .int .i64 s.ln, .int .i64 s.by_, .int .i64 s.ld] 45)).cell? ⟨w.heap.size, 4, none⟩ = some (.int .i64 s.ln) ∧ (w.alloc (.cells #[.int .i64 s.no, .int .i64 s.fr, .int .i64 s.te, .int .i64 s.bg, .int .i64 s.ln, .int .i64 s.by_, .int .i64 s.ld] 45)).cell? ⟨w.heap.size, 5, none⟩ = some (.int .i64 s.by_) ∧ (w.alloc (.cells #[.int .i64 s.no, .int .i64 s.fr, .int .i64 s.te, .int .i64 s.bg, .int .i64 s.ln, .int .i64 s.by_, .int .i64 s.ld] 45)).cell? ⟨w.heap.size, 6, none⟩ = some (.int .i64 s.ld) := by
  refine ⟨?_, ?_, ?_, ?_, ?_, ?_, ?_⟩ <;> (rw [World.cell?_alloc_at _ _ _ _ (by simp)]; rfl)
set_option maxHeartbeats 1000000 in
theorem end_any (s : Seg) (w : World) :
    Calls Try.prog 47 #[.agg #[.int .i64 s.no, .int .i64 s.fr, .int .i64 s.te, .int .i64 s.bg, .int .i64 s.ln, .int .i64 s.by_, .int .i64 s.ld]] w fun e w' => e = .returned (.int .i64 (endS s)) ∧ Below w.heap.size w w' := by
  have HB : Hid (∀ W', Calls Try.prog 39 #[.agg #[.int .i64 s.no, .int .i64 s.fr, .int .i64 s.te, .int .i64 s.bg, .int .i64 s.ln, .int .i64 s.by_, .int .i64 s.ld]] W' fun e w' => e = .returned (.int .i64 (bndV s)) ∧ Below W'.heap.size W' w') := Lib.hid (bound_any s)
  have HCL := Lib.hid (seg_cells s w)
  obtain ⟨x, hx⟩ : ∃ x, endS s = x := ⟨_, rfl⟩
  obtain ⟨q, hq⟩ : ∃ q, bndV s = q := ⟨_, rfl⟩
  have hw : IntKind.i64.wrap (q + s.ln) = x := by rw [← hq]; exact hx
  rw [hx]
  rw [hq] at HB
  clear hx hq
  obtain ⟨no, fr, te, bg, ln, by_, ld⟩ := s
  simp only at hw HB HCL ⊢
  obtain ⟨e0, e1, e2, e3, e4, e5, e6⟩ := HCL.out
  clear HCL
  go_enter Try.func47, Try.ntmps47
  go_upto_region 1 with fail
  have hWb : Below w.heap.size w (w.alloc (.cells #[.int .i64 no, .int .i64 fr, .int .i64 te, .int .i64 bg, .int .i64 ln, .int .i64 by_, .int .i64 ld] 45)) := (Below.refl _ _).alloc (Nat.le_refl _) _
  have hWs : w.heap.size < (w.alloc (.cells #[.int .i64 no, .int .i64 fr, .int .i64 te, .int .i64 bg, .int .i64 ln, .int .i64 by_, .int .i64 ld] 45)).heap.size := by simp
  generalize w.alloc (.cells #[.int .i64 no, .int .i64 fr, .int .i64 te, .int .i64 bg, .int .i64 ln, .int .i64 by_, .int .i64 ld] 45) = W at *
  go_region_held3 (fun w' => w'.cell? ⟨w.heap.size, 0, none⟩ = some (.int .i64 no) ∧ w'.cell? ⟨w.heap.size, 1, none⟩ = some (.int .i64 fr) ∧ w'.cell? ⟨w.heap.size, 2, none⟩ = some (.int .i64 te) ∧ w'.cell? ⟨w.heap.size, 3, none⟩ = some (.int .i64 bg) ∧ w'.cell? ⟨w.heap.size, 4, none⟩ = some (.int .i64 ln) ∧ w'.cell? ⟨w.heap.size, 5, none⟩ = some (.int .i64 by_) ∧ w'.cell? ⟨w.heap.size, 6, none⟩ = some (.int .i64 ld) ∧ Below w.heap.size w w' ∧ w.heap.size < w'.heap.size)
    (first | (go_keep; done) | (exact ⟨e0, e1, e2, e3, e4, e5, e6, hWb, hWs⟩) | (exact ⟨e0, e1, e2, e3, e4, e5, e6, hWb.drew, hWs⟩) | (exact ⟨f0, f1, f2, f3, f4, f5, f6, f7, f8⟩))
    (first
      | (go_at_call 39; refine (HB.out _).mono ?_; rintro e w3 ⟨rfl, b3⟩; have f0 := (b3.cell (p := ⟨w.heap.size, 0, none⟩) hWs).trans e0; have f1 := (b3.cell (p := ⟨w.heap.size, 1, none⟩) hWs).trans e1; have f2 := (b3.cell (p := ⟨w.heap.size, 2, none⟩) hWs).trans e2; have f3 := (b3.cell (p := ⟨w.heap.size, 3, none⟩) hWs).trans e3; have f4 := (b3.cell (p := ⟨w.heap.size, 4, none⟩) hWs).trans e4; have f5 := (b3.cell (p := ⟨w.heap.size, 5, none⟩) hWs).trans e5; have f6 := (b3.cell (p := ⟨w.heap.size, 6, none⟩) hWs).trans e6; have f7 := hWb.drew.trans (b3.mono hWb.size); have f8 := Nat.lt_of_lt_of_le hWs b3.size))
  all_goals
    go_wp2_with fail
    go_ret
    exact ⟨rfl, f7⟩
/-- Three faults in new memory. -/
theorem bfirst3 (x y z : Int) (w : World) :
    Calls Try.prog 34 #[.slice (some ⟨w.heap.size, 0, none⟩) 3 3] (w.alloc (.cells #[.int .i64 x, .int .i64 y, .int .i64 z] 25)) fun e w' => e = .returned (.int .i64 (fstF [x, y, z])) ∧ w.alloc (.cells #[.int .i64 x, .int .i64 y, .int .i64 z] 25) = w' := by
  refine bfirst_any w.heap.size 0 3 3 [x, y, z] _ rfl (by omega) fun j hj => ?_
  rw [World.cell?_alloc_at _ _ _ _ (by simp)]
  match j, hj with
  | 0, _ => rfl
  | 1, _ => rfl
  | 2, _ => rfl
theorem timE_bad {ls : List Seg} {k : Nat} {s : Seg} (e : ls.getD k seg0 = s) (ht : timB s = false) (c d : Bool) (hc : (decide (0 < k) && decide (bndV s < bndV (ls.getD (k - 1) seg0))) = c) (hd : decide (s.ln < 0) = d) :
    fstF [fIf true 1, fIf c 8, fIf d 8] = timE ls k := by
  unfold timE
  rw [e, ht, hc, hd]; rfl
theorem timE_good {ls : List Seg} {k : Nat} {s : Seg} (e : ls.getD k seg0 = s) (ht : timB s = true) (c d : Bool) (hc : (decide (0 < k) && decide (bndV s < bndV (ls.getD (k - 1) seg0))) = c) (hd : decide (s.ln < 0) = d) :
    fstF [fIf (!inB (endS s) (-1000000000000000) 1000000000000000) 1, fIf c 8, fIf d 8] = timE ls k := by
  unfold timE
  rw [e, ht, hc, hd]; rfl
theorem carry7 {w W' w3 : World} {R : Nat} {no fr te bg ln by_ ld : Int} (h : W'.cell? ⟨R, 0, none⟩ = some (.int .i64 no) ∧ W'.cell? ⟨R, 1, none⟩ = some (.int .i64 fr) ∧ W'.cell? ⟨R, 2, none⟩ = some (.int .i64 te) ∧ W'.cell? ⟨R, 3, none⟩ = some (.int .i64 bg) ∧ W'.cell? ⟨R, 4, none⟩ = some (.int .i64 ln) ∧ W'.cell? ⟨R, 5, none⟩ = some (.int .i64 by_) ∧ W'.cell? ⟨R, 6, none⟩ = some (.int .i64 ld) ∧ Below w.heap.size w W' ∧ R < W'.heap.size) (b3 : Below W'.heap.size W' w3) : w3.cell? ⟨R, 0, none⟩ = some (.int .i64 no) ∧ w3.cell? ⟨R, 1, none⟩ = some (.int .i64 fr) ∧ w3.cell? ⟨R, 2, none⟩ = some (.int .i64 te) ∧ w3.cell? ⟨R, 3, none⟩ = some (.int .i64 bg) ∧ w3.cell? ⟨R, 4, none⟩ = some (.int .i64 ln) ∧ w3.cell? ⟨R, 5, none⟩ = some (.int .i64 by_) ∧ w3.cell? ⟨R, 6, none⟩ = some (.int .i64 ld) ∧ Below w.heap.size w w3 ∧ R < w3.heap.size := by
  obtain ⟨h0, h1, h2, h3, h4, h5, h6, hb, hs⟩ := h
  exact ⟨(b3.cell (p := ⟨R, 0, none⟩) hs).trans h0, (b3.cell (p := ⟨R, 1, none⟩) hs).trans h1, (b3.cell (p := ⟨R, 2, none⟩) hs).trans h2, (b3.cell (p := ⟨R, 3, none⟩) hs).trans h3, (b3.cell (p := ⟨R, 4, none⟩) hs).trans h4, (b3.cell (p := ⟨R, 5, none⟩) hs).trans h5, (b3.cell (p := ⟨R, 6, none⟩) hs).trans h6, hb.trans (b3.mono hb.size), Nat.lt_of_lt_of_le hs b3.size⟩
theorem carry14 {w W' w3 : World} {R : Nat} {no fr te bg ln by_ ld : Int} {b off k : Nat} {p : Seg} (hlt : b < w.heap.size) (h : W'.cell? ⟨R, 0, none⟩ = some (.int .i64 no) ∧ W'.cell? ⟨R, 1, none⟩ = some (.int .i64 fr) ∧ W'.cell? ⟨R, 2, none⟩ = some (.int .i64 te) ∧ W'.cell? ⟨R, 3, none⟩ = some (.int .i64 bg) ∧ W'.cell? ⟨R, 4, none⟩ = some (.int .i64 ln) ∧ W'.cell? ⟨R, 5, none⟩ = some (.int .i64 by_) ∧ W'.cell? ⟨R, 6, none⟩ = some (.int .i64 ld) ∧ W'.cell? ⟨b, off + (k - 1) * 7, none⟩ = some (.int .i64 p.no) ∧ W'.cell? ⟨b, off + (k - 1) * 7 + 1, none⟩ = some (.int .i64 p.fr) ∧ W'.cell? ⟨b, off + (k - 1) * 7 + 2, none⟩ = some (.int .i64 p.te) ∧ W'.cell? ⟨b, off + (k - 1) * 7 + 3, none⟩ = some (.int .i64 p.bg) ∧ W'.cell? ⟨b, off + (k - 1) * 7 + 4, none⟩ = some (.int .i64 p.ln) ∧ W'.cell? ⟨b, off + (k - 1) * 7 + 5, none⟩ = some (.int .i64 p.by_) ∧ W'.cell? ⟨b, off + (k - 1) * 7 + 6, none⟩ = some (.int .i64 p.ld) ∧ Below w.heap.size w W' ∧ R < W'.heap.size) (b3 : Below W'.heap.size W' w3) : w3.cell? ⟨R, 0, none⟩ = some (.int .i64 no) ∧ w3.cell? ⟨R, 1, none⟩ = some (.int .i64 fr) ∧ w3.cell? ⟨R, 2, none⟩ = some (.int .i64 te) ∧ w3.cell? ⟨R, 3, none⟩ = some (.int .i64 bg) ∧ w3.cell? ⟨R, 4, none⟩ = some (.int .i64 ln) ∧ w3.cell? ⟨R, 5, none⟩ = some (.int .i64 by_) ∧ w3.cell? ⟨R, 6, none⟩ = some (.int .i64 ld) ∧ w3.cell? ⟨b, off + (k - 1) * 7, none⟩ = some (.int .i64 p.no) ∧ w3.cell? ⟨b, off + (k - 1) * 7 + 1, none⟩ = some (.int .i64 p.fr) ∧ w3.cell? ⟨b, off + (k - 1) * 7 + 2, none⟩ = some (.int .i64 p.te) ∧ w3.cell? ⟨b, off + (k - 1) * 7 + 3, none⟩ = some (.int .i64 p.bg) ∧ w3.cell? ⟨b, off + (k - 1) * 7 + 4, none⟩ = some (.int .i64 p.ln) ∧ w3.cell? ⟨b, off + (k - 1) * 7 + 5, none⟩ = some (.int .i64 p.by_) ∧ w3.cell? ⟨b, off + (k - 1) * 7 + 6, none⟩ = some (.int .i64 p.ld) ∧ Below w.heap.size w w3 ∧ R < w3.heap.size := by
  obtain ⟨h0, h1, h2, h3, h4, h5, h6, q0, q1, q2, q3, q4, q5, q6, hb, hs⟩ := h
  exact ⟨(b3.cell (p := ⟨R, 0, none⟩) hs).trans h0, (b3.cell (p := ⟨R, 1, none⟩) hs).trans h1, (b3.cell (p := ⟨R, 2, none⟩) hs).trans h2, (b3.cell (p := ⟨R, 3, none⟩) hs).trans h3, (b3.cell (p := ⟨R, 4, none⟩) hs).trans h4, (b3.cell (p := ⟨R, 5, none⟩) hs).trans h5, (b3.cell (p := ⟨R, 6, none⟩) hs).trans h6, (b3.cell (p := ⟨b, off + (k - 1) * 7, none⟩) (Nat.lt_of_lt_of_le hlt hb.size)).trans q0, (b3.cell (p := ⟨b, off + (k - 1) * 7 + 1, none⟩) (Nat.lt_of_lt_of_le hlt hb.size)).trans q1, (b3.cell (p := ⟨b, off + (k - 1) * 7 + 2, none⟩) (Nat.lt_of_lt_of_le hlt hb.size)).trans q2, (b3.cell (p := ⟨b, off + (k - 1) * 7 + 3, none⟩) (Nat.lt_of_lt_of_le hlt hb.size)).trans q3, (b3.cell (p := ⟨b, off + (k - 1) * 7 + 4, none⟩) (Nat.lt_of_lt_of_le hlt hb.size)).trans q4, (b3.cell (p := ⟨b, off + (k - 1) * 7 + 5, none⟩) (Nat.lt_of_lt_of_le hlt hb.size)).trans q5, (b3.cell (p := ⟨b, off + (k - 1) * 7 + 6, none⟩) (Nat.lt_of_lt_of_le hlt hb.size)).trans q6, hb.trans (b3.mono hb.size), Nat.lt_of_lt_of_le hs b3.size⟩
set_option maxRecDepth 100000 in
set_option maxHeartbeats 8000000 in
theorem tims_walk (b off n cap : Nat) (ls : List Seg) (w : World) (hz : ls.length = n) (hn0 : 0 < n) (hn : n ≤ 1000) (hlt : b < w.heap.size) (hS0 : Segs w (.slice (some ⟨b, off, none⟩) n cap) ls) :
    Calls Try.prog 35 #[.slice (some ⟨b, off, none⟩) n cap] w fun e w' => e = .returned (.int .i64 (timF ls)) ∧ Below w.heap.size w w' := by
  have HC := Lib.hid (fun j (hj : j < n) => hS0.cells j (by omega))
  have HR : Hid (timF ls = timsF ls) := Lib.hid (by unfold timF; rw [if_neg (by omega)])
  have HZ := Lib.hid hz
  have hn9 : (n : Int) ≤ 1000 := by omega
  clear hz hS0
  go_enter Try.func35, Try.ntmps35
  go_wp2_with fail
  go_loopw [12] (fun v wr => ∃ k : Nat, k ≤ n ∧ v = .int .i64 k ∧ Below w.heap.size w wr ∧ Hid (fstF (((List.range ls.length).map (timE ls)).drop k) = timsF ls)) (fun v _ => n - (intOf v).toNat)
  case atStart => exact ⟨0, Nat.zero_le _, rfl, Below.refl _ _, Lib.hid rfl⟩
  case round =>
    obtain ⟨k, hk, rfl, hbel, HF⟩ := hrel
    by_cases hlt2 : k < n
    · obtain ⟨s, hs⟩ : ∃ s, ls.getD k seg0 = s := ⟨_, rfl⟩
      obtain ⟨d0, d1, d2, d3, d4, d5, d6⟩ := HC.out k hlt2
      rw [hs] at d0 d1 d2 d3 d4 d5 d6
      have HSG := Lib.hid hs
      obtain ⟨f, hf⟩ : ∃ f, timE ls k = f := ⟨_, rfl⟩
      have HD : Hid ((f ≠ 0 → timsF ls = f) ∧ (f = 0 → fstF (((List.range ls.length).map (timE ls)).drop (k + 1)) = timsF ls)) := Lib.hid (by
        have hd := timsF_drop ls k (by rw [HZ.out]; exact hlt2)
        rw [HF.out, hf] at hd
        exact ⟨fun h => by rw [if_neg h] at hd; exact hd, fun h => by rw [if_pos h] at hd; exact hd.symm⟩)
      have HFF := Lib.hid hf
      obtain ⟨T, hT⟩ : ∃ T, timB s = T := ⟨_, rfl⟩
      have HT := Lib.hid hT
      obtain ⟨bs, hbs⟩ : ∃ bs, bndV s = bs := ⟨_, rfl⟩
      obtain ⟨es, hes⟩ : ∃ es, endS s = es := ⟨_, rfl⟩
      have HBS0 := Lib.hid (bound_any s); have HEN0 := Lib.hid (end_any s)
      rw [hbs] at HBS0; rw [hes] at HEN0
      have HBB := Lib.hid hbs; have HEE := Lib.hid hes
      have HCL := Lib.hid (seg_cells s wr)
      clear hs hf hT hbs hes
      rw [← hbel.cell (p := ⟨b, off + k * 7, none⟩) hlt] at d0
      rw [← hbel.cell (p := ⟨b, off + k * 7 + 1, none⟩) hlt] at d1
      rw [← hbel.cell (p := ⟨b, off + k * 7 + 2, none⟩) hlt] at d2
      rw [← hbel.cell (p := ⟨b, off + k * 7 + 3, none⟩) hlt] at d3
      rw [← hbel.cell (p := ⟨b, off + k * 7 + 4, none⟩) hlt] at d4
      rw [← hbel.cell (p := ⟨b, off + k * 7 + 5, none⟩) hlt] at d5
      rw [← hbel.cell (p := ⟨b, off + k * 7 + 6, none⟩) hlt] at d6
      obtain ⟨no, fr, te, bg, ln, by_, ld⟩ := s
      simp only at d0 d1 d2 d3 d4 d5 d6 HBS0 HEN0 HCL
      have HBS : Hid (∀ W', Calls Try.prog 39 #[.agg #[.int .i64 no, .int .i64 fr, .int .i64 te, .int .i64 bg, .int .i64 ln, .int .i64 by_, .int .i64 ld]] W' fun e w' => e = .returned (.int .i64 bs) ∧ Below W'.heap.size W' w') := HBS0
      have HEN : Hid (∀ W', Calls Try.prog 47 #[.agg #[.int .i64 no, .int .i64 fr, .int .i64 te, .int .i64 bg, .int .i64 ln, .int .i64 by_, .int .i64 ld]] W' fun e w' => e = .returned (.int .i64 es) ∧ Below W'.heap.size W' w') := HEN0
      clear HBS0 HEN0
      obtain ⟨e0, e1, e2, e3, e4, e5, e6⟩ := HCL.out
      clear HCL
      go_upto_region 6 with fail
      have hWb : Below w.heap.size w (wr.alloc (.cells #[.int .i64 no, .int .i64 fr, .int .i64 te, .int .i64 bg, .int .i64 ln, .int .i64 by_, .int .i64 ld] 45)) := hbel.alloc hbel.size _
      have hWs : wr.heap.size < (wr.alloc (.cells #[.int .i64 no, .int .i64 fr, .int .i64 te, .int .i64 bg, .int .i64 ln, .int .i64 by_, .int .i64 ld] 45)).heap.size := by simp
      have hbw : b < (wr.alloc (.cells #[.int .i64 no, .int .i64 fr, .int .i64 te, .int .i64 bg, .int .i64 ln, .int .i64 by_, .int .i64 ld] 45)).heap.size := Nat.lt_of_lt_of_le hlt hWb.size
      generalize wr.alloc (.cells #[.int .i64 no, .int .i64 fr, .int .i64 te, .int .i64 bg, .int .i64 ln, .int .i64 by_, .int .i64 ld] 45) = W at *
      generalize wr.heap.size = R at *
      go_cut [5] (fun s5 wx => s5 = .bool T ∧ wx = W)
      case first =>
        by_cases h1 : inB bg (-1000000000000000) 1000000000000000 = true
        · have H1 := Lib.hid h1
          clear h1
          by_cases h2 : inB ld (-1000000000000000) 1000000000000000 = true
          · have H2 := Lib.hid h2
            clear h2
            obtain ⟨c, hc⟩ : ∃ c, inB ln (-1000000000000000) 1000000000000000 = c := ⟨_, rfl⟩
            have HCC := Lib.hid hc
            have HTc : Hid (c = T) := Lib.hid (by rw [← HT.out]; simp [timB, H1.out, H2.out, hc])
            clear hc
            go_wp2_with fail
            refine (btime_any _ _).mono ?_; rintro e w' ⟨rfl, rfl⟩
            rw [H1.out]
            go_wp2_with fail
            refine (btime_any _ _).mono ?_; rintro e w' ⟨rfl, rfl⟩
            rw [H2.out]
            go_wp2_with fail
            refine (btime_any _ _).mono ?_; rintro e w' ⟨rfl, rfl⟩
            rw [HCC.out]
            go_wp2_with fail
            go_meet
            exact ⟨by rw [HTc.out], rfl⟩
          · have h2' : inB ld (-1000000000000000) 1000000000000000 = false := by simpa using h2
            have H2 := Lib.hid h2'
            have HTc : Hid (T = false) := Lib.hid (by rw [← HT.out]; simp [timB, H1.out, h2'])
            clear h2 h2'
            go_wp2_with fail
            refine (btime_any _ _).mono ?_; rintro e w' ⟨rfl, rfl⟩
            rw [H1.out]
            go_wp2_with fail
            refine (btime_any _ _).mono ?_; rintro e w' ⟨rfl, rfl⟩
            rw [H2.out]
            go_wp2_with fail
            go_meet
            exact ⟨by rw [HTc.out], rfl⟩
        · have h1' : inB bg (-1000000000000000) 1000000000000000 = false := by simpa using h1
          have H1 := Lib.hid h1'
          have HTc : Hid (T = false) := Lib.hid (by rw [← HT.out]; simp [timB, h1'])
          clear h1 h1'
          go_wp2_with fail
          refine (btime_any _ _).mono ?_; rintro e w' ⟨rfl, rfl⟩
          rw [H1.out]
          go_wp2_with fail
          go_meet
          exact ⟨by rw [HTc.out], rfl⟩
      case rest =>
        obtain ⟨rfl, rfl⟩ := hcut
        have hd4 : decide (ln < 0) = decide (ln < 0) := rfl
        clear hd4
        by_cases hTT : T = false
        · subst hTT
          by_cases hk0 : k < 1
          · have hgd : decide (0 < k) = false := by simp; omega
            have HSM := Lib.hid ((timE_bad HSG.out HT.out false (decide (ln < 0)) (by rw [hgd]; rfl) rfl).trans HFF.out)
            have hS : wc.cell? ⟨R, 0, none⟩ = some (.int .i64 no) ∧ wc.cell? ⟨R, 1, none⟩ = some (.int .i64 fr) ∧ wc.cell? ⟨R, 2, none⟩ = some (.int .i64 te) ∧ wc.cell? ⟨R, 3, none⟩ = some (.int .i64 bg) ∧ wc.cell? ⟨R, 4, none⟩ = some (.int .i64 ln) ∧ wc.cell? ⟨R, 5, none⟩ = some (.int .i64 by_) ∧ wc.cell? ⟨R, 6, none⟩ = some (.int .i64 ld) ∧ Below w.heap.size w wc ∧ R < wc.heap.size := ⟨e0, e1, e2, e3, e4, e5, e6, hWb, hWs⟩
            clear hk0
            go_upto_region 7 with fail
            refine region_still_tail 27 (by kernel_rfl) (by kernel_rfl) ?_
            simp only [List.take_succ_cons, List.take_zero, List.drop_succ_cons, List.drop_zero]
            refine St.step (fun K hK => ?_); go_simp; refine hK.out _ ?_; clear hK K
            refine St.step (fun K hK => ?_); go_simp; refine hK.out _ ?_; clear hK K
            refine St.step (fun K hK => ?_); go_simp; refine hK.out _ ?_; clear hK K
            refine St.skip (by kernel_rfl) ?_
            refine St.skip (by kernel_rfl) ?_
            refine St.skip (by kernel_rfl) ?_
            refine St.skip (by kernel_rfl) ?_
            refine St.step (fun K hK => ?_); go_simp; refine hK.out _ ?_; clear hK K
            refine St.step (fun K hK => ?_); go_simp; refine ⟨_, (st_of (bfaultIf_any _ _ _)), ?_⟩; refine hK.out _ ?_; clear hK K
            refine St.step (fun K hK => ?_); go_simp; refine hK.out _ ?_; clear hK K
            refine St.step (fun K hK => ?_); go_simp; refine hK.out _ ?_; clear hK K
            refine St.step (fun K hK => ?_); go_simp; refine hK.out _ ?_; clear hK K
            refine St.skip (by kernel_rfl) ?_
            refine St.skip (by kernel_rfl) ?_
            refine St.skip (by kernel_rfl) ?_
            refine St.skip (by kernel_rfl) ?_
            refine St.skip (by kernel_rfl) ?_
            refine St.skip (by kernel_rfl) ?_
            refine St.skip (by kernel_rfl) ?_
            refine St.skip (by kernel_rfl) ?_
            refine St.skip (by kernel_rfl) ?_
            refine St.step (fun K hK => ?_); go_simp; refine hK.out _ ?_; clear hK K
            refine St.step (fun K hK => ?_); go_simp; refine ⟨_, (st_of (bfaultIf_any _ _ _)), ?_⟩; refine hK.out _ ?_; clear hK K
            refine St.step (fun K hK => ?_); go_simp; refine hK.out _ ?_; clear hK K
            refine St.step (fun K hK => ?_); go_simp; refine hK.out _ ?_; clear hK K
            refine St.step (fun K hK => ?_); go_simp; refine hK.out _ ?_; clear hK K
            refine St.step (fun K hK => ?_); go_simp; refine ⟨_, (st_of (bfaultIf_any _ _ _)), ?_⟩; refine hK.out _ ?_; clear hK K
            refine St.nil ?_
            have hWd : Below w.heap.size w wc.drew := hWb.drew
            generalize wc.drew = w2 at *
            go_wp2_with fail
            refine (bfirst3 _ _ _ _).mono ?_; rintro e w' ⟨rfl, rfl⟩
            all_goals
              rw [HSM.out]
              by_cases h0 : f = 0
              · have HN := Lib.hid (HD.out.2 h0)
                subst h0
                go_wp2_with fail
                go_roundw
                case rel => exact ⟨k + 1, by omega, by go_num, hWd.alloc hWd.size _, HN⟩
                case measure => simp [intOf]; omega
              · have hne : (f == 0) = false := by simp [h0]
                have HN := Lib.hid (HR.out.trans (HD.out.1 h0))
                clear h0
                go_wp2_with fail
                go_ret
                exact ⟨bret_int HN.out.symm, hWd.alloc hWd.size _⟩
          · have hgd : decide (0 < k) = true := by simp; omega
            obtain ⟨p, hp⟩ : ∃ p, ls.getD (k - 1) seg0 = p := ⟨_, rfl⟩
            obtain ⟨q0, q1, q2, q3, q4, q5, q6⟩ := HC.out (k - 1) (by omega)
            rw [hp] at q0 q1 q2 q3 q4 q5 q6
            rw [← hWb.cell (p := ⟨b, off + (k - 1) * 7, none⟩) hlt] at q0
            rw [← hWb.cell (p := ⟨b, off + (k - 1) * 7 + 1, none⟩) hlt] at q1
            rw [← hWb.cell (p := ⟨b, off + (k - 1) * 7 + 2, none⟩) hlt] at q2
            rw [← hWb.cell (p := ⟨b, off + (k - 1) * 7 + 3, none⟩) hlt] at q3
            rw [← hWb.cell (p := ⟨b, off + (k - 1) * 7 + 4, none⟩) hlt] at q4
            rw [← hWb.cell (p := ⟨b, off + (k - 1) * 7 + 5, none⟩) hlt] at q5
            rw [← hWb.cell (p := ⟨b, off + (k - 1) * 7 + 6, none⟩) hlt] at q6
            obtain ⟨bp, hbp⟩ : ∃ bp, bndV p = bp := ⟨_, rfl⟩
            have HBP := Lib.hid (bound_any p)
            rw [hbp] at HBP
            have HSM := Lib.hid ((timE_bad HSG.out HT.out (decide (bs < bp)) (decide (ln < 0)) (by rw [hgd, hp, hbp, HBB.out, Bool.true_and]) rfl).trans HFF.out)
            have hgd2 : (0 : Int) < (k : Int) := by omega
            have i0 : (0 : Int) ≤ (k : Int) - 1 := by omega
            have i1 : (k : Int) - 1 < (n : Int) := by omega
            have i2 : ((k : Int) - 1).toNat = k - 1 := by omega
            have i3 : (1 : Int) ≤ (k : Int) := by omega
            have i4 : IntKind.i64.wrap ((k : Int) - 1) = (k : Int) - 1 := IntWalk.i64_in _ ⟨by omega, by omega⟩
            have hS : wc.cell? ⟨R, 0, none⟩ = some (.int .i64 no) ∧ wc.cell? ⟨R, 1, none⟩ = some (.int .i64 fr) ∧ wc.cell? ⟨R, 2, none⟩ = some (.int .i64 te) ∧ wc.cell? ⟨R, 3, none⟩ = some (.int .i64 bg) ∧ wc.cell? ⟨R, 4, none⟩ = some (.int .i64 ln) ∧ wc.cell? ⟨R, 5, none⟩ = some (.int .i64 by_) ∧ wc.cell? ⟨R, 6, none⟩ = some (.int .i64 ld) ∧ wc.cell? ⟨b, off + (k - 1) * 7, none⟩ = some (.int .i64 p.no) ∧ wc.cell? ⟨b, off + (k - 1) * 7 + 1, none⟩ = some (.int .i64 p.fr) ∧ wc.cell? ⟨b, off + (k - 1) * 7 + 2, none⟩ = some (.int .i64 p.te) ∧ wc.cell? ⟨b, off + (k - 1) * 7 + 3, none⟩ = some (.int .i64 p.bg) ∧ wc.cell? ⟨b, off + (k - 1) * 7 + 4, none⟩ = some (.int .i64 p.ln) ∧ wc.cell? ⟨b, off + (k - 1) * 7 + 5, none⟩ = some (.int .i64 p.by_) ∧ wc.cell? ⟨b, off + (k - 1) * 7 + 6, none⟩ = some (.int .i64 p.ld) ∧ Below w.heap.size w wc ∧ R < wc.heap.size := ⟨e0, e1, e2, e3, e4, e5, e6, q0, q1, q2, q3, q4, q5, q6, hWb, hWs⟩
            clear hk0 hp hbp
            go_upto_region 7 with fail
            refine wp_region_noPanic ?_
            refine wp_region_held_drew (S := fun w' => w'.cell? ⟨R, 0, none⟩ = some (.int .i64 no) ∧ w'.cell? ⟨R, 1, none⟩ = some (.int .i64 fr) ∧ w'.cell? ⟨R, 2, none⟩ = some (.int .i64 te) ∧ w'.cell? ⟨R, 3, none⟩ = some (.int .i64 bg) ∧ w'.cell? ⟨R, 4, none⟩ = some (.int .i64 ln) ∧ w'.cell? ⟨R, 5, none⟩ = some (.int .i64 by_) ∧ w'.cell? ⟨R, 6, none⟩ = some (.int .i64 ld) ∧ w'.cell? ⟨b, off + (k - 1) * 7, none⟩ = some (.int .i64 p.no) ∧ w'.cell? ⟨b, off + (k - 1) * 7 + 1, none⟩ = some (.int .i64 p.fr) ∧ w'.cell? ⟨b, off + (k - 1) * 7 + 2, none⟩ = some (.int .i64 p.te) ∧ w'.cell? ⟨b, off + (k - 1) * 7 + 3, none⟩ = some (.int .i64 p.bg) ∧ w'.cell? ⟨b, off + (k - 1) * 7 + 4, none⟩ = some (.int .i64 p.ln) ∧ w'.cell? ⟨b, off + (k - 1) * 7 + 5, none⟩ = some (.int .i64 p.by_) ∧ w'.cell? ⟨b, off + (k - 1) * 7 + 6, none⟩ = some (.int .i64 p.ld) ∧ Below w.heap.size w w' ∧ R < w'.heap.size) (by kernel_rfl) ?hS0 (fun hHeld => ?_)
            case hS0 => exact carry14 hlt hS (Below.refl _ _).drew
            have hS : wc.drew.cell? ⟨R, 0, none⟩ = some (.int .i64 no) ∧ wc.drew.cell? ⟨R, 1, none⟩ = some (.int .i64 fr) ∧ wc.drew.cell? ⟨R, 2, none⟩ = some (.int .i64 te) ∧ wc.drew.cell? ⟨R, 3, none⟩ = some (.int .i64 bg) ∧ wc.drew.cell? ⟨R, 4, none⟩ = some (.int .i64 ln) ∧ wc.drew.cell? ⟨R, 5, none⟩ = some (.int .i64 by_) ∧ wc.drew.cell? ⟨R, 6, none⟩ = some (.int .i64 ld) ∧ wc.drew.cell? ⟨b, off + (k - 1) * 7, none⟩ = some (.int .i64 p.no) ∧ wc.drew.cell? ⟨b, off + (k - 1) * 7 + 1, none⟩ = some (.int .i64 p.fr) ∧ wc.drew.cell? ⟨b, off + (k - 1) * 7 + 2, none⟩ = some (.int .i64 p.te) ∧ wc.drew.cell? ⟨b, off + (k - 1) * 7 + 3, none⟩ = some (.int .i64 p.bg) ∧ wc.drew.cell? ⟨b, off + (k - 1) * 7 + 4, none⟩ = some (.int .i64 p.ln) ∧ wc.drew.cell? ⟨b, off + (k - 1) * 7 + 5, none⟩ = some (.int .i64 p.by_) ∧ wc.drew.cell? ⟨b, off + (k - 1) * 7 + 6, none⟩ = some (.int .i64 p.ld) ∧ Below w.heap.size w wc.drew ∧ R < wc.drew.heap.size := carry14 hlt hS (Below.refl _ _).drew
            generalize wc.drew = wd at *
            refine wpAnyH_take (i := 0) (v := ?_) rfl (by kernel_rfl) (by kernel_rfl) (by kernel_rfl) (fun _ _ _ h => h) (Or.inl ⟨by kernel_rfl, ?hy⟩) (by assumption) ?_
            case hy => (intro w hSw; (try dsimp only at hSw); go_simp; try (with_reducible rfl))
            try simp only [Act.put, List.setIfInBounds_toArray, List.set_cons_zero, List.set_cons_succ]
            refine wpAnyH_take (i := 1) (v := ?_) rfl (by kernel_rfl) (by kernel_rfl) (by kernel_rfl) (fun _ _ _ h => h) (Or.inl ⟨by kernel_rfl, ?hy⟩) (by assumption) ?_
            case hy => (intro w hSw; (try dsimp only at hSw); go_simp; try (with_reducible rfl))
            try simp only [Act.put, List.setIfInBounds_toArray, List.set_cons_zero, List.set_cons_succ]
            refine wpAnyH_take (i := 2) (v := ?_) rfl (by kernel_rfl) (by kernel_rfl) (by kernel_rfl) (fun _ _ _ h => h) (Or.inl ⟨by kernel_rfl, ?hy⟩) (by assumption) ?_
            case hy => (intro w hSw; (try dsimp only at hSw); go_simp; try (with_reducible rfl))
            try simp only [Act.put, List.setIfInBounds_toArray, List.set_cons_zero, List.set_cons_succ]
            refine wpAnyH_take (i := 3) (v := undef) rfl (by kernel_rfl) (by kernel_rfl) (by kernel_rfl) (fun _ _ _ h => h) (Or.inr ⟨by kernel_rfl, rfl⟩) (by assumption) ?_
            try simp only [Act.put, List.setIfInBounds_toArray, List.set_cons_zero, List.set_cons_succ]
            refine wpAnyH_take (i := 4) (v := undef) rfl (by kernel_rfl) (by kernel_rfl) (by kernel_rfl) (fun _ _ _ h => h) (Or.inr ⟨by kernel_rfl, rfl⟩) (by assumption) ?_
            try simp only [Act.put, List.setIfInBounds_toArray, List.set_cons_zero, List.set_cons_succ]
            refine wpAnyH_take (i := 5) (v := undef) rfl (by kernel_rfl) (by kernel_rfl) (by kernel_rfl) (fun _ _ _ h => h) (Or.inr ⟨by kernel_rfl, rfl⟩) (by assumption) ?_
            try simp only [Act.put, List.setIfInBounds_toArray, List.set_cons_zero, List.set_cons_succ]
            refine wpAnyH_take (i := 6) (v := undef) rfl (by kernel_rfl) (by kernel_rfl) (by kernel_rfl) (fun _ _ _ h => h) (Or.inr ⟨by kernel_rfl, rfl⟩) (by assumption) ?_
            try simp only [Act.put, List.setIfInBounds_toArray, List.set_cons_zero, List.set_cons_succ]
            refine wpAnyH_take (i := 7) (v := ?_) rfl (by kernel_rfl) (by kernel_rfl) (by kernel_rfl) (fun _ _ _ h => h) (Or.inl ⟨by kernel_rfl, ?hy⟩) (by assumption) ?_
            case hy => (intro w hSw; (try dsimp only at hSw); go_simp; try (with_reducible rfl))
            try simp only [Act.put, List.setIfInBounds_toArray, List.set_cons_zero, List.set_cons_succ]
            refine wpAnyH_take (i := 9) (v := ?_) rfl (by kernel_rfl) (by kernel_rfl) (by kernel_rfl) (fun _ _ _ h => h) (Or.inl ⟨by kernel_rfl, ?hy⟩) (by assumption) ?_
            case hy => (intro w hSw; (try dsimp only at hSw); go_simp; try (with_reducible rfl))
            try simp only [Act.put, List.setIfInBounds_toArray, List.set_cons_zero, List.set_cons_succ]
            refine wpAnyH_take (i := 10) (v := ?_) rfl (by kernel_rfl) (by kernel_rfl) (by kernel_rfl) (fun _ _ _ h => h) (Or.inl ⟨by kernel_rfl, ?hy⟩) (by assumption) ?_
            case hy => (intro w hSw; (try dsimp only at hSw); go_simp; try (with_reducible rfl))
            try simp only [Act.put, List.setIfInBounds_toArray, List.set_cons_zero, List.set_cons_succ]
            refine wpAnyH_take (i := 23) (v := ?_) rfl (by kernel_rfl) (by kernel_rfl) (by kernel_rfl) (fun _ _ _ h => h) (Or.inl ⟨by kernel_rfl, ?hy⟩) (by assumption) ?_
            case hy => (intro w hSw; (try dsimp only at hSw); go_simp; try (with_reducible rfl))
            try simp only [Act.put, List.setIfInBounds_toArray, List.set_cons_zero, List.set_cons_succ]
            refine wpAnyH_take (i := 24) (v := ?_) rfl (by kernel_rfl) (by kernel_rfl) (by kernel_rfl) (fun _ _ _ h => h) (Or.inl ⟨by kernel_rfl, ?hy⟩) (by assumption) ?_
            case hy => (intro w hSw; (try dsimp only at hSw); go_simp; try (with_reducible rfl))
            try simp only [Act.put, List.setIfInBounds_toArray, List.set_cons_zero, List.set_cons_succ]
            refine wpAnyH_take (i := 25) (v := ?_) rfl (by kernel_rfl) (by kernel_rfl) (by kernel_rfl) (fun _ _ _ h => h) (Or.inl ⟨by kernel_rfl, ?hy⟩) (by assumption) ?_
            case hy => (intro w hSw; (try dsimp only at hSw); go_simp; try (with_reducible rfl))
            try simp only [Act.put, List.setIfInBounds_toArray, List.set_cons_zero, List.set_cons_succ]
            refine wpAnyH_ready (rs := [8]) (by kernel_rfl) (by simp) ?_
            refine AllReadyH.cons rfl (fun K hK => ?_) AllReadyH.nil
            go_simp
            refine (bfaultIf_any _ _ _).mono ?_; rintro e w' ⟨rfl, rfl⟩
            refine hK.out _ _ hS (fun hHeld => ?_)
            clear hK K
            try simp only [Act.put, List.setIfInBounds_toArray, List.set_cons_zero, List.set_cons_succ]
            refine wpAnyH_take (i := 11) (v := ?_) rfl (by kernel_rfl) (by kernel_rfl) (by kernel_rfl) (fun _ _ _ h => h) (Or.inl ⟨by kernel_rfl, ?hy⟩) (by assumption) ?_
            case hy => (intro w hSw; (try dsimp only at hSw); go_simp; try (with_reducible rfl))
            try simp only [Act.put, List.setIfInBounds_toArray, List.set_cons_zero, List.set_cons_succ]
            refine wpAnyH_take (i := 12) (v := ?_) rfl (by kernel_rfl) (by kernel_rfl) (by kernel_rfl) (fun _ _ _ h => h) (Or.inl ⟨by kernel_rfl, ?hy⟩) (by assumption) ?_
            case hy => (intro w hSw; (try dsimp only at hSw); go_simp; try (with_reducible rfl))
            try simp only [Act.put, List.setIfInBounds_toArray, List.set_cons_zero, List.set_cons_succ]
            refine wpAnyH_take (i := 14) (v := ?_) rfl (by kernel_rfl) (by kernel_rfl) (by kernel_rfl) (fun _ _ _ h => h) (Or.inl ⟨by kernel_rfl, ?hy⟩) (by assumption) ?_
            case hy => (intro w hSw; (try dsimp only at hSw); go_simp; try (with_reducible rfl))
            try simp only [Act.put, List.setIfInBounds_toArray, List.set_cons_zero, List.set_cons_succ]
            refine wpAnyH_take (i := 15) (v := ?_) rfl (by kernel_rfl) (by kernel_rfl) (by kernel_rfl) (fun _ _ _ h => h) (Or.inl ⟨by kernel_rfl, ?hy⟩) (by assumption) ?_
            case hy => (intro w hSw; (try dsimp only at hSw); go_simp; try (with_reducible rfl))
            try simp only [Act.put, List.setIfInBounds_toArray, List.set_cons_zero, List.set_cons_succ]
            refine wpAnyH_take (i := 16) (v := ?_) rfl (by kernel_rfl) (by kernel_rfl) (by kernel_rfl) (fun _ _ _ h => h) (Or.inl ⟨by kernel_rfl, ?hy⟩) (by assumption) ?_
            case hy => (intro w hSw; (try dsimp only at hSw); go_simp; try (with_reducible rfl))
            try simp only [Act.put, List.setIfInBounds_toArray, List.set_cons_zero, List.set_cons_succ]
            refine wpAnyH_take (i := 17) (v := ?_) rfl (by kernel_rfl) (by kernel_rfl) (by kernel_rfl) (fun _ _ _ h => h) (Or.inl ⟨by kernel_rfl, ?hy⟩) (by assumption) ?_
            case hy => (intro w hSw; (try dsimp only at hSw); go_simp; try (with_reducible rfl))
            try simp only [Act.put, List.setIfInBounds_toArray, List.set_cons_zero, List.set_cons_succ]
            refine wpAnyH_take (i := 18) (v := ?_) rfl (by kernel_rfl) (by kernel_rfl) (by kernel_rfl) (fun _ _ _ h => h) (Or.inl ⟨by kernel_rfl, ?hy⟩) (by assumption) ?_
            case hy => (intro w hSw; (try dsimp only at hSw); go_simp; try (with_reducible rfl))
            try simp only [Act.put, List.setIfInBounds_toArray, List.set_cons_zero, List.set_cons_succ]
            refine wpAnyH_ready (rs := [13]) (by kernel_rfl) (by simp) ?_
            refine AllReadyH.cons rfl (fun K hK => ?_) AllReadyH.nil
            go_simp
            refine (HBS.out _).mono ?_; rintro e w3 ⟨rfl, b3⟩; have hS := carry14 hlt hS b3
            refine hK.out _ _ hS (fun hHeld => ?_)
            clear hK K
            try simp only [Act.put, List.setIfInBounds_toArray, List.set_cons_zero, List.set_cons_succ]
            refine wpAnyH_ready (rs := [19]) (by kernel_rfl) (by simp) ?_
            refine AllReadyH.cons rfl (fun K hK => ?_) AllReadyH.nil
            go_simp
            refine (HBP.out _).mono ?_; rintro e w3 ⟨rfl, b3⟩; have hS := carry14 hlt hS b3
            refine hK.out _ _ hS (fun hHeld => ?_)
            clear hK K
            try simp only [Act.put, List.setIfInBounds_toArray, List.set_cons_zero, List.set_cons_succ]
            refine wpAnyH_take (i := 20) (v := ?_) rfl (by kernel_rfl) (by kernel_rfl) (by kernel_rfl) (fun _ _ _ h => h) (Or.inl ⟨by kernel_rfl, ?hy⟩) (by assumption) ?_
            case hy => (intro w hSw; (try dsimp only at hSw); go_simp; try (with_reducible rfl))
            try simp only [Act.put, List.setIfInBounds_toArray, List.set_cons_zero, List.set_cons_succ]
            refine wpAnyH_take (i := 21) (v := ?_) rfl (by kernel_rfl) (by kernel_rfl) (by kernel_rfl) (fun _ _ _ h => h) (Or.inl ⟨by kernel_rfl, ?hy⟩) (by assumption) ?_
            case hy => (intro w hSw; (try dsimp only at hSw); go_simp; try (with_reducible rfl))
            try simp only [Act.put, List.setIfInBounds_toArray, List.set_cons_zero, List.set_cons_succ]
            refine wpAnyH_ready (rs := [22]) (by kernel_rfl) (by simp) ?_
            refine AllReadyH.cons rfl (fun K hK => ?_) AllReadyH.nil
            go_simp
            refine (bfaultIf_any _ _ _).mono ?_; rintro e w' ⟨rfl, rfl⟩
            refine hK.out _ _ hS (fun hHeld => ?_)
            clear hK K
            try simp only [Act.put, List.setIfInBounds_toArray, List.set_cons_zero, List.set_cons_succ]
            refine wpAnyH_ready (rs := [26]) (by kernel_rfl) (by simp) ?_
            refine AllReadyH.cons rfl (fun K hK => ?_) AllReadyH.nil
            go_simp
            refine (bfaultIf_any _ _ _).mono ?_; rintro e w' ⟨rfl, rfl⟩
            refine hK.out _ _ hS (fun hHeld => ?_)
            clear hK K
            try simp only [Act.put, List.setIfInBounds_toArray, List.set_cons_zero, List.set_cons_succ]
            refine wpAnyH_ready (rs := [27]) (by kernel_rfl) (by simp) ?_
            refine AllReadyH.cons rfl (fun K hK => ?_) AllReadyH.nil
            go_simp
            refine hK.out _ _ (carry14 hlt hS ((Below.refl _ _).alloc (Nat.le_refl _) _)) (fun hHeld => ?_)
            have hS := hHeld
            clear hK K
            try simp only [Act.put, List.setIfInBounds_toArray, List.set_cons_zero, List.set_cons_succ]
            refine wpAnyH_ready (rs := [28]) (by kernel_rfl) (by simp) ?_
            refine AllReadyH.cons rfl (fun K hK => ?_) AllReadyH.nil
            go_simp
            refine (bfirst3 _ _ _ _).mono ?_; rintro e w' ⟨rfl, rfl⟩
            refine hK.out _ _ hS (fun hHeld => ?_)
            clear hK K
            try simp only [Act.put, List.setIfInBounds_toArray, List.set_cons_zero, List.set_cons_succ]
            refine wpAnyH_take (i := 29) (v := ?_) rfl (by kernel_rfl) (by kernel_rfl) (by kernel_rfl) (fun _ _ _ h => h) (Or.inl ⟨by kernel_rfl, ?hy⟩) (by assumption) ?_
            case hy => (intro w hSw; (try dsimp only at hSw); go_simp; try (with_reducible rfl))
            try simp only [Act.put, List.setIfInBounds_toArray, List.set_cons_zero, List.set_cons_succ]
            refine wpAnyH_done (by kernel_rfl) ?_ _
            refine NoPanic.normal ?_
            all_goals
              rw [HSM.out]
              by_cases h0 : f = 0
              · have HN := Lib.hid (HD.out.2 h0)
                subst h0
                go_wp2_with fail
                go_roundw
                case rel => exact ⟨k + 1, by omega, by go_num, by have hh := hS; first | exact hh.2.2.2.2.2.2.2.2.2.2.2.2.2.2.1 | exact hHeld.2.2.2.2.2.2.2.2.2.2.2.2.2.2.1, HN⟩
                case measure => simp [intOf]; omega
              · have hne : (f == 0) = false := by simp [h0]
                have HN := Lib.hid (HR.out.trans (HD.out.1 h0))
                clear h0
                go_wp2_with fail
                go_ret
                exact ⟨bret_int HN.out.symm, by have hh := hS; first | exact hh.2.2.2.2.2.2.2.2.2.2.2.2.2.2.1 | exact hHeld.2.2.2.2.2.2.2.2.2.2.2.2.2.2.1⟩
        · obtain rfl : T = true := by simpa using hTT
          clear hTT
          by_cases hk0 : k < 1
          · have hgd : decide (0 < k) = false := by simp; omega
            have HSM := Lib.hid ((timE_good HSG.out HT.out false (decide (ln < 0)) (by rw [hgd]; rfl) rfl).trans HFF.out)
            rw [HEE.out] at HSM
            have hS : wc.cell? ⟨R, 0, none⟩ = some (.int .i64 no) ∧ wc.cell? ⟨R, 1, none⟩ = some (.int .i64 fr) ∧ wc.cell? ⟨R, 2, none⟩ = some (.int .i64 te) ∧ wc.cell? ⟨R, 3, none⟩ = some (.int .i64 bg) ∧ wc.cell? ⟨R, 4, none⟩ = some (.int .i64 ln) ∧ wc.cell? ⟨R, 5, none⟩ = some (.int .i64 by_) ∧ wc.cell? ⟨R, 6, none⟩ = some (.int .i64 ld) ∧ Below w.heap.size w wc ∧ R < wc.heap.size := ⟨e0, e1, e2, e3, e4, e5, e6, hWb, hWs⟩
            clear hk0
            go_upto_region 7 with fail
            refine wp_region_noPanic ?_
            refine wp_region_held_drew (S := fun w' => w'.cell? ⟨R, 0, none⟩ = some (.int .i64 no) ∧ w'.cell? ⟨R, 1, none⟩ = some (.int .i64 fr) ∧ w'.cell? ⟨R, 2, none⟩ = some (.int .i64 te) ∧ w'.cell? ⟨R, 3, none⟩ = some (.int .i64 bg) ∧ w'.cell? ⟨R, 4, none⟩ = some (.int .i64 ln) ∧ w'.cell? ⟨R, 5, none⟩ = some (.int .i64 by_) ∧ w'.cell? ⟨R, 6, none⟩ = some (.int .i64 ld) ∧ Below w.heap.size w w' ∧ R < w'.heap.size) (by kernel_rfl) ?hS0 (fun hHeld => ?_)
            case hS0 => exact carry7 hS (Below.refl _ _).drew
            have hS : wc.drew.cell? ⟨R, 0, none⟩ = some (.int .i64 no) ∧ wc.drew.cell? ⟨R, 1, none⟩ = some (.int .i64 fr) ∧ wc.drew.cell? ⟨R, 2, none⟩ = some (.int .i64 te) ∧ wc.drew.cell? ⟨R, 3, none⟩ = some (.int .i64 bg) ∧ wc.drew.cell? ⟨R, 4, none⟩ = some (.int .i64 ln) ∧ wc.drew.cell? ⟨R, 5, none⟩ = some (.int .i64 by_) ∧ wc.drew.cell? ⟨R, 6, none⟩ = some (.int .i64 ld) ∧ Below w.heap.size w wc.drew ∧ R < wc.drew.heap.size := carry7 hS (Below.refl _ _).drew
            generalize wc.drew = wd at *
            refine wpAnyH_take (i := 0) (v := ?_) rfl (by kernel_rfl) (by kernel_rfl) (by kernel_rfl) (fun _ _ _ h => h) (Or.inl ⟨by kernel_rfl, ?hy⟩) (by assumption) ?_
            case hy => (intro w hSw; (try dsimp only at hSw); go_simp; try (with_reducible rfl))
            try simp only [Act.put, List.setIfInBounds_toArray, List.set_cons_zero, List.set_cons_succ]
            refine wpAnyH_take (i := 1) (v := ?_) rfl (by kernel_rfl) (by kernel_rfl) (by kernel_rfl) (fun _ _ _ h => h) (Or.inl ⟨by kernel_rfl, ?hy⟩) (by assumption) ?_
            case hy => (intro w hSw; (try dsimp only at hSw); go_simp; try (with_reducible rfl))
            try simp only [Act.put, List.setIfInBounds_toArray, List.set_cons_zero, List.set_cons_succ]
            refine wpAnyH_take (i := 2) (v := ?_) rfl (by kernel_rfl) (by kernel_rfl) (by kernel_rfl) (fun _ _ _ h => h) (Or.inl ⟨by kernel_rfl, ?hy⟩) (by assumption) ?_
            case hy => (intro w hSw; (try dsimp only at hSw); go_simp; try (with_reducible rfl))
            try simp only [Act.put, List.setIfInBounds_toArray, List.set_cons_zero, List.set_cons_succ]
            refine wpAnyH_take (i := 3) (v := ?_) rfl (by kernel_rfl) (by kernel_rfl) (by kernel_rfl) (fun _ _ _ h => h) (Or.inl ⟨by kernel_rfl, ?hy⟩) (by assumption) ?_
            case hy => (intro w hSw; (try dsimp only at hSw); go_simp; try (with_reducible rfl))
            try simp only [Act.put, List.setIfInBounds_toArray, List.set_cons_zero, List.set_cons_succ]
            refine wpAnyH_take (i := 9) (v := ?_) rfl (by kernel_rfl) (by kernel_rfl) (by kernel_rfl) (fun _ _ _ h => h) (Or.inl ⟨by kernel_rfl, ?hy⟩) (by assumption) ?_
            case hy => (intro w hSw; (try dsimp only at hSw); go_simp; try (with_reducible rfl))
            try simp only [Act.put, List.setIfInBounds_toArray, List.set_cons_zero, List.set_cons_succ]
            refine wpAnyH_take (i := 10) (v := ?_) rfl (by kernel_rfl) (by kernel_rfl) (by kernel_rfl) (fun _ _ _ h => h) (Or.inl ⟨by kernel_rfl, ?hy⟩) (by assumption) ?_
            case hy => (intro w hSw; (try dsimp only at hSw); go_simp; try (with_reducible rfl))
            try simp only [Act.put, List.setIfInBounds_toArray, List.set_cons_zero, List.set_cons_succ]
            refine wpAnyH_take (i := 23) (v := ?_) rfl (by kernel_rfl) (by kernel_rfl) (by kernel_rfl) (fun _ _ _ h => h) (Or.inl ⟨by kernel_rfl, ?hy⟩) (by assumption) ?_
            case hy => (intro w hSw; (try dsimp only at hSw); go_simp; try (with_reducible rfl))
            try simp only [Act.put, List.setIfInBounds_toArray, List.set_cons_zero, List.set_cons_succ]
            refine wpAnyH_take (i := 24) (v := ?_) rfl (by kernel_rfl) (by kernel_rfl) (by kernel_rfl) (fun _ _ _ h => h) (Or.inl ⟨by kernel_rfl, ?hy⟩) (by assumption) ?_
            case hy => (intro w hSw; (try dsimp only at hSw); go_simp; try (with_reducible rfl))
            try simp only [Act.put, List.setIfInBounds_toArray, List.set_cons_zero, List.set_cons_succ]
            refine wpAnyH_take (i := 25) (v := ?_) rfl (by kernel_rfl) (by kernel_rfl) (by kernel_rfl) (fun _ _ _ h => h) (Or.inl ⟨by kernel_rfl, ?hy⟩) (by assumption) ?_
            case hy => (intro w hSw; (try dsimp only at hSw); go_simp; try (with_reducible rfl))
            try simp only [Act.put, List.setIfInBounds_toArray, List.set_cons_zero, List.set_cons_succ]
            refine wpAnyH_ready (rs := [4]) (by kernel_rfl) (by simp) ?_
            refine AllReadyH.cons rfl (fun K hK => ?_) AllReadyH.nil
            go_simp
            refine (HEN.out _).mono ?_; rintro e w3 ⟨rfl, b3⟩; have hS := carry7 hS b3
            refine hK.out _ _ hS (fun hHeld => ?_)
            clear hK K
            try simp only [Act.put, List.setIfInBounds_toArray, List.set_cons_zero, List.set_cons_succ]
            refine wpAnyH_ready (rs := [5]) (by kernel_rfl) (by simp) ?_
            refine AllReadyH.cons rfl (fun K hK => ?_) AllReadyH.nil
            go_simp
            refine (btime_any _ _).mono ?_; rintro e w' ⟨rfl, rfl⟩
            refine hK.out _ _ hS (fun hHeld => ?_)
            clear hK K
            try simp only [Act.put, List.setIfInBounds_toArray, List.set_cons_zero, List.set_cons_succ]
            refine wpAnyH_take (i := 6) (v := ?_) rfl (by kernel_rfl) (by kernel_rfl) (by kernel_rfl) (fun _ _ _ h => h) (Or.inl ⟨by kernel_rfl, ?hy⟩) (by assumption) ?_
            case hy => (intro w hSw; (try dsimp only at hSw); go_simp; try (with_reducible rfl))
            try simp only [Act.put, List.setIfInBounds_toArray, List.set_cons_zero, List.set_cons_succ]
            refine wpAnyH_take (i := 7) (v := ?_) rfl (by kernel_rfl) (by kernel_rfl) (by kernel_rfl) (fun _ _ _ h => h) (Or.inl ⟨by kernel_rfl, ?hy⟩) (by assumption) ?_
            case hy => (intro w hSw; (try dsimp only at hSw); go_simp; try (with_reducible rfl))
            try simp only [Act.put, List.setIfInBounds_toArray, List.set_cons_zero, List.set_cons_succ]
            refine wpAnyH_ready (rs := [8]) (by kernel_rfl) (by simp) ?_
            refine AllReadyH.cons rfl (fun K hK => ?_) AllReadyH.nil
            go_simp
            refine (bfaultIf_any _ _ _).mono ?_; rintro e w' ⟨rfl, rfl⟩
            refine hK.out _ _ hS (fun hHeld => ?_)
            clear hK K
            try simp only [Act.put, List.setIfInBounds_toArray, List.set_cons_zero, List.set_cons_succ]
            refine wpAnyH_take (i := 11) (v := ?_) rfl (by kernel_rfl) (by kernel_rfl) (by kernel_rfl) (fun _ _ _ h => h) (Or.inl ⟨by kernel_rfl, ?hy⟩) (by assumption) ?_
            case hy => (intro w hSw; (try dsimp only at hSw); go_simp; try (with_reducible rfl))
            try simp only [Act.put, List.setIfInBounds_toArray, List.set_cons_zero, List.set_cons_succ]
            refine wpAnyH_take (i := 12) (v := undef) rfl (by kernel_rfl) (by kernel_rfl) (by kernel_rfl) (fun _ _ _ h => h) (Or.inr ⟨by kernel_rfl, rfl⟩) (by assumption) ?_
            try simp only [Act.put, List.setIfInBounds_toArray, List.set_cons_zero, List.set_cons_succ]
            refine wpAnyH_take (i := 13) (v := undef) rfl (by kernel_rfl) (by kernel_rfl) (by kernel_rfl) (fun _ _ _ h => h) (Or.inr ⟨by kernel_rfl, rfl⟩) (by assumption) ?_
            try simp only [Act.put, List.setIfInBounds_toArray, List.set_cons_zero, List.set_cons_succ]
            refine wpAnyH_take (i := 14) (v := undef) rfl (by kernel_rfl) (by kernel_rfl) (by kernel_rfl) (fun _ _ _ h => h) (Or.inr ⟨by kernel_rfl, rfl⟩) (by assumption) ?_
            try simp only [Act.put, List.setIfInBounds_toArray, List.set_cons_zero, List.set_cons_succ]
            refine wpAnyH_take (i := 15) (v := undef) rfl (by kernel_rfl) (by kernel_rfl) (by kernel_rfl) (fun _ _ _ h => h) (Or.inr ⟨by kernel_rfl, rfl⟩) (by assumption) ?_
            try simp only [Act.put, List.setIfInBounds_toArray, List.set_cons_zero, List.set_cons_succ]
            refine wpAnyH_take (i := 16) (v := undef) rfl (by kernel_rfl) (by kernel_rfl) (by kernel_rfl) (fun _ _ _ h => h) (Or.inr ⟨by kernel_rfl, rfl⟩) (by assumption) ?_
            try simp only [Act.put, List.setIfInBounds_toArray, List.set_cons_zero, List.set_cons_succ]
            refine wpAnyH_take (i := 17) (v := undef) rfl (by kernel_rfl) (by kernel_rfl) (by kernel_rfl) (fun _ _ _ h => h) (Or.inr ⟨by kernel_rfl, rfl⟩) (by assumption) ?_
            try simp only [Act.put, List.setIfInBounds_toArray, List.set_cons_zero, List.set_cons_succ]
            refine wpAnyH_take (i := 18) (v := undef) rfl (by kernel_rfl) (by kernel_rfl) (by kernel_rfl) (fun _ _ _ h => h) (Or.inr ⟨by kernel_rfl, rfl⟩) (by assumption) ?_
            try simp only [Act.put, List.setIfInBounds_toArray, List.set_cons_zero, List.set_cons_succ]
            refine wpAnyH_take (i := 19) (v := undef) rfl (by kernel_rfl) (by kernel_rfl) (by kernel_rfl) (fun _ _ _ h => h) (Or.inr ⟨by kernel_rfl, rfl⟩) (by assumption) ?_
            try simp only [Act.put, List.setIfInBounds_toArray, List.set_cons_zero, List.set_cons_succ]
            refine wpAnyH_take (i := 20) (v := undef) rfl (by kernel_rfl) (by kernel_rfl) (by kernel_rfl) (fun _ _ _ h => h) (Or.inr ⟨by kernel_rfl, rfl⟩) (by assumption) ?_
            try simp only [Act.put, List.setIfInBounds_toArray, List.set_cons_zero, List.set_cons_succ]
            refine wpAnyH_take (i := 21) (v := ?_) rfl (by kernel_rfl) (by kernel_rfl) (by kernel_rfl) (fun _ _ _ h => h) (Or.inl ⟨by kernel_rfl, ?hy⟩) (by assumption) ?_
            case hy => (intro w hSw; (try dsimp only at hSw); go_simp; try (with_reducible rfl))
            try simp only [Act.put, List.setIfInBounds_toArray, List.set_cons_zero, List.set_cons_succ]
            refine wpAnyH_ready (rs := [22]) (by kernel_rfl) (by simp) ?_
            refine AllReadyH.cons rfl (fun K hK => ?_) AllReadyH.nil
            go_simp
            refine (bfaultIf_any _ _ _).mono ?_; rintro e w' ⟨rfl, rfl⟩
            refine hK.out _ _ hS (fun hHeld => ?_)
            clear hK K
            try simp only [Act.put, List.setIfInBounds_toArray, List.set_cons_zero, List.set_cons_succ]
            refine wpAnyH_ready (rs := [26]) (by kernel_rfl) (by simp) ?_
            refine AllReadyH.cons rfl (fun K hK => ?_) AllReadyH.nil
            go_simp
            refine (bfaultIf_any _ _ _).mono ?_; rintro e w' ⟨rfl, rfl⟩
            refine hK.out _ _ hS (fun hHeld => ?_)
            clear hK K
            try simp only [Act.put, List.setIfInBounds_toArray, List.set_cons_zero, List.set_cons_succ]
            refine wpAnyH_ready (rs := [27]) (by kernel_rfl) (by simp) ?_
            refine AllReadyH.cons rfl (fun K hK => ?_) AllReadyH.nil
            go_simp
            refine hK.out _ _ (carry7 hS ((Below.refl _ _).alloc (Nat.le_refl _) _)) (fun hHeld => ?_)
            have hS := hHeld
            clear hK K
            try simp only [Act.put, List.setIfInBounds_toArray, List.set_cons_zero, List.set_cons_succ]
            refine wpAnyH_ready (rs := [28]) (by kernel_rfl) (by simp) ?_
            refine AllReadyH.cons rfl (fun K hK => ?_) AllReadyH.nil
            go_simp
            refine (bfirst3 _ _ _ _).mono ?_; rintro e w' ⟨rfl, rfl⟩
            refine hK.out _ _ hS (fun hHeld => ?_)
            clear hK K
            try simp only [Act.put, List.setIfInBounds_toArray, List.set_cons_zero, List.set_cons_succ]
            refine wpAnyH_take (i := 29) (v := ?_) rfl (by kernel_rfl) (by kernel_rfl) (by kernel_rfl) (fun _ _ _ h => h) (Or.inl ⟨by kernel_rfl, ?hy⟩) (by assumption) ?_
            case hy => (intro w hSw; (try dsimp only at hSw); go_simp; try (with_reducible rfl))
            try simp only [Act.put, List.setIfInBounds_toArray, List.set_cons_zero, List.set_cons_succ]
            refine wpAnyH_done (by kernel_rfl) ?_ _
            refine NoPanic.normal ?_
            all_goals
              rw [HSM.out]
              by_cases h0 : f = 0
              · have HN := Lib.hid (HD.out.2 h0)
                subst h0
                go_wp2_with fail
                go_roundw
                case rel => exact ⟨k + 1, by omega, by go_num, by have hh := hS; first | exact hh.2.2.2.2.2.2.2.1 | exact hHeld.2.2.2.2.2.2.2.1, HN⟩
                case measure => simp [intOf]; omega
              · have hne : (f == 0) = false := by simp [h0]
                have HN := Lib.hid (HR.out.trans (HD.out.1 h0))
                clear h0
                go_wp2_with fail
                go_ret
                exact ⟨bret_int HN.out.symm, by have hh := hS; first | exact hh.2.2.2.2.2.2.2.1 | exact hHeld.2.2.2.2.2.2.2.1⟩
          · have hgd : decide (0 < k) = true := by simp; omega
            obtain ⟨p, hp⟩ : ∃ p, ls.getD (k - 1) seg0 = p := ⟨_, rfl⟩
            obtain ⟨q0, q1, q2, q3, q4, q5, q6⟩ := HC.out (k - 1) (by omega)
            rw [hp] at q0 q1 q2 q3 q4 q5 q6
            rw [← hWb.cell (p := ⟨b, off + (k - 1) * 7, none⟩) hlt] at q0
            rw [← hWb.cell (p := ⟨b, off + (k - 1) * 7 + 1, none⟩) hlt] at q1
            rw [← hWb.cell (p := ⟨b, off + (k - 1) * 7 + 2, none⟩) hlt] at q2
            rw [← hWb.cell (p := ⟨b, off + (k - 1) * 7 + 3, none⟩) hlt] at q3
            rw [← hWb.cell (p := ⟨b, off + (k - 1) * 7 + 4, none⟩) hlt] at q4
            rw [← hWb.cell (p := ⟨b, off + (k - 1) * 7 + 5, none⟩) hlt] at q5
            rw [← hWb.cell (p := ⟨b, off + (k - 1) * 7 + 6, none⟩) hlt] at q6
            obtain ⟨bp, hbp⟩ : ∃ bp, bndV p = bp := ⟨_, rfl⟩
            have HBP := Lib.hid (bound_any p)
            rw [hbp] at HBP
            have HSM := Lib.hid ((timE_good HSG.out HT.out (decide (bs < bp)) (decide (ln < 0)) (by rw [hgd, hp, hbp, HBB.out, Bool.true_and]) rfl).trans HFF.out)
            rw [HEE.out] at HSM
            have hgd2 : (0 : Int) < (k : Int) := by omega
            have i0 : (0 : Int) ≤ (k : Int) - 1 := by omega
            have i1 : (k : Int) - 1 < (n : Int) := by omega
            have i2 : ((k : Int) - 1).toNat = k - 1 := by omega
            have i3 : (1 : Int) ≤ (k : Int) := by omega
            have i4 : IntKind.i64.wrap ((k : Int) - 1) = (k : Int) - 1 := IntWalk.i64_in _ ⟨by omega, by omega⟩
            have hS : wc.cell? ⟨R, 0, none⟩ = some (.int .i64 no) ∧ wc.cell? ⟨R, 1, none⟩ = some (.int .i64 fr) ∧ wc.cell? ⟨R, 2, none⟩ = some (.int .i64 te) ∧ wc.cell? ⟨R, 3, none⟩ = some (.int .i64 bg) ∧ wc.cell? ⟨R, 4, none⟩ = some (.int .i64 ln) ∧ wc.cell? ⟨R, 5, none⟩ = some (.int .i64 by_) ∧ wc.cell? ⟨R, 6, none⟩ = some (.int .i64 ld) ∧ wc.cell? ⟨b, off + (k - 1) * 7, none⟩ = some (.int .i64 p.no) ∧ wc.cell? ⟨b, off + (k - 1) * 7 + 1, none⟩ = some (.int .i64 p.fr) ∧ wc.cell? ⟨b, off + (k - 1) * 7 + 2, none⟩ = some (.int .i64 p.te) ∧ wc.cell? ⟨b, off + (k - 1) * 7 + 3, none⟩ = some (.int .i64 p.bg) ∧ wc.cell? ⟨b, off + (k - 1) * 7 + 4, none⟩ = some (.int .i64 p.ln) ∧ wc.cell? ⟨b, off + (k - 1) * 7 + 5, none⟩ = some (.int .i64 p.by_) ∧ wc.cell? ⟨b, off + (k - 1) * 7 + 6, none⟩ = some (.int .i64 p.ld) ∧ Below w.heap.size w wc ∧ R < wc.heap.size := ⟨e0, e1, e2, e3, e4, e5, e6, q0, q1, q2, q3, q4, q5, q6, hWb, hWs⟩
            clear hk0 hp hbp
            go_upto_region 7 with fail
            first
            | go_region_held3 (fun w' => w'.cell? ⟨R, 0, none⟩ = some (.int .i64 no) ∧ w'.cell? ⟨R, 1, none⟩ = some (.int .i64 fr) ∧ w'.cell? ⟨R, 2, none⟩ = some (.int .i64 te) ∧ w'.cell? ⟨R, 3, none⟩ = some (.int .i64 bg) ∧ w'.cell? ⟨R, 4, none⟩ = some (.int .i64 ln) ∧ w'.cell? ⟨R, 5, none⟩ = some (.int .i64 by_) ∧ w'.cell? ⟨R, 6, none⟩ = some (.int .i64 ld) ∧ w'.cell? ⟨b, off + (k - 1) * 7, none⟩ = some (.int .i64 p.no) ∧ w'.cell? ⟨b, off + (k - 1) * 7 + 1, none⟩ = some (.int .i64 p.fr) ∧ w'.cell? ⟨b, off + (k - 1) * 7 + 2, none⟩ = some (.int .i64 p.te) ∧ w'.cell? ⟨b, off + (k - 1) * 7 + 3, none⟩ = some (.int .i64 p.bg) ∧ w'.cell? ⟨b, off + (k - 1) * 7 + 4, none⟩ = some (.int .i64 p.ln) ∧ w'.cell? ⟨b, off + (k - 1) * 7 + 5, none⟩ = some (.int .i64 p.by_) ∧ w'.cell? ⟨b, off + (k - 1) * 7 + 6, none⟩ = some (.int .i64 p.ld) ∧ Below w.heap.size w w' ∧ R < w'.heap.size)
                (first | (go_keep; done) | (exact hS) | (exact carry14 hlt hS (Below.refl _ _).drew) | (exact carry14 hlt hS ((Below.refl _ _).alloc (Nat.le_refl _) _)))
                (first
                  | (go_at_call 37; refine (btime_any _ _).mono ?_; rintro e w' ⟨rfl, rfl⟩)
                  | (go_at_call 36; refine (bfaultIf_any _ _ _).mono ?_; rintro e w' ⟨rfl, rfl⟩)
                  | (go_at_call 47; refine (HEN.out _).mono ?_; rintro e w3 ⟨rfl, b3⟩; (first | (have hS := carry14 hlt hS b3) | (have hS := carry14 hlt (carry14 hlt hS (Below.refl _ _).drew) b3)))
                  | (go_at_call 39; (with_reducible refine (HBS.out _).mono ?_); rintro e w3 ⟨rfl, b3⟩; (first | (have hS := carry14 hlt hS b3) | (have hS := carry14 hlt (carry14 hlt hS (Below.refl _ _).drew) b3)))
                  | (go_at_call 39; (with_reducible refine (HBP.out _).mono ?_); rintro e w3 ⟨rfl, b3⟩; (first | (have hS := carry14 hlt hS b3) | (have hS := carry14 hlt (carry14 hlt hS (Below.refl _ _).drew) b3)))
                  | (go_at_call 34; refine (bfirst3 _ _ _ _).mono ?_; rintro e w' ⟨rfl, rfl⟩))
            | fail
            all_goals
              rw [HSM.out]
              by_cases h0 : f = 0
              · have HN := Lib.hid (HD.out.2 h0)
                subst h0
                go_wp2_with fail
                go_roundw
                case rel => exact ⟨k + 1, by omega, by go_num, by first | exact hS.2.2.2.2.2.2.2.2.2.2.2.2.2.2.1 | exact (hS.2.2.2.2.2.2.2.2.2.2.2.2.2.2.1).alloc (hS.2.2.2.2.2.2.2.2.2.2.2.2.2.2.1).size _, HN⟩
                case measure => simp [intOf]; omega
              · have hne : (f == 0) = false := by simp [h0]
                have HN := Lib.hid (HR.out.trans (HD.out.1 h0))
                clear h0
                go_wp2_with fail
                go_ret
                exact ⟨bret_int HN.out.symm, by first | exact hS.2.2.2.2.2.2.2.2.2.2.2.2.2.2.1 | exact (hS.2.2.2.2.2.2.2.2.2.2.2.2.2.2.1).alloc (hS.2.2.2.2.2.2.2.2.2.2.2.2.2.2.1).size _⟩
    · have hkn : k = n := by omega
      have hlt' : decide (k < n) = false := by simp only [decide_eq_false_iff_not]; exact hlt2
      have HE : Hid (timF ls = 0) := Lib.hid (by rw [HR.out, ← HF.out, List.drop_of_length_le (by simp [HZ.out]; omega)]; rfl)
      clear hkn hlt2
      go_wp2_with fail
      go_ret
      exact ⟨bret_int HE.out.symm, hbel⟩
theorem tims_any (v : Value) (ls : List Seg) (w : World) (h : Segs w v ls) :
    Calls Try.prog 35 #[v] w fun e w' => e = .returned (.int .i64 (timF ls)) ∧ Below w.heap.size w w' := by
  obtain ⟨a, cap, rfl⟩ := h.parts
  have hmx := h.max.2
  by_cases h0 : ls.length = 0
  · have he : ls = [] := List.length_eq_zero_iff.1 h0
    subst he
    have HE : Hid (timF [] = 0) := Lib.hid rfl
    clear h0 h hmx
    go_enter Try.func35, Try.ntmps35
    go_wp2_with fail
    refine wp_loop_rounds 1 ?_
    rw [rounds_succ]
    go_wp2_with fail
    go_ret
    exact ⟨bret_int HE.out.symm, Below.refl _ _⟩
  · by_cases h5 : ls.length ≤ 1000
    · rcases h with ⟨a', c', hv, h1⟩ | ⟨b, off, cap', hv, hne, hlt, hl, hm, hc⟩
      · exact absurd h1 h0
      · simp only [Value.slice.injEq] at hv
        obtain ⟨rfl, -, rfl⟩ := hv
        exact tims_walk b off _ cap ls w rfl hne h5 hlt (.inr ⟨b, off, cap, rfl, hne, hlt, hl, hm, hc⟩)
    · obtain ⟨n, hn⟩ : ∃ n, ls.length = n := ⟨_, rfl⟩
      have HE : Hid (timF ls = 2) := Lib.hid (by unfold timF; rw [if_pos (by omega)])
      rw [hn] at h0 h5 hmx ⊢
      have z1 : (1000 : Int) < (n : Int) := by omega
      clear hn h
      go_enter Try.func35, Try.ntmps35
      go_wp2_with fail
      go_ret
      exact ⟨bret_int HE.out.symm, Below.refl _ _⟩

end Go.Proofs.Ytgbdmgmbdjajeaa
