/- cut.touched: the first and the last segment that meet a span. -/
import Derived.Test.YtgbdmgmbdjajeaaTimes4
namespace Go.Proofs.Ytgbdmgmbdjajeaa
set_option linter.unusedVariables false
set_option linter.unusedSimpArgs false
open Go.RowKit Go.Deep

theorem carry9 {w1 W' w3 : World} {R B : Nat} {no fr te bg ln by_ ld f t : Int} (hB : B < w1.heap.size) (h : W'.cell? ⟨R, 0, none⟩ = some (.int .i64 no) ∧ W'.cell? ⟨R, 1, none⟩ = some (.int .i64 fr) ∧ W'.cell? ⟨R, 2, none⟩ = some (.int .i64 te) ∧ W'.cell? ⟨R, 3, none⟩ = some (.int .i64 bg) ∧ W'.cell? ⟨R, 4, none⟩ = some (.int .i64 ln) ∧ W'.cell? ⟨R, 5, none⟩ = some (.int .i64 by_) ∧ W'.cell? ⟨R, 6, none⟩ = some (.int .i64 ld) ∧ W'.cell? ⟨B, 0, none⟩ = some (.int .i64 f) ∧ W'.cell? ⟨B, 1, none⟩ = some (.int .i64 t) ∧ Below w1.heap.size w1 W' ∧ R < W'.heap.size) (b3 : Below W'.heap.size W' w3) : w3.cell? ⟨R, 0, none⟩ = some (.int .i64 no) ∧ w3.cell? ⟨R, 1, none⟩ = some (.int .i64 fr) ∧ w3.cell? ⟨R, 2, none⟩ = some (.int .i64 te) ∧ w3.cell? ⟨R, 3, none⟩ = some (.int .i64 bg) ∧ w3.cell? ⟨R, 4, none⟩ = some (.int .i64 ln) ∧ w3.cell? ⟨R, 5, none⟩ = some (.int .i64 by_) ∧ w3.cell? ⟨R, 6, none⟩ = some (.int .i64 ld) ∧ w3.cell? ⟨B, 0, none⟩ = some (.int .i64 f) ∧ w3.cell? ⟨B, 1, none⟩ = some (.int .i64 t) ∧ Below w1.heap.size w1 w3 ∧ R < w3.heap.size := by
  obtain ⟨h0, h1, h2, h3, h4, h5, h6, q0, q1, hb, hs⟩ := h
  have hs2 : B < W'.heap.size := Nat.lt_of_lt_of_le hB hb.size
  exact ⟨(b3.cell (p := ⟨R, 0, none⟩) hs).trans h0, (b3.cell (p := ⟨R, 1, none⟩) hs).trans h1, (b3.cell (p := ⟨R, 2, none⟩) hs).trans h2, (b3.cell (p := ⟨R, 3, none⟩) hs).trans h3, (b3.cell (p := ⟨R, 4, none⟩) hs).trans h4, (b3.cell (p := ⟨R, 5, none⟩) hs).trans h5, (b3.cell (p := ⟨R, 6, none⟩) hs).trans h6, (b3.cell (p := ⟨B, 0, none⟩) hs2).trans q0, (b3.cell (p := ⟨B, 1, none⟩) hs2).trans q1, hb.trans (b3.mono hb.size), Nat.lt_of_lt_of_le hs b3.size⟩
theorem ret3_nnb {a b c d : Nat} {e f : Bool} (h : a = b) (h2 : c = d) (h3 : e = f) : Ending.returned (.tuple #[.int .i64 (a : Int), .int .i64 (c : Int), .bool e]) = .returned (.tuple #[.int .i64 (b : Int), .int .i64 (d : Int), .bool f]) := by rw [h, h2, h3]
set_option maxRecDepth 100000 in
set_option maxHeartbeats 4000000 in
theorem touched_walk (b off n cap : Nat) (ls : List Seg) (f t : Int) (w : World) (hz : ls.length = n) (hn0 : 0 < n) (hn : n ≤ 1000) (hlt : b < w.heap.size) (hS0 : Segs w (.slice (some ⟨b, off, none⟩) n cap) ls) :
    Calls Try.prog 38 #[.slice (some ⟨b, off, none⟩) n cap, .agg #[.int .i64 f, .int .i64 t]] w fun e w' => e = .returned (.tuple #[.int .i64 (tchTo ls f t n).1, .int .i64 (tchTo ls f t n).2.1, .bool (tchTo ls f t n).2.2]) ∧ Below w.heap.size w w' := by
  have HC := Lib.hid (fun j (hj : j < n) => hS0.cells j (by omega))
  have HZ := Lib.hid hz
  have hn9 : (n : Int) ≤ 1000 := by omega
  have b0 : Below w.heap.size w (w.alloc (.cells #[.int .i64 f, .int .i64 t] 33)) := (Below.refl _ _).alloc (Nat.le_refl _) _
  have s0 : (w.alloc (.cells #[.int .i64 f, .int .i64 t] 33)).cell? ⟨w.heap.size, 0, none⟩ = some (.int .i64 f) := by rw [World.cell?_alloc_at _ _ _ _ (by simp)]; rfl
  have s1 : (w.alloc (.cells #[.int .i64 f, .int .i64 t] 33)).cell? ⟨w.heap.size, 1, none⟩ = some (.int .i64 t) := by rw [World.cell?_alloc_at _ _ _ _ (by simp)]; rfl
  have hB0 : w.heap.size < (w.alloc (.cells #[.int .i64 f, .int .i64 t] 33)).heap.size := by simp
  clear hz hS0
  go_enter Try.func38, Try.ntmps38
  go_upto_region 1 with fail
  generalize w.alloc (.cells #[.int .i64 f, .int .i64 t] 33) = w1 at *
  obtain ⟨B, hBB⟩ : ∃ B, w.heap.size = B := ⟨_, rfl⟩
  have HB := Lib.hid hBB
  rw [hBB] at s0 s1 hB0
  have hltB : b < B := by omega
  simp only [hBB]
  clear hBB
  go_wp2_with fail
  go_loopw [4, 5, 6, 11] (fun v4 v5 v6 v wr => ∃ (k x y : Nat) (c : Bool), k ≤ n ∧ v = .int .i64 k ∧ v4 = .int .i64 x ∧ v5 = .int .i64 y ∧ v6 = .bool c ∧ Below w1.heap.size w1 wr ∧ Hid (tchTo ls f t k = (x, y, c))) (fun _ _ _ v _ => n - (intOf v).toNat)
  case atStart => exact ⟨0, 0, 0, false, Nat.zero_le _, rfl, rfl, rfl, rfl, Below.refl _ _, Lib.hid rfl⟩
  case round =>
    obtain ⟨k, x, y, c, hk, rfl, rfl, rfl, rfl, hbel, HF⟩ := hrel
    have hb1 : b < w1.heap.size := by omega
    by_cases hlt2 : k < n
    · obtain ⟨s, hs⟩ : ∃ s, ls.getD k seg0 = s := ⟨_, rfl⟩
      obtain ⟨d0, d1, d2, d3, d4, d5, d6⟩ := HC.out k hlt2
      rw [hs] at d0 d1 d2 d3 d4 d5 d6
      have hbw := b0.trans (hbel.mono b0.size)
      have HST : Hid (tchTo ls f t (k + 1) = if meets s f t then (if c = true then x else k, k, true) else (x, y, c)) := Lib.hid (by rw [tchTo, hs, HF.out])
      obtain ⟨bs, hbs⟩ : ∃ bs, bndV s = bs := ⟨_, rfl⟩
      obtain ⟨es, hes⟩ : ∃ es, endS s = es := ⟨_, rfl⟩
      have HBS0 := Lib.hid (bound_any s); have HEN0 := Lib.hid (end_any s)
      rw [hbs] at HBS0; rw [hes] at HEN0
      have HM : Hid (meets s f t ↔ max bs f < min es t) := Lib.hid (by unfold meets; rw [hbs, hes])
      have HCL := Lib.hid (seg_cells s wr)
      rw [← hbw.cell (p := ⟨b, off + k * 7, none⟩) hlt] at d0
      rw [← hbw.cell (p := ⟨b, off + k * 7 + 1, none⟩) hlt] at d1
      rw [← hbw.cell (p := ⟨b, off + k * 7 + 2, none⟩) hlt] at d2
      rw [← hbw.cell (p := ⟨b, off + k * 7 + 3, none⟩) hlt] at d3
      rw [← hbw.cell (p := ⟨b, off + k * 7 + 4, none⟩) hlt] at d4
      rw [← hbw.cell (p := ⟨b, off + k * 7 + 5, none⟩) hlt] at d5
      rw [← hbw.cell (p := ⟨b, off + k * 7 + 6, none⟩) hlt] at d6
      clear hs hbs hes
      obtain ⟨no, fr, te, bg, ln, by_, ld⟩ := s
      simp only at d0 d1 d2 d3 d4 d5 d6 HBS0 HEN0 HCL
      have HBS : Hid (∀ W', Calls Try.prog 39 #[.agg #[.int .i64 no, .int .i64 fr, .int .i64 te, .int .i64 bg, .int .i64 ln, .int .i64 by_, .int .i64 ld]] W' fun e w' => e = .returned (.int .i64 bs) ∧ Below W'.heap.size W' w') := HBS0
      have HEN : Hid (∀ W', Calls Try.prog 47 #[.agg #[.int .i64 no, .int .i64 fr, .int .i64 te, .int .i64 bg, .int .i64 ln, .int .i64 by_, .int .i64 ld]] W' fun e w' => e = .returned (.int .i64 es) ∧ Below W'.heap.size W' w') := HEN0
      clear HBS0 HEN0
      obtain ⟨e0, e1, e2, e3, e4, e5, e6⟩ := HCL.out
      clear HCL
      go_upto_region 4 with fail
      have hWb : Below w1.heap.size w1 (wr.alloc (.cells #[.int .i64 no, .int .i64 fr, .int .i64 te, .int .i64 bg, .int .i64 ln, .int .i64 by_, .int .i64 ld] 45)) := hbel.alloc hbel.size _
      have hWs : wr.heap.size < (wr.alloc (.cells #[.int .i64 no, .int .i64 fr, .int .i64 te, .int .i64 bg, .int .i64 ln, .int .i64 by_, .int .i64 ld] 45)).heap.size := by simp
      have q0 : (wr.alloc (.cells #[.int .i64 no, .int .i64 fr, .int .i64 te, .int .i64 bg, .int .i64 ln, .int .i64 by_, .int .i64 ld] 45)).cell? ⟨B, 0, none⟩ = some (.int .i64 f) := by rw [hWb.cell (p := ⟨B, 0, none⟩) hB0]; exact s0
      have q1 : (wr.alloc (.cells #[.int .i64 no, .int .i64 fr, .int .i64 te, .int .i64 bg, .int .i64 ln, .int .i64 by_, .int .i64 ld] 45)).cell? ⟨B, 1, none⟩ = some (.int .i64 t) := by rw [hWb.cell (p := ⟨B, 1, none⟩) hB0]; exact s1
      have hR1 : w1.heap.size ≤ wr.heap.size := hbel.size
      generalize wr.alloc (.cells #[.int .i64 no, .int .i64 fr, .int .i64 te, .int .i64 bg, .int .i64 ln, .int .i64 by_, .int .i64 ld] 45) = W at *
      generalize wr.heap.size = R at *
      have hS : W.cell? ⟨R, 0, none⟩ = some (.int .i64 no) ∧ W.cell? ⟨R, 1, none⟩ = some (.int .i64 fr) ∧ W.cell? ⟨R, 2, none⟩ = some (.int .i64 te) ∧ W.cell? ⟨R, 3, none⟩ = some (.int .i64 bg) ∧ W.cell? ⟨R, 4, none⟩ = some (.int .i64 ln) ∧ W.cell? ⟨R, 5, none⟩ = some (.int .i64 by_) ∧ W.cell? ⟨R, 6, none⟩ = some (.int .i64 ld) ∧ W.cell? ⟨B, 0, none⟩ = some (.int .i64 f) ∧ W.cell? ⟨B, 1, none⟩ = some (.int .i64 t) ∧ Below w1.heap.size w1 W ∧ R < W.heap.size := ⟨e0, e1, e2, e3, e4, e5, e6, q0, q1, hWb, hWs⟩
      go_cut [26] (fun s26 wx => s26 = .bool (decide (min es t ≤ max bs f)) ∧ Below w1.heap.size w1 wx)
      case first =>
        go_region_held3 (fun w' => w'.cell? ⟨R, 0, none⟩ = some (.int .i64 no) ∧ w'.cell? ⟨R, 1, none⟩ = some (.int .i64 fr) ∧ w'.cell? ⟨R, 2, none⟩ = some (.int .i64 te) ∧ w'.cell? ⟨R, 3, none⟩ = some (.int .i64 bg) ∧ w'.cell? ⟨R, 4, none⟩ = some (.int .i64 ln) ∧ w'.cell? ⟨R, 5, none⟩ = some (.int .i64 by_) ∧ w'.cell? ⟨R, 6, none⟩ = some (.int .i64 ld) ∧ w'.cell? ⟨B, 0, none⟩ = some (.int .i64 f) ∧ w'.cell? ⟨B, 1, none⟩ = some (.int .i64 t) ∧ Below w1.heap.size w1 w' ∧ R < w'.heap.size)
          (first | (go_keep; done) | (exact hS) | (exact carry9 hB0 hS (Below.refl _ _).drew))
          (first
            | (go_at_call 47; refine (HEN.out _).mono ?_; rintro e w3 ⟨rfl, b3⟩; (first | (have hS := carry9 hB0 hS b3) | (have hS := carry9 hB0 (carry9 hB0 hS (Below.refl _ _).drew) b3)))
            | (go_at_call 39; refine (HBS.out _).mono ?_; rintro e w3 ⟨rfl, b3⟩; (first | (have hS := carry9 hB0 hS b3) | (have hS := carry9 hB0 (carry9 hB0 hS (Below.refl _ _).drew) b3))))
        all_goals
          go_wp2_with fail
          go_meet
          exact ⟨rfl, hS.2.2.2.2.2.2.2.2.2.1⟩
      case rest =>
        obtain ⟨rfl, bc⟩ := hcut
        generalize max bs f = M at *
        generalize min es t = m at *
        by_cases hm : M < m
        · have hd : decide (m ≤ M) = false := by simp; omega
          cases c
          · have HN := Lib.hid (HST.out.trans (if_pos (HM.out.2 hm)))
            go_wp2_with fail
            go_roundw
            case rel => exact ⟨k + 1, k, k, true, by omega, by go_num, rfl, rfl, rfl, bc, Lib.hid (by rw [HN.out]; rfl)⟩
            case measure => simp [intOf]; omega
          · have HN := Lib.hid (HST.out.trans (if_pos (HM.out.2 hm)))
            go_wp2_with fail
            go_roundw
            case rel => exact ⟨k + 1, x, k, true, by omega, by go_num, rfl, rfl, rfl, bc, Lib.hid (by rw [HN.out]; rfl)⟩
            case measure => simp [intOf]; omega
        · have hd : decide (m ≤ M) = true := by simp; omega
          have HN := Lib.hid (HST.out.trans (if_neg (fun h => hm (HM.out.1 h))))
          have hm2 : m ≤ M := by omega
          have hd3 : decide (M < m) = false := by simp; omega
          clear hm
          go_wp2_with fail
          go_roundw
          case rel => exact ⟨k + 1, x, y, c, by omega, by go_num, rfl, rfl, rfl, bc, HN⟩
          case measure => simp [intOf]; omega
    · have hkn : k = n := by omega
      subst hkn
      have hlt' : decide (k < k) = false := by simp
      have HF2 := HF
      have hfin : Below w.heap.size w wr := b0.trans (hbel.mono b0.size)
      clear hlt2
      go_wp2_with fail
      go_ret3
      exact ⟨ret3_nnb (by rw [HF2.out]) (by rw [HF2.out]) (by rw [HF2.out]), hfin⟩
theorem touched_any (v : Value) (ls : List Seg) (f t : Int) (w : World) (hn : ls.length ≤ 1000) (h : Segs w v ls) :
    Calls Try.prog 38 #[v, .agg #[.int .i64 f, .int .i64 t]] w fun e w' => e = .returned (.tuple #[.int .i64 (tchTo ls f t ls.length).1, .int .i64 (tchTo ls f t ls.length).2.1, .bool (tchTo ls f t ls.length).2.2]) ∧ Below w.heap.size w w' := by
  rcases h with ⟨a, cap, rfl, h0⟩ | ⟨b, off, cap, rfl, hne, hlt, hl, hm, hc⟩
  · have he : ls = [] := List.length_eq_zero_iff.1 h0
    subst he
    go_enter Try.func38, Try.ntmps38
    go_wp2_with fail
    refine wp_loop_rounds 1 ?_
    rw [rounds_succ]
    go_wp2_with fail
    go_ret3
    exact ⟨ret3_nnb rfl rfl rfl, (Below.refl _ _).alloc (Nat.le_refl _) _⟩
  · exact touched_walk b off _ cap ls f t w rfl hne hn hlt (.inr ⟨b, off, cap, rfl, hne, hlt, hl, hm, hc⟩)

end Go.Proofs.Ytgbdmgmbdjajeaa
