/- tick.firstTick, appendTouching, CheckSpans and Media. -/
import Derived.Test.YtnjmjdbilblieabKeptLaw
namespace Go.Proofs.Ytnjmjdbilblieab
set_option linter.unusedVariables false
set_option linter.unusedSimpArgs false
open Go.RowKit

theorem Try.infoSpan : (Try.prog.info? 37).map (fun i => (i.zero, i.size, i.bytes)) = some (some (.agg #[.int .i64 0, .int .i64 0]), 2, 16) := by kernel_rfl

/-- The first tick that is by an anchor a millisecond, or a later one. -/
def ftQ (a : Pr) (scale wall : Int) : Int := a.1 + portQ (wall - a.2) scale 1000 3

set_option maxHeartbeats 1000000 in
theorem first_any (m v scale wall : Int) (w : World) (hm : isTimeN m) (hv : isMilliN v) (hs : isScaleN scale) (hw0 : 0 ≤ wall) (hw1 : wall ≤ 253402300800000) :
    Calls Try.prog 26 #[.agg #[.int .i64 m, .int .i64 v], .int .i64 scale, .int .i64 wall] w fun e w' => e = .returned (.int .i64 (ftQ (m, v) scale wall)) ∧ Below w.heap.size w w' := by
  obtain ⟨m0, m1⟩ := hm
  obtain ⟨v0, v1⟩ := hv
  obtain ⟨s0, s1⟩ := hs
  have hb := portQ_bd (wall - v) scale 1000 3 (by omega) (by omega)
  have E : Hid (ftQ (m, v) scale wall = m + portQ (wall - v) scale 1000 3) := Lib.hid rfl
  go_enter Try.func26, Try.ntmps26
  go_wp2_with fail
  have hw2 : IntKind.i64.wrap (wall - v) = wall - v := IntWalk.i64_in _ ⟨by omega, by omega⟩
  have hw3 : IntKind.i64.wrap (m + portQ (wall - v) scale 1000 3) = m + portQ (wall - v) scale 1000 3 := IntWalk.i64_in _ ⟨by omega, by omega⟩
  go_quiet ((go_at_call 30; exact Calls.quiet_of (portion_any _ _ _ _ _ (by omega) (by omega) (by omega) (by omega) (by omega) (by omega))))
  go_wp2_with fail
  go_ret
  exact ⟨ret_int E.out.symm, below_drewN ((Below.refl _ _).alloc (Nat.le_refl _) _) _⟩

/-- A span put behind others; what touches the last one is one with it. -/
def touch (ts : List Pr) (s : Pr) : List Pr := if ts ≠ [] ∧ (ts.getD (ts.length - 1) (0, 0)).2 = s.1 then ts.dropLast ++ [((ts.getD (ts.length - 1) (0, 0)).1, s.2)] else ts ++ [s]

theorem touch_new (ts : List Pr) (s : Pr) (h : ts = [] ∨ (ts.getD (ts.length - 1) (0, 0)).2 ≠ s.1) : touch ts s = ts ++ [s] := by
  unfold touch
  rw [if_neg]
  rintro ⟨h1, h2⟩
  rcases h with h | h
  · exact h1 h
  · exact h h2
theorem touch_old (init : List Pr) (lf lt t : Int) : touch (init ++ [(lf, lt)]) (lt, t) = init ++ [(lf, t)] := by
  unfold touch
  have e : (init ++ [(lf, lt)]).getD ((init ++ [(lf, lt)]).length - 1) (0, 0) = (lf, lt) := pget_new _ _ _ (by simp)
  rw [e, if_pos ⟨by simp, rfl⟩, List.dropLast_concat]

set_option maxHeartbeats 2000000 in
theorem touch_empty (base : Nat) (v : Value) (f t : Int) (w : World) (hown : w.ownsRow base 37 2 v 0 []) (hbase : base ≤ w.heap.size) :
    Calls Try.prog 27 #[v, .agg #[.int .i64 f, .int .i64 t]] w fun e w' => (∃ u, e = .returned u ∧ w'.ownsRow base 37 2 u 1 (pcells [(f, t)])) ∧ Below base w w' ∧ w.heap.size ≤ w'.heap.size := by
  obtain ⟨i0, hi, hi0, hi1, hi2⟩ := info_parts Try.infoSpan
  obtain ⟨a, c, hv⟩ : ∃ a c, v = .slice a 0 c := by
    rcases hown.2 with ⟨h, _⟩ | ⟨g, cap, cur, h, _⟩
    · exact ⟨_, _, h⟩
    · exact ⟨_, _, h⟩
  subst hv
  go_enter Try.func27, Try.ntmps27
  go_wp2_with fail
  go_quiet (fail)
  go_wp2_with (at_builtin; refine wpList_append_own _ rfl _ _ 32 rfl base 37 i0 (.agg #[.int .i64 0, .int .i64 0]) 2 16 Try.underlying32 hi hi0 hi1 hi2 rfl (by decide) _ _ _ rfl ((hown.alloc _).alloc _) ⟨w.heap.size + 1, 0, none⟩ 1 1 [.int .i64 f, .int .i64 t] rfl rfl ?k1 ?k2 ?k3 ?k4 ?k5 ?_)
  case k1 =>
    have := World.news_of_block (cs := #[.int .i64 f, .int .i64 t]) (t := 37) (fr := (0, 0)) (heap_alloc_new ((w.alloc (.cells #[.int .i64 f, .int .i64 t] 37)).drewN nq) (.cells #[.int .i64 f, .int .i64 t] 37))
    simpa using this
  case k2 => simp [Value.oneCell']
  case k3 => unfold maxLen; omega
  case k4 => omega
  case k5 => simp; omega
  intro u w4 hown4 hgrow4 _
  have hb4 : Below base w w4 := (((below_drewN ((Below.refl base w).alloc hbase _) nq).alloc (by simp; omega) _).grown hgrow4 (by simp; omega) (fun q hq => (hown.lt q hq).1))
  have hs4 : w.heap.size ≤ w4.heap.size := by have := hgrow4.size; simp at this; omega
  clear hgrow4
  go_wp2_with fail
  go_ret
  exact ⟨⟨_, rfl, by simpa [pcells] using hown4⟩, hb4, hs4⟩

set_option maxHeartbeats 2000000 in
theorem touch_some (base : Nat) (v : Value) (init : List Pr) (lf lt f t : Int) (w : World) (hown : w.ownsRow base 37 2 v (init.length + 1) (pcells (init ++ [(lf, lt)]))) (hbase : base ≤ w.heap.size) (hl : init.length ≤ 1000) :
    Calls Try.prog 27 #[v, .agg #[.int .i64 f, .int .i64 t]] w fun e w' => (∃ u, e = .returned u ∧ w'.ownsRow base 37 2 u (touch (init ++ [(lf, lt)]) (f, t)).length (pcells (touch (init ++ [(lf, lt)]) (f, t)))) ∧ Below base w w' ∧ w.heap.size ≤ w'.heap.size := by
  obtain ⟨i0, hi, hi0, hi1, hi2⟩ := info_parts Try.infoSpan
  obtain ⟨g, cap, hform, hg1, hg2⟩ := World.ownsRow.form hown (by omega)
  rw [hform] at hown ⊢
  obtain ⟨n, hn⟩ : ∃ n, init.length = n := ⟨_, rfl⟩
  rw [hn] at hown hl ⊢
  have hlast : w.cell? ⟨g, n * 2 + 1, none⟩ = some (.int .i64 lt) := by
    have := (pcells_at (init ++ [(lf, lt)]) n (by simp; omega)).2
    rw [World.ownsRow.cellAt hown (n * 2 + 1) (by omega), this, pget_new _ _ _ hn.symm]
  have hfz := World.ownsRow.frozenAt hown (n * 2 + 1)
  clear hform
  by_cases he : lt = f
  · subst he
    go_enter Try.func27, Try.ntmps27
    go_wp2_with fail
    go_quiet (fail)
    go_wp2_with fail
    go_ret
    have hst := World.ownsRow.stored (w := (w.alloc (.cells #[.int .i64 lt, .int .i64 t] 37)).drewN nq) ((hown.alloc _)) (n * 2 + 1) (.int .i64 t)
    have hset : (pcells (init ++ [(lf, lt)])).set (n * 2 + 1) (.int .i64 t) = pcells (init ++ [(lf, t)]) := by
      rw [pcells_snoc, pcells_snoc, List.set_append_right _ _ (by rw [pcells_len]; omega), pcells_len, hn, show n * 2 + 1 - n * 2 = 1 by omega]
      rfl
    rw [touch_old, List.length_append, List.length_singleton, hn, ← hset]
    exact ⟨⟨_, rfl, hst.1⟩, (below_drewN ((Below.refl base w).alloc hbase _) nq).setCell hg1 _, by simp⟩
  · have hb : (lt == f) = false := by simp [he]
    go_enter Try.func27, Try.ntmps27
    go_wp2_with fail
    go_quiet (fail)
    go_wp2_with (at_builtin; refine wpList_append_own _ rfl _ _ 32 rfl base 37 i0 (.agg #[.int .i64 0, .int .i64 0]) 2 16 Try.underlying32 hi hi0 hi1 hi2 rfl (by decide) _ _ _ rfl ((hown.alloc _).alloc _) ⟨w.heap.size + 1, 0, none⟩ 1 1 [.int .i64 f, .int .i64 t] rfl rfl ?j1 ?j2 ?j3 ?j4 ?j5 ?_)
    case j1 =>
      have := World.news_of_block (cs := #[.int .i64 f, .int .i64 t]) (t := 37) (fr := (0, 0)) (heap_alloc_new ((w.alloc (.cells #[.int .i64 f, .int .i64 t] 37)).drewN nq) (.cells #[.int .i64 f, .int .i64 t] 37))
      simpa using this
    case j2 => simp [Value.oneCell']
    case j3 => unfold maxLen; omega
    case j4 => omega
    case j5 => simp; omega
    intro u w4 hown4 hgrow4 _
    have hb4 : Below base w w4 := (((below_drewN ((Below.refl base w).alloc hbase _) nq).alloc (by simp; omega) _).grown hgrow4 (by simp; omega) (fun q hq => (hown.lt q hq).1))
    have hs4 : w.heap.size ≤ w4.heap.size := by have := hgrow4.size; simp at this; omega
    clear hgrow4
    go_wp2_with fail
    go_ret
    rw [touch_new (init ++ [(lf, lt)]) (f, t) (.inr (by rw [pget_new _ _ _ (by simp)]; exact he)), List.length_append, List.length_append, List.length_singleton, List.length_singleton, hn, pcells_snoc]
    exact ⟨⟨_, rfl, hown4⟩, hb4, hs4⟩

theorem touch_any (base : Nat) (v : Value) (ts : List Pr) (f t : Int) (w : World) (hown : w.ownsRow base 37 2 v ts.length (pcells ts)) (hbase : base ≤ w.heap.size) (hl : ts.length ≤ 1000) :
    Calls Try.prog 27 #[v, .agg #[.int .i64 f, .int .i64 t]] w fun e w' => (∃ u, e = .returned u ∧ w'.ownsRow base 37 2 u (touch ts (f, t)).length (pcells (touch ts (f, t)))) ∧ Below base w w' ∧ w.heap.size ≤ w'.heap.size := by
  rcases List.eq_nil_or_concat ts with rfl | ⟨init, last, rfl⟩
  · rw [touch_new [] (f, t) (.inl rfl)]
    exact touch_empty base v f t w hown hbase
  · obtain ⟨lf, lt⟩ := last
    simp only [List.concat_eq_append] at hown hl ⊢
    rw [List.length_append, List.length_singleton] at hown hl
    exact touch_some base v init lf lt f t w hown hbase (by omega)

theorem touch_len (ts : List Pr) (s : Pr) : (touch ts s).length ≤ ts.length + 1 := by
  unfold touch
  split
  · rw [List.length_append, List.length_dropLast, List.length_singleton]; omega
  · simp

/-- From when an anchor holds, and until when. -/
def leastQ (ps : List Pr) (k : Nat) : Int := if k = 0 then -1000000000000000 else (ps.getD k (0, 0)).1
def mostQ (ps : List Pr) (n k : Nat) : Int := if k + 1 < n then (ps.getD (k + 1) (0, 0)).1 else 1000000000000000
theorem mostQ_last (ps : List Pr) (n k : Nat) (h : ¬ k + 1 < n) : mostQ ps n k = 1000000000000000 := by rw [mostQ, if_neg h]
theorem mostQ_next (ps : List Pr) (n k : Nat) (h : k + 1 < n) : mostQ ps n k = (ps.getD (k + 1) (0, 0)).1 := by rw [mostQ, if_pos h]

/-- The spans of the first k anchors. -/
def medTo (scale M : Int) (ps : List Pr) (n : Nat) : Nat → List Pr
  | 0 => []
  | k + 1 =>
    if max (ftQ (ps.getD k (0, 0)) scale M) (leastQ ps k) < min (ftQ (ps.getD k (0, 0)) scale (M + 1)) (mostQ ps n k)
    then touch (medTo scale M ps n k) (max (ftQ (ps.getD k (0, 0)) scale M) (leastQ ps k), min (ftQ (ps.getD k (0, 0)) scale (M + 1)) (mostQ ps n k))
    else medTo scale M ps n k
theorem medTo_yes (scale M : Int) (ps : List Pr) (n k : Nat) (h : max (ftQ (ps.getD k (0, 0)) scale M) (leastQ ps k) < min (ftQ (ps.getD k (0, 0)) scale (M + 1)) (mostQ ps n k)) :
    medTo scale M ps n (k + 1) = touch (medTo scale M ps n k) (max (ftQ (ps.getD k (0, 0)) scale M) (leastQ ps k), min (ftQ (ps.getD k (0, 0)) scale (M + 1)) (mostQ ps n k)) := by rw [medTo, if_pos h]
theorem medTo_no (scale M : Int) (ps : List Pr) (n k : Nat) (h : ¬ max (ftQ (ps.getD k (0, 0)) scale M) (leastQ ps k) < min (ftQ (ps.getD k (0, 0)) scale (M + 1)) (mostQ ps n k)) :
    medTo scale M ps n (k + 1) = medTo scale M ps n k := by rw [medTo, if_neg h]

set_option maxRecDepth 100000 in
set_option maxHeartbeats 8000000 in
theorem media_walk (b off n cap : Nat) (ps : List Pr) (scale M : Int) (w : World) (hz : ps.length = n) (hn0 : 0 < n) (hn2 : n ≤ 200) (hlt : b < w.heap.size) (hcl : n ≤ cap) (hcm : cap ≤ maxLen) (hs : sclF ps scale = 0) (hM : isMilliN M)
    (hv : ∀ j, j < n → isTimeN (ps.getD j (0, 0)).1 ∧ isMilliN (ps.getD j (0, 0)).2) (hsc : isScaleN scale)
    (hc : ∀ j, j < n → w.cell? ⟨b, off + j * 2, none⟩ = some (.int .i64 (ps.getD j (0, 0)).1) ∧ w.cell? ⟨b, off + j * 2 + 1, none⟩ = some (.int .i64 (ps.getD j (0, 0)).2)) :
    Calls Try.prog 12 #[.slice (some ⟨b, off, none⟩) n cap, .int .i64 scale, .int .i64 M] w fun e w' => (∃ u, e = .returned (.tuple #[u, .int .i64 0]) ∧ Pairs w' u (medTo scale M ps n n)) ∧ Below w.heap.size w w' := by
  have hP : Pairs w (.slice (some ⟨b, off, none⟩) n cap) ps := .inr ⟨b, off, cap, by rw [hz], fun h => by subst h; simp at hz; omega, hlt, by omega, hcm, by rw [hz]; exact hc⟩
  have HS := Lib.hid hs; have HZ := Lib.hid hz; have HVV := Lib.hid hv; have HSC := Lib.hid hsc
  obtain ⟨M0, M1⟩ := hM
  clear hs hz hv hsc
  go_enter Try.func12, Try.ntmps12
  go_wp2_with fail
  refine (scaled_any _ ps _ _ hP).mono ?_; rintro e w1 ⟨rfl, b1⟩
  rw [HS.out]
  go_wp2_with fail
  refine (within_yes _ _ _ _ (by omega) (by omega)).mono ?_; rintro e w' ⟨rfl, rfl⟩
  have HC : Hid (∀ j, j < n → w1.cell? ⟨b, off + j * 2, none⟩ = some (.int .i64 (ps.getD j (0, 0)).1) ∧ w1.cell? ⟨b, off + j * 2 + 1, none⟩ = some (.int .i64 (ps.getD j (0, 0)).2)) := Lib.hid (fun j hj => by
    rw [b1.cell (p := ⟨b, off + j * 2, none⟩) hlt, b1.cell (p := ⟨b, off + j * 2 + 1, none⟩) hlt]; exact hc j hj)
  have hlt1 : b < w1.heap.size := Nat.lt_of_lt_of_le hlt b1.size
  have hcm' : cap ≤ 9223372036854775807 := by unfold maxLen at hcm; omega
  clear hP hc
  go_wp2_with fail
  go_loopw [9, 10, 27] (fun v l i wr => ∃ (k : Nat) (L : Int), k ≤ n ∧ l = .int .i64 L ∧ i = .int .i64 k ∧ wr.ownsRow w1.heap.size 37 2 v (medTo scale M ps n k).length (pcells (medTo scale M ps n k)) ∧ w1.heap.size ≤ wr.heap.size ∧ Below w1.heap.size w1 wr ∧ Hid (k < n → leastQ ps k = L) ∧ Hid ((medTo scale M ps n k).length ≤ k)) (fun _ _ i _ => n - (intOf i).toNat)
  case atStart => exact ⟨0, -1000000000000000, Nat.zero_le _, rfl, rfl, World.ownsRow_nil _ _ _ _, Nat.le_refl _, Below.refl _ _, Lib.hid (fun _ => rfl), Lib.hid (Nat.le_refl _)⟩
  case round =>
    obtain ⟨k, L, hk, rfl, rfl, hown, hsz, hbel, HLQ, HML⟩ := hrel
    by_cases hlt2 : k < n
    · obtain ⟨x, hx⟩ : ∃ x, (ps.getD k (0, 0)).1 = x := ⟨_, rfl⟩
      obtain ⟨y, hy⟩ : ∃ y, (ps.getD k (0, 0)).2 = y := ⟨_, rfl⟩
      have hcell := HC.out k hlt2
      rw [hx, hy] at hcell
      have d0 : wr.cell? ⟨b, off + k * 2, none⟩ = some (.int .i64 x) := by rw [hbel.cell (p := ⟨b, off + k * 2, none⟩) hlt1]; exact hcell.1
      have d1 : wr.cell? ⟨b, off + k * 2 + 1, none⟩ = some (.int .i64 y) := by rw [hbel.cell (p := ⟨b, off + k * 2 + 1, none⟩) hlt1]; exact hcell.2
      have hv := HVV.out k hlt2
      rw [hx, hy] at hv
      have HV := Lib.hid hv
      have HPK : Hid (ps.getD k (0, 0) = (x, y)) := Lib.hid (Prod.ext hx hy)
      obtain ⟨F1, hF1⟩ : ∃ F, ftQ (x, y) scale M = F := ⟨_, rfl⟩
      obtain ⟨F2, hF2⟩ : ∃ F, ftQ (x, y) scale (M + 1) = F := ⟨_, rfl⟩
      have HF1 := Lib.hid hF1; have HF2 := Lib.hid hF2
      have HFQ := HF1; have HGQ := HF2
      have hblt : b < wr.heap.size := by omega
      clear hcell hv hx hy hF1 hF2
      by_cases hnext : k + 1 < n
      · obtain ⟨z, hz1⟩ : ∃ z, (ps.getD (k + 1) (0, 0)).1 = z := ⟨_, rfl⟩
        have hc2 := (HC.out (k + 1) hnext).1
        rw [hz1] at hc2
        have d2 : (wr.alloc (.cells #[.int .i64 x, .int .i64 y] 42)).cell? ⟨b, off + (k + 1) * 2, none⟩ = some (.int .i64 z) := by
          rw [World.cell?_alloc_past _ _ _ hblt, hbel.cell (p := ⟨b, off + (k + 1) * 2, none⟩) hlt1]; exact hc2
        have HZ1 := Lib.hid hz1
        clear hz1 hc2
        have hq : (k : Int) + 1 < (n : Int) := by omega
        go_wp2_with fail
        refine (first_any _ _ _ _ _ HV.out.1 HV.out.2 HSC.out (by omega) (by omega)).mono ?_; rintro e w3 ⟨rfl, b3⟩
        rw [HF1.out]
        have s3 := b3.size
        simp only [World.size_alloc] at s3
        have q0 : w3.cell? ⟨wr.heap.size, 0, none⟩ = some (.int .i64 x) := by rw [b3.cell (p := ⟨wr.heap.size, 0, none⟩) (by simp)]; simp
        have q1 : w3.cell? ⟨wr.heap.size, 1, none⟩ = some (.int .i64 y) := by rw [b3.cell (p := ⟨wr.heap.size, 1, none⟩) (by simp)]; simp
        have ho3 := ownsRow_below (hown.alloc (.cells #[.int .i64 x, .int .i64 y] 42)) b3 (Nat.le_refl _)
        have hb3 : Below w1.heap.size w1 w3 := (hbel.alloc hsz _).trans (b3.mono (by simp; omega))
        clear b3 hown hbel
        go_wp2_with fail
        refine (first_any _ _ _ _ _ HV.out.1 HV.out.2 HSC.out (by omega) (by omega)).mono ?_; rintro e w4 ⟨rfl, b4⟩
        rw [HF2.out]
        have s4 := b4.size
        have ho4 := ownsRow_below ho3 b4 (Nat.le_refl _)
        have hb4 : Below w1.heap.size w1 w4 := hb3.trans (b4.mono (by omega))
        clear b4 ho3 hb3 q0 q1
        by_cases hlt4 : max F1 L < min F2 z
        · have hmed := medTo_yes scale M ps n k
          rw [HPK.out, HFQ.out, HGQ.out, HLQ.out hlt2, mostQ_next ps n k (by omega), HZ1.out] at hmed
          have HMD := Lib.hid (hmed hlt4)
          clear hmed
          go_wp2_with fail
          refine (touch_any w1.heap.size _ (medTo scale M ps n k) _ _ _ ho4 (by omega) (by have := HML.out; omega)).mono ?_
          rintro e w5 ⟨⟨u5, rfl, ho5⟩, b5, s5⟩
          have hb5 := hb4.trans b5
          clear ho4 hb4 b5
          go_wp2_with fail
          go_roundw
          case rel =>
            refine ⟨k + 1, z, by omega, rfl, by go_num, by rw [HMD.out]; exact ho5, by omega, hb5, Lib.hid (fun h => by rw [leastQ, if_neg (by omega)]; exact HZ1.out), Lib.hid ?_⟩
            rw [HMD.out]
            have := touch_len (medTo scale M ps n k) (max F1 L, min F2 z)
            have := HML.out
            omega
          case measure => simp [intOf]; omega
        · have hmed := medTo_no scale M ps n k
          rw [HPK.out, HFQ.out, HGQ.out, HLQ.out hlt2, mostQ_next ps n k (by omega), HZ1.out] at hmed
          have HMD := Lib.hid (hmed hlt4)
          have hd : decide (max F1 L < min F2 z) = false := by simp only [decide_eq_false_iff_not]; exact hlt4
          clear hmed
          go_wp2_with fail
          go_roundw
          case rel => exact ⟨k + 1, z, by omega, rfl, by go_num, by rw [HMD.out]; exact ho4, by omega, hb4, Lib.hid (fun h => by rw [leastQ, if_neg (by omega)]; exact HZ1.out), Lib.hid (by rw [HMD.out]; have := HML.out; omega)⟩
          case measure => simp [intOf]; omega
      · skip
        have hq : decide ((k : Int) + 1 < (n : Int)) = false := by simp; omega
        go_wp2_with fail
        refine (first_any _ _ _ _ _ HV.out.1 HV.out.2 HSC.out (by omega) (by omega)).mono ?_; rintro e w3 ⟨rfl, b3⟩
        rw [HF1.out]
        have s3 := b3.size
        simp only [World.size_alloc] at s3
        have q0 : w3.cell? ⟨wr.heap.size, 0, none⟩ = some (.int .i64 x) := by rw [b3.cell (p := ⟨wr.heap.size, 0, none⟩) (by simp)]; simp
        have q1 : w3.cell? ⟨wr.heap.size, 1, none⟩ = some (.int .i64 y) := by rw [b3.cell (p := ⟨wr.heap.size, 1, none⟩) (by simp)]; simp
        have ho3 := ownsRow_below (hown.alloc (.cells #[.int .i64 x, .int .i64 y] 42)) b3 (Nat.le_refl _)
        have hb3 : Below w1.heap.size w1 w3 := (hbel.alloc hsz _).trans (b3.mono (by simp; omega))
        clear b3 hown hbel
        go_wp2_with fail
        refine (first_any _ _ _ _ _ HV.out.1 HV.out.2 HSC.out (by omega) (by omega)).mono ?_; rintro e w4 ⟨rfl, b4⟩
        rw [HF2.out]
        have s4 := b4.size
        have ho4 := ownsRow_below ho3 b4 (Nat.le_refl _)
        have hb4 : Below w1.heap.size w1 w4 := hb3.trans (b4.mono (by omega))
        clear b4 ho3 hb3 q0 q1
        by_cases hlt4 : max F1 L < min F2 1000000000000000
        · have hmed := medTo_yes scale M ps n k
          rw [HPK.out, HFQ.out, HGQ.out, HLQ.out hlt2, mostQ_last ps n k (by omega)] at hmed
          have HMD := Lib.hid (hmed hlt4)
          clear hmed
          go_wp2_with fail
          refine (touch_any w1.heap.size _ (medTo scale M ps n k) _ _ _ ho4 (by omega) (by have := HML.out; omega)).mono ?_
          rintro e w5 ⟨⟨u5, rfl, ho5⟩, b5, s5⟩
          have hb5 := hb4.trans b5
          clear ho4 hb4 b5
          go_wp2_with fail
          go_roundw
          case rel =>
            refine ⟨k + 1, 1000000000000000, by omega, rfl, by go_num, by rw [HMD.out]; exact ho5, by omega, hb5, Lib.hid (fun h => by omega), Lib.hid ?_⟩
            rw [HMD.out]
            have := touch_len (medTo scale M ps n k) (max F1 L, min F2 1000000000000000)
            have := HML.out
            omega
          case measure => simp [intOf]; omega
        · have hmed := medTo_no scale M ps n k
          rw [HPK.out, HFQ.out, HGQ.out, HLQ.out hlt2, mostQ_last ps n k (by omega)] at hmed
          have HMD := Lib.hid (hmed hlt4)
          have hd : decide (max F1 L < min F2 1000000000000000) = false := by simp only [decide_eq_false_iff_not]; exact hlt4
          clear hmed
          go_wp2_with fail
          go_roundw
          case rel => exact ⟨k + 1, 1000000000000000, by omega, rfl, by go_num, by rw [HMD.out]; exact ho4, by omega, hb4, Lib.hid (fun h => by omega), Lib.hid (by rw [HMD.out]; have := HML.out; omega)⟩
          case measure => simp [intOf]; omega
    · have hkn : k = n := by omega
      rw [hkn] at hown
      go_wp2_with fail
      go_ret2
      exact ⟨⟨_, ret2_vi rfl rfl, Pairs.ofOwn hown⟩, b1.trans (hbel.mono b1.size)⟩

end Go.Proofs.Ytnjmjdbilblieab
