/- tick.Kept returns the anchors that are needed. -/
import Derived.Test.YtnjmjdbilblieabClock
namespace Go.Proofs.Ytnjmjdbilblieab
set_option linter.unusedVariables false
set_option linter.unusedSimpArgs false
open Go.RowKit

theorem Try.infoAnchor : (Try.prog.info? 42).map (fun i => (i.zero, i.size, i.bytes)) = some (some (.agg #[.int .i64 0, .int .i64 0]), 2, 16) := by kernel_rfl

/-- The millisecond of a tick by an anchor. -/
def milQ (a : Pr) (scale t : Int) : Int := a.2 + portQ (t - a.1) 1000 scale 1

/-- The anchors kept out of the first k + 1, and the last of them. -/
def keepTo (scale slack : Int) (ps : List Pr) : Nat → List Pr × Pr
  | 0 => ([ps.getD 0 (0, 0)], ps.getD 0 (0, 0))
  | k + 1 =>
    if slack < (((ps.getD (k + 1) (0, 0)).2 - milQ (keepTo scale slack ps k).2 scale (ps.getD (k + 1) (0, 0)).1).natAbs : Int)
    then ((keepTo scale slack ps k).1 ++ [ps.getD (k + 1) (0, 0)], ps.getD (k + 1) (0, 0))
    else keepTo scale slack ps k

def keptF (ps : List Pr) (scale slack : Int) : Int := if sclF ps scale ≠ 0 then sclF ps scale else if isMilliN slack then 0 else 1
def keptL (ps : List Pr) (scale slack : Int) : List Pr := if keptF ps scale slack = 0 then (keepTo scale slack ps (ps.length - 1)).1 else []

/-- The cells of pairs. -/
def pcells (ps : List Pr) : List Value := ps.flatMap fun p => [.int .i64 p.1, .int .i64 p.2]

theorem pcells_snoc (ps : List Pr) (p : Pr) : pcells (ps ++ [p]) = pcells ps ++ [.int .i64 p.1, .int .i64 p.2] := by simp [pcells]
theorem pcells_len (ps : List Pr) : (pcells ps).length = ps.length * 2 := by
  induction ps with
  | nil => rfl
  | cons p ps ih => simp only [pcells, List.flatMap_cons, List.length_append] at *; simp [ih]; omega
theorem pcells_at (ps : List Pr) : ∀ j, j < ps.length → (pcells ps)[j * 2]? = some (.int .i64 (ps.getD j (0, 0)).1) ∧ (pcells ps)[j * 2 + 1]? = some (.int .i64 (ps.getD j (0, 0)).2) := by
  induction ps with
  | nil => intro j hj; simp at hj
  | cons p ps ih =>
    intro j hj
    cases j with
    | zero => simp [pcells]
    | succ j =>
      obtain ⟨h1, h2⟩ := ih j (by simpa using hj)
      have e : pcells (p :: ps) = .int .i64 p.1 :: .int .i64 p.2 :: pcells ps := rfl
      rw [e, show (j + 1) * 2 = j * 2 + 1 + 1 by omega, List.getElem?_cons_succ, List.getElem?_cons_succ, List.getElem?_cons_succ, List.getElem?_cons_succ]
      exact ⟨by simpa using h1, by simpa using h2⟩

theorem Pairs.ofOwn {w : World} {base : Nat} {e : TypeId} {v : Value} {ps : List Pr} (h : w.ownsRow base e 2 v ps.length (pcells ps)) : Pairs w v ps := by
  by_cases hz : ps = []
  · subst hz
    rcases h.2 with ⟨rfl, _⟩ | ⟨g, cap, cur, rfl, _⟩
    · exact .nil w
    · exact .inl ⟨_, _, rfl, rfl⟩
  · have hl : 0 < ps.length := List.length_pos_iff.2 hz
    have hlt := h.lt
    rcases h.2 with ⟨_, h0⟩ | ⟨g, cap, cur, rfl, hb, hg, hnc, hcm, hcs, htake⟩
    · omega
    · refine .inr ⟨g, 0, cap, rfl, hz, (hlt g rfl).2, hnc, hcm, fun j hj => ?_⟩
      rw [Nat.zero_add, World.ownsRow.cellAt h (j * 2) (by omega), World.ownsRow.cellAt h (j * 2 + 1) (by omega)]
      exact pcells_at ps j hj

theorem two_rows (w1 : World) (x0 y0 : Int) (base : Nat) (hb : base ≤ w1.heap.size + 1) :
    ((w1.alloc (.cells #[.int .i64 x0, .int .i64 y0] 42)).alloc (.cells #[.int .i64 x0, .int .i64 y0] 42)).ownsRow base 42 2 (.slice (some ⟨w1.heap.size + 1, 0, none⟩) 1 1) 1 (pcells [(x0, y0)]) := by
  have := World.ownsRow_lit (base := base) (e := 42) (size := 2) (w1.alloc (.cells #[.int .i64 x0, .int .i64 y0] 42)) #[.int .i64 x0, .int .i64 y0] 1 (by simpa using hb) (by simp [maxLen]) rfl
  simpa [pcells] using this

theorem ownsRow_below {w w' : World} {base : Nat} {e : TypeId} {size : Nat} {v : Value} {n B : Nat} {xs : List Value} (h : w.ownsRow base e size v n xs) (hb : Below B w w') (hB : w.heap.size ≤ B) : w'.ownsRow base e size v n xs := by
  have hl := h.lt
  refine ⟨h.1, ?_⟩
  rcases h.2 with h' | ⟨g, cap, cur, rfl, h1, h2, h3⟩
  · exact .inl h'
  · refine .inr ⟨g, cap, cur, rfl, h1, ?_, h3⟩
    have := (hl g rfl).2
    rw [hb.block g (by omega)]
    exact h2

set_option maxRecDepth 100000 in
set_option maxHeartbeats 4000000 in
theorem kept_walk (b off n cap : Nat) (ps : List Pr) (scale slack : Int) (w : World) (hz : ps.length = n) (hn0 : 0 < n) (hn2 : n ≤ 200) (hlt : b < w.heap.size) (hcl : n ≤ cap) (hcm : cap ≤ maxLen) (hs : sclF ps scale = 0) (hsl : isMilliN slack) (hv : ∀ j, j < n → isTimeN (ps.getD j (0, 0)).1 ∧ isMilliN (ps.getD j (0, 0)).2) (hsc : isScaleN scale)
    (hc : ∀ j, j < n → w.cell? ⟨b, off + j * 2, none⟩ = some (.int .i64 (ps.getD j (0, 0)).1) ∧ w.cell? ⟨b, off + j * 2 + 1, none⟩ = some (.int .i64 (ps.getD j (0, 0)).2)) :
    Calls Try.prog 14 #[.slice (some ⟨b, off, none⟩) n cap, .int .i64 scale, .int .i64 slack] w fun e w' => (∃ u, e = .returned (.tuple #[u, .int .i64 0]) ∧ Pairs w' u (keepTo scale slack ps (n - 1)).1) ∧ Below w.heap.size w w' := by
  have hP : Pairs w (.slice (some ⟨b, off, none⟩) n cap) ps := .inr ⟨b, off, cap, by rw [hz], fun h => by subst h; simp at hz; omega, hlt, by omega, hcm, by rw [hz]; exact hc⟩
  obtain ⟨i0, hi, hi0, hi1, hi2⟩ := info_parts Try.infoAnchor
  have HS := Lib.hid hs; have HZ := Lib.hid hz
  have HV := Lib.hid hv; have HSC := Lib.hid hsc
  obtain ⟨l0, l1⟩ := hsl
  clear hs hz hv hsc
  go_enter Try.func14, Try.ntmps14
  go_wp2_with fail
  refine (scaled_any _ ps _ _ hP).mono ?_; rintro e w1 ⟨rfl, b1⟩
  rw [HS.out]
  go_wp2_with fail
  refine (within_yes _ _ _ _ (by omega) (by omega)).mono ?_; rintro e w' ⟨rfl, rfl⟩
  have HC : Hid (∀ j, j < n → w1.cell? ⟨b, off + j * 2, none⟩ = some (.int .i64 (ps.getD j (0, 0)).1) ∧ w1.cell? ⟨b, off + j * 2 + 1, none⟩ = some (.int .i64 (ps.getD j (0, 0)).2)) := Lib.hid (fun j hj => by
    rw [b1.cell (p := ⟨b, off + j * 2, none⟩) hlt, b1.cell (p := ⟨b, off + j * 2 + 1, none⟩) hlt]; exact hc j hj)
  have hlt1 : b < w1.heap.size := Nat.lt_of_lt_of_le hlt b1.size
  obtain ⟨x0, hx0⟩ : ∃ x, (ps.getD 0 (0, 0)).1 = x := ⟨_, rfl⟩
  obtain ⟨y0, hy0⟩ : ∃ y, (ps.getD 0 (0, 0)).2 = y := ⟨_, rfl⟩
  obtain ⟨c0, c1⟩ := HC.out 0 hn0
  rw [hx0] at c0; rw [hy0] at c1
  rw [show off + 0 * 2 = off by omega] at c0 c1
  have HX0 := Lib.hid hx0; have HY0 := Lib.hid hy0
  clear hP hc hx0 hy0
  have hcm' : cap ≤ 9223372036854775807 := by unfold maxLen at hcm; omega
  have hval0 : (isTimeN x0 ∧ isMilliN y0) := by have := HV.out 0 hn0; rw [HX0.out, HY0.out] at this; exact this
  by_cases hcap : cap = 1
  · have hn1 : n = 1 := by omega
    subst hcap
    have e1 : keepTo scale slack ps (n - 1) = ([(x0, y0)], (x0, y0)) := by
      have : ps.getD 0 (0, 0) = (x0, y0) := Prod.ext HX0.out HY0.out
      rw [hn1, keepTo, this]
    have E1 := Lib.hid e1
    have N1 := Lib.hid hn1
    clear e1 hn1
    go_wp2_with fail
    refine wp_loop_rounds 1 ?_
    rw [rounds_succ]
    go_wp2_with fail
    go_ret2
    refine ⟨⟨_, ret2_vi rfl rfl, ?_⟩, ((b1.alloc b1.size _).alloc (by simp; have := b1.size; omega) _)⟩
    rw [E1.out]
    exact Pairs.ofOwn (ps := [(x0, y0)]) (two_rows w1 x0 y0 0 (Nat.zero_le _))
  · have hcap2 : 1 < cap := by omega
    clear hcap
    go_wp2_with fail
    go_loopw [10, 30] (fun v i wr => ∃ (k : Nat) (ts : List Pr) (lx ly : Int), k ≤ n - 1 ∧ i = .int .i64 k ∧ wr.ownsRow (w1.heap.size + 1) 42 2 v ts.length (pcells ts) ∧ wr.cell? ⟨w1.heap.size, 0, none⟩ = some (.int .i64 lx) ∧ wr.cell? ⟨w1.heap.size, 1, none⟩ = some (.int .i64 ly) ∧ wr.frozen? ⟨w1.heap.size, 0, none⟩ = false ∧ wr.frozen? ⟨w1.heap.size, 1, none⟩ = false ∧ w1.heap.size < wr.heap.size ∧ Below w1.heap.size w1 wr ∧ Hid (keepTo scale slack ps k = (ts, (lx, ly))) ∧ Hid (ts.length ≤ k + 1) ∧ Hid (isTimeN lx ∧ isMilliN ly)) (fun _ i _ => n - (intOf i).toNat)
    case atStart =>
      have : ps.getD 0 (0, 0) = (x0, y0) := Prod.ext HX0.out HY0.out
      refine ⟨0, [(x0, y0)], x0, y0, by omega, rfl, ?_, ?_, ?_, ?_, ?_, by simp; omega, ((Below.refl _ _).alloc (Nat.le_refl _) _).alloc (by simp) _, Lib.hid (by rw [keepTo, this]), Lib.hid (by simp), Lib.hid hval0⟩
      · exact two_rows w1 x0 y0 _ (Nat.le_refl _)
      · rw [World.cell?_alloc_past _ _ _ (by simp)]; simp
      · rw [World.cell?_alloc_past _ _ _ (by simp)]; simp
      · rw [World.frozen?_alloc_old _ _ _ (by simp)]; simp
      · rw [World.frozen?_alloc_old _ _ _ (by simp)]; simp
    case round =>
      obtain ⟨k, ts, lx, ly, hk, rfl, hown, g0, g1, gf0, gf1, hgs, hbel, HK, HTL, HLV⟩ := hrel
      by_cases hlt2 : k < n - 1
      · obtain ⟨x, hx⟩ : ∃ x, (ps.getD (k + 1) (0, 0)).1 = x := ⟨_, rfl⟩
        obtain ⟨y, hy⟩ : ∃ y, (ps.getD (k + 1) (0, 0)).2 = y := ⟨_, rfl⟩
        obtain ⟨e0, e1⟩ := HC.out (k + 1) (by omega)
        rw [hx] at e0; rw [hy] at e1
        have d0 : wr.cell? ⟨b, off + 2 + k * 2, none⟩ = some (.int .i64 x) := by rw [hbel.cell (p := ⟨b, off + 2 + k * 2, none⟩) hlt1, show off + 2 + k * 2 = off + (k + 1) * 2 by omega]; exact e0
        have d1 : wr.cell? ⟨b, off + 2 + k * 2 + 1, none⟩ = some (.int .i64 y) := by rw [hbel.cell (p := ⟨b, off + 2 + k * 2 + 1, none⟩) hlt1, show off + 2 + k * 2 = off + (k + 1) * 2 by omega]; exact e1
        have hvx := HV.out (k + 1) (by omega)
        rw [hx, hy] at hvx
        have HVX := Lib.hid hvx
        obtain ⟨⟨x1, x2⟩, ⟨y1, y2⟩⟩ := hvx
        obtain ⟨⟨lx1, lx2⟩, ⟨ly1, ly2⟩⟩ := HLV.out
        have hpb := portQ_bd (x - lx) 1000 scale 1 (by omega) (by have := HSC.out.1; omega)
        have HXY := Lib.hid (And.intro hx hy)
        have k0 : (0 : Int) ≤ (k : Int) := Int.natCast_nonneg _
        have k1 : (k : Int) < ((n - 1 : Nat) : Int) := by omega
        clear e0 e1 hx hy c0 c1
        obtain ⟨M, hM⟩ : ∃ M, ly + portQ (x - lx) 1000 scale 1 = M := ⟨_, rfl⟩
        have HM := Lib.hid hM
        have hMb : -4700000000000000000 ≤ M ∧ M ≤ 4900000000000000000 := by omega
        have hown' := hown.alloc (.cells #[.int .i64 x, .int .i64 y] 42)
        have a0 : (wr.alloc (.cells #[.int .i64 x, .int .i64 y] 42)).cell? ⟨w1.heap.size, 0, none⟩ = some (.int .i64 lx) := by rw [World.cell?_alloc_past _ _ _ hgs]; exact g0
        have a1 : (wr.alloc (.cells #[.int .i64 x, .int .i64 y] 42)).cell? ⟨w1.heap.size, 1, none⟩ = some (.int .i64 ly) := by rw [World.cell?_alloc_past _ _ _ hgs]; exact g1
        have af0 : (wr.alloc (.cells #[.int .i64 x, .int .i64 y] 42)).frozen? ⟨w1.heap.size, 0, none⟩ = false := by rw [World.frozen?_alloc_old _ _ _ (by simp; omega)]; exact gf0
        have af1 : (wr.alloc (.cells #[.int .i64 x, .int .i64 y] 42)).frozen? ⟨w1.heap.size, 1, none⟩ = false := by rw [World.frozen?_alloc_old _ _ _ (by simp; omega)]; exact gf1
        have hbel' := hbel.alloc (Nat.le_of_lt hgs) (.cells #[.int .i64 x, .int .i64 y] 42)
        clear hM
        go_upto_region 11 with fail
        clear hown g0 g1 gf0 gf1 d0 d1 hbel
        have n0 : (wr.alloc (.cells #[.int .i64 x, .int .i64 y] 42)).cell? ⟨wr.heap.size, 0, none⟩ = some (.int .i64 x) := by simp
        have n1 : (wr.alloc (.cells #[.int .i64 x, .int .i64 y] 42)).cell? ⟨wr.heap.size, 1, none⟩ = some (.int .i64 y) := by simp
        obtain ⟨W, hW⟩ : ∃ W, wr.alloc (.cells #[.int .i64 x, .int .i64 y] 42) = W := ⟨_, rfl⟩
        have hWs : W.heap.size = wr.heap.size + 1 := by rw [← hW]; simp
        obtain ⟨R, hR⟩ : ∃ R, wr.heap.size = R := ⟨_, rfl⟩
        rw [hW] at n0 n1 a0 a1 af0 af1 hown' hbel' ⊢
        rw [hR] at n0 n1 hWs hgs ⊢
        have HWS := Lib.hid hWs
        have hWs1 : R < W.heap.size := by omega
        clear hW hR hWs
        have hwr : IntKind.i64.wrap (y - (ly + portQ (x - lx) 1000 scale 1)) = y - M := by rw [HM.out]; exact IntWalk.i64_in _ ⟨by omega, by omega⟩
        go_cut [44] (fun s44 wx => s44 = .bool (decide (slack < ((y - M).natAbs : Int))) ∧ Below W.heap.size W wx)
        case first =>
          go_region_held3 (fun w' => w'.cell? ⟨w1.heap.size, 0, none⟩ = some (.int .i64 lx) ∧ w'.cell? ⟨w1.heap.size, 1, none⟩ = some (.int .i64 ly) ∧ w'.cell? ⟨R, 0, none⟩ = some (.int .i64 x) ∧ w'.cell? ⟨R, 1, none⟩ = some (.int .i64 y))
            (first | go_keep | (refine ⟨?_, ?_, ?_, ?_⟩ <;> (rw [b3.cell (by simp; omega)]; simp [*])))
            (first
              | (go_at_call 25; refine (milliAt_any _ _ _ _ _ HLV.out.1 HLV.out.2 HSC.out HVX.out.1).mono ?_; rintro e w3 ⟨rfl, b3⟩)
              | (go_at_call 18; refine (size_any _ _ (by omega) (by omega)).mono ?_; rintro e w' ⟨rfl, rfl⟩))
          all_goals
            go_wp2_with fail
            go_meet
            exact ⟨rfl, by repeat (first | exact b3 | exact ((Below.refl _ _).drew).trans b3 | exact (Below.refl _ _).trans b3 | apply below_drewN | apply Below.drew)⟩
        case rest =>
          obtain ⟨rfl, bc⟩ := hcut
          have hWs := HWS.out
          have q0 : w1.heap.size < W.heap.size := by omega
          have q1 : R < W.heap.size := by omega
          clear hWs
          have g0 : wc.cell? ⟨w1.heap.size, 0, none⟩ = some (.int .i64 lx) := by rw [bc.cell (p := ⟨w1.heap.size, 0, none⟩) q0]; exact a0
          have g1 : wc.cell? ⟨w1.heap.size, 1, none⟩ = some (.int .i64 ly) := by rw [bc.cell (p := ⟨w1.heap.size, 1, none⟩) q0]; exact a1
          have r0 : wc.cell? ⟨R, 0, none⟩ = some (.int .i64 x) := by rw [bc.cell (p := ⟨R, 0, none⟩) q1]; exact n0
          have r1 : wc.cell? ⟨R, 1, none⟩ = some (.int .i64 y) := by rw [bc.cell (p := ⟨R, 1, none⟩) q1]; exact n1
          have gf0 : wc.frozen? ⟨w1.heap.size, 0, none⟩ = false := by rw [bc.frozen (p := ⟨w1.heap.size, 0, none⟩) q0]; exact af0
          have gf1 : wc.frozen? ⟨w1.heap.size, 1, none⟩ = false := by rw [bc.frozen (p := ⟨w1.heap.size, 1, none⟩) q0]; exact af1
          have hown := ownsRow_below hown' bc (Nat.le_refl _)
          have hbel : Below w1.heap.size w1 wc := hbel'.trans (bc.mono (by omega))
          have hgs2 : w1.heap.size < wc.heap.size := by have := bc.size; omega
          have hR2 : R < wc.heap.size := by have := bc.size; omega
          have hpk : ps.getD (k + 1) (0, 0) = (x, y) := Prod.ext HXY.out.1 HXY.out.2
          have hkeep : keepTo scale slack ps (k + 1) = if slack < ((y - M).natAbs : Int) then (ts ++ [(x, y)], (x, y)) else (ts, (lx, ly)) := by
            rw [keepTo, HK.out, hpk]
            show (if slack < ((y - (ly + portQ (x - lx) 1000 scale 1)).natAbs : Int) then _ else _) = _
            rw [HM.out]
          have HKP := Lib.hid hkeep
          clear a0 a1 n0 n1 af0 af1 hown' hbel' bc hpk hkeep hwr
          by_cases hfar : slack < ((y - M).natAbs : Int)
          · have htl := HTL.out
            have ho2 := ownsRow_setCell_below (ownsRow_setCell_below hown (a := ⟨w1.heap.size, 0, none⟩) (Nat.lt_succ_self _) (.int .i64 x)) (a := ⟨w1.heap.size, 1, none⟩) (Nat.lt_succ_self _) (.int .i64 y)
            go_wp2_with (at_builtin; refine wpList_append_own _ rfl _ _ 29 rfl (w1.heap.size + 1) 42 i0 (.agg #[.int .i64 0, .int .i64 0]) 2 16 Try.underlying29 hi hi0 hi1 hi2 rfl (by decide) _ _ _ rfl (ho2.alloc _) ⟨wc.heap.size, 0, none⟩ 1 1 [.int .i64 x, .int .i64 y] rfl rfl ?k1 ?k2 ?k3 ?k4 ?k5 ?_)
            case k1 =>
              have := World.news_of_block (cs := #[.int .i64 x, .int .i64 y]) (t := 42) (fr := (0, 0)) (heap_alloc_new ((wc.setCell ⟨w1.heap.size, 0, none⟩ (.int .i64 x)).setCell ⟨w1.heap.size, 1, none⟩ (.int .i64 y)) (.cells #[.int .i64 x, .int .i64 y] 42))
              simpa using this
            case k2 => simp [Value.oneCell']
            case k3 => unfold maxLen; omega
            case k4 => omega
            case k5 => simp; omega
            intro v' w4 hown4 hgrow4 _
            have hrow : some w1.heap.size ≠ u10.ownBlock := by
              intro h
              have := (hown.lt _ h.symm).1
              omega
            have hblk := hgrow4.block w1.heap.size (by simp; omega) hrow
            have hb4 : Below w1.heap.size w1 w4 := ((((hbel.setCell (Nat.le_refl _) _).setCell (Nat.le_refl _) _).alloc (by simp; omega) _).grown hgrow4 (by simp; omega) (fun q hq => by have := (hown.lt q hq).1; omega))
            have g0' : w4.cell? ⟨w1.heap.size, 0, none⟩ = some (.int .i64 x) := by
              rw [World.cell?_of_block (a := ⟨w1.heap.size, 0, none⟩) hblk, World.cell?_alloc_past _ _ _ (by simp; omega), World.cell?_setCell_other _ _ _ _ (by simp)]
              exact World.cell?_setCell_same _ _ _ g0
            have g1' : w4.cell? ⟨w1.heap.size, 1, none⟩ = some (.int .i64 y) := by
              rw [World.cell?_of_block (a := ⟨w1.heap.size, 1, none⟩) hblk, World.cell?_alloc_past _ _ _ (by simp; omega)]
              exact World.cell?_setCell_same _ _ _ (u := .int .i64 ly) (by rw [World.cell?_setCell_other _ _ _ _ (by simp)]; exact g1)
            have gf0' : w4.frozen? ⟨w1.heap.size, 0, none⟩ = false := by
              rw [World.frozen?_of_block (a := ⟨w1.heap.size, 0, none⟩) hblk, World.frozen?_alloc_old _ _ _ (by simp; omega), World.frozen?_setCell, World.frozen?_setCell]; exact gf0
            have gf1' : w4.frozen? ⟨w1.heap.size, 1, none⟩ = false := by
              rw [World.frozen?_of_block (a := ⟨w1.heap.size, 1, none⟩) hblk, World.frozen?_alloc_old _ _ _ (by simp; omega), World.frozen?_setCell, World.frozen?_setCell]; exact gf1
            have hgs4 : w1.heap.size < w4.heap.size := by have := hgrow4.size; simp at this; omega
            clear hgrow4 hblk hown ho2 g0 g1 gf0 gf1 r0 r1
            go_wp2_with fail
            go_roundw
            case rel =>
              refine ⟨k + 1, ts ++ [(x, y)], x, y, by omega, by go_num, ?_, g0', g1', gf0', gf1', hgs4, hb4, Lib.hid (by rw [HKP.out, if_pos hfar]), Lib.hid (by simp; omega), HVX⟩
              rw [List.length_append, List.length_singleton, pcells_snoc]
              exact hown4
            case measure => simp [intOf]; omega
          · have hd : decide (slack < ((y - M).natAbs : Int)) = false := by simp; omega
            go_wp2_with fail
            go_roundw
            case rel => exact ⟨k + 1, ts, lx, ly, by omega, by go_num, hown, g0, g1, gf0, gf1, hgs2, hbel, Lib.hid (by rw [HKP.out, if_neg hfar]), Lib.hid (by have := HTL.out; omega), HLV⟩
            case measure => simp [intOf]; omega
      · have hkn : k = n - 1 := by omega
        rw [hkn] at HK
        go_wp2_with fail
        go_ret2
        refine ⟨⟨_, ret2_vi rfl rfl, ?_⟩, b1.trans (hbel.mono b1.size)⟩
        rw [HK.out]
        exact Pairs.ofOwn hown

end Go.Proofs.Ytnjmjdbilblieab
