/- The reference's add. -/
import Derived.Test.YtppaklifacadpaaGreatDoorLimbCmp
import Derived.Deep.AppendLies
namespace Go.Proofs.YtppaklifacadpaaGreatDoor
set_option linter.unusedVariables false
set_option linter.unusedSimpArgs false
open Go.RowKit

theorem Tryz.infoLimb : (Tryz.prog.info? 3).map (fun i => (i.zero, i.size, i.bytes)) = some (some (.int .i64 0), 1, 8) := by kernel_rfl

theorem canon_of (zs : List Int) (h : Digs zs) (h2 : 0 < zs.length → 10000 ^ (zs.length - 1) ≤ lval zs) : Canon zs := by
  refine ⟨h, fun h0 hz => ?_⟩
  have h3 := h2 h0
  obtain ⟨k, hk⟩ : ∃ k, zs.length = k + 1 := ⟨zs.length - 1, by omega⟩
  have h4 := lval_take_succ zs k
  rw [List.take_of_length_le (by omega)] at h4
  rw [hk, Nat.add_sub_cancel] at hz h3
  have h5 := lval_bd (zs.take k) (h.take k)
  rw [List.length_take, Nat.min_eq_left (by omega)] at h5
  rw [hz] at h4
  omega

theorem add_step (xs bs zs : List Int) (k : Nat) (C : Int) (hl : zs.length = k) (h : lval zs + 10000 ^ k * C = lval (xs.take k) + lval (bs.take k)) :
    lval (zs ++ [(C + xs.getD k 0 + bs.getD k 0) % 10000]) + 10000 ^ (k + 1) * ((C + xs.getD k 0 + bs.getD k 0) / 10000) = lval (xs.take (k + 1)) + lval (bs.take (k + 1)) := by
  rw [lval_snoc, hl, lval_take_succ, lval_take_succ, lpow_succ]
  have e := Int.emod_add_mul_ediv (C + xs.getD k 0 + bs.getD k 0) 10000
  generalize (C + xs.getD k 0 + bs.getD k 0) % 10000 = r at e
  generalize (C + xs.getD k 0 + bs.getD k 0) / 10000 = q at e
  have e2 : (10000 : Int) ^ k * (r + 10000 * q) = 10000 ^ k * (C + xs.getD k 0 + bs.getD k 0) := by rw [e]
  rw [Int.mul_add, Int.mul_add, Int.mul_add] at e2
  have e3 : (10000 : Int) ^ k * (10000 * q) = 10000 * 10000 ^ k * q := by rw [← Int.mul_assoc, Int.mul_comm (10000 ^ k) 10000]
  omega

theorem add_last (xs bs zs : List Int) (k : Nat) (C : Int) (da : Canon xs) (db : Canon bs) (hl : zs.length = k) (dz : Digs zs) (hC : 0 ≤ C) (hC1 : C ≤ 1) (hk : k = max xs.length bs.length) (h : lval zs + 10000 ^ k * C = lval (xs.take k) + lval (bs.take k)) :
    (C = 0 → Canon zs ∧ lval zs = lval xs + lval bs) ∧ (C = 1 → Canon (zs ++ [1]) ∧ lval (zs ++ [1]) = lval xs + lval bs) := by
  rw [List.take_of_length_le (by omega), List.take_of_length_le (by omega)] at h
  have a0 := lval_bd xs da.1
  have b0 := lval_bd bs db.1
  constructor
  · rintro rfl
    have hv : lval zs = lval xs + lval bs := by simpa using h
    refine ⟨canon_of zs dz fun h0 => ?_, hv⟩
    rw [hl]
    rcases Nat.le_total xs.length bs.length with hab | hab
    · have := canon_low bs db (by omega)
      rw [show k - 1 = bs.length - 1 by omega]; omega
    · have := canon_low xs da (by omega)
      rw [show k - 1 = xs.length - 1 by omega]; omega
  · rintro rfl
    have hv : lval (zs ++ [1]) = lval xs + lval bs := by rw [lval_snoc, hl]; exact h
    refine ⟨⟨dz.snoc (by omega) (by omega), fun _ => ?_⟩, hv⟩
    rw [lget_new _ _ _ (by simp)]; decide

set_option maxHeartbeats 4000000 in
theorem add_walk (u v : Value) (xs bs : List Int) (w : World) (n m c c' : Nat) (p p' : Option Addr) (hu : u = .slice p n c) (hv : v = .slice p' m c') (ha : xs.length = n) (hb : bs.length = m) (hn : n ≤ 1000) (hm : m ≤ 1000) (da : Canon xs) (db : Canon bs)
    (hP : 0 < n → ∃ b o, p = some ⟨b, o, none⟩ ∧ b < w.heap.size ∧ n ≤ c ∧ c ≤ maxLen ∧ ∀ j, j < n → w.cell? ⟨b, o + j, none⟩ = some (.int .i64 (xs.getD j 0)))
    (hQ : 0 < m → ∃ b o, p' = some ⟨b, o, none⟩ ∧ b < w.heap.size ∧ m ≤ c' ∧ c' ≤ maxLen ∧ ∀ j, j < m → w.cell? ⟨b, o + j, none⟩ = some (.int .i64 (bs.getD j 0))) :
    Calls Tryz.prog 46 #[u, v] w fun e w' => (∃ r, e = .returned r ∧ ∃ zs, Lim w' r zs ∧ Canon zs ∧ lval zs = lval xs + lval bs ∧ zs.length ≤ max n m + 1) ∧ Below w.heap.size w w' := by
  obtain ⟨i0, hi, hi0, hi1, hi2⟩ := info_parts Tryz.infoLimb
  subst hu hv
  have HA := Lib.hid ha; have HB := Lib.hid hb; have DA := Lib.hid da; have DB := Lib.hid db; have HP := Lib.hid hP; have HQ := Lib.hid hQ
  clear ha hb da db hP hQ
  go_enter Tryz.func46, Tryz.ntmps46
  go_wp2_with fail
  go_loopw [5, 6, 7] (fun o cy i wr => ∃ (k : Nat) (C : Int) (zs : List Int), k ≤ max n m ∧ cy = .int .i64 C ∧ i = .int .i64 k ∧ 0 ≤ C ∧ C ≤ 1 ∧ wr.ownsRow w.heap.size 3 1 o k (zs.map (Value.int .i64)) ∧ w.heap.size ≤ wr.heap.size ∧ Below w.heap.size w wr ∧ Hid (zs.length = k) ∧ Hid (Digs zs) ∧ Hid (lval zs + 10000 ^ k * C = lval (xs.take k) + lval (bs.take k))) (fun _ _ i _ => max n m - (intOf i).toNat)
  case atStart => exact ⟨0, 0, [], Nat.zero_le _, rfl, rfl, by omega, by omega, World.ownsRow_nil _ _ _ _, Nat.le_refl _, Below.refl _ _, Lib.hid rfl, Lib.hid Digs.nil, Lib.hid (by simp [lval])⟩
  case round =>
    obtain ⟨k, C, zs, hk, rfl, rfl, hC0, hC1, hown, hsz, hbel, HL, HD, HV⟩ := hrel
    have HST := Lib.hid (add_step xs bs zs k C HL.out HV.out)
    by_cases hkn : k < n
    · obtain ⟨b, o, rfl, hlt, hcl, hcm, hc⟩ := HP.out (by omega)
      obtain ⟨x, hx⟩ : ∃ x, xs.getD k 0 = x := ⟨_, rfl⟩
      have dx := DA.out.1 k (by rw [HA.out]; exact hkn)
      have hcell : wr.cell? ⟨b, o + k, none⟩ = some (.int .i64 x) := by rw [hbel.cell (p := ⟨b, o + k, none⟩) hlt, hc k hkn, hx]
      have HX := Lib.hid hx
      rw [hx] at dx
      obtain ⟨x0, x1⟩ := dx
      clear hx hc
      by_cases hkm : k < m
      · obtain ⟨b', o', rfl, hlt', hcl', hcm', hc'⟩ := HQ.out (by omega)
        obtain ⟨y, hy⟩ : ∃ y, bs.getD k 0 = y := ⟨_, rfl⟩
        have dy := DB.out.1 k (by rw [HB.out]; exact hkm)
        have hcell' : wr.cell? ⟨b', o' + k, none⟩ = some (.int .i64 y) := by rw [hbel.cell (p := ⟨b', o' + k, none⟩) hlt', hc' k hkm, hy]
        have HY := Lib.hid hy
        rw [hy] at dy
        obtain ⟨y0, y1⟩ := dy
        clear hy hc'
        rw [HX.out, HY.out] at HST
        obtain ⟨S, hS⟩ : ∃ S, C + x + y = S := ⟨_, rfl⟩
        have HS : Hid (C + x + y = S) := Lib.hid (by omega)
        have s0 : 0 ≤ S := by omega
        have s1 : S < 20000 := by omega
        have hm0 : S.tmod 10000 = S % 10000 := Int.tmod_eq_emod_of_nonneg s0
        have hq0 : S.tdiv 10000 = S / 10000 := Int.tdiv_eq_ediv_of_nonneg s0
        have hr0 : 0 ≤ S % 10000 := Int.emod_nonneg _ (by omega)
        have hr1 : S % 10000 < 10000 := Int.emod_lt_of_pos _ (by omega)
        have HS2 := HST.out
        rw [HS.out] at HS2
        have HSTEP := Lib.hid HS2
        have HSS := Lib.hid hS
        clear HS2 hS
        go_upto_region 11 with fail
        rw [HSS.out]
        go_wp2_with (at_builtin; refine wpList_append_own _ rfl _ _ 35 rfl w.heap.size 3 i0 (.int .i64 0) 1 8 Tryz.underlying35 hi hi0 hi1 hi2 rfl (by decide) _ _ _ rfl (hown.alloc _) ⟨wr.heap.size, 0, none⟩ 1 1 [.int .i64 (S % 10000)] rfl rfl ?b1a ?b2a ?b3a ?b4a ?b5a ?_)
        case b1a =>
          have := World.news_of_block (cs := #[.int .i64 (S % 10000)]) (t := 3) (fr := (0, 0)) (heap_alloc_new wr (.cells #[.int .i64 (S % 10000)] 3))
          simpa using this
        case b2a => simp [Value.oneCell']
        case b3a => unfold maxLen; omega
        case b4a => omega
        case b5a => first | omega | (simp; omega)
        intro v' w2 hown1 hgrow _
        have hb2 : Below w.heap.size w w2 := ((hbel.alloc (by omega) _).grown hgrow (by simp; omega) (fun q hq => (hown.lt q hq).1))
        have hs2 : w.heap.size ≤ w2.heap.size := by have := hgrow.size; simp at this; omega
        clear hgrow hown
        go_wp2_with fail
        go_roundw
        case rel =>
          refine ⟨k + 1, S / 10000, zs ++ [S % 10000], by omega, by go_num, by go_num, by omega, by omega, ?_, hs2, hb2, Lib.hid (by rw [List.length_append, HL.out]; rfl), Lib.hid (HD.out.snoc hr0 hr1), HSTEP⟩
          simpa using hown1
        case measure => simp [intOf]; omega
      · have HY := Lib.hid (lget_past bs k (by rw [HB.out]; omega))
        have hd2 : decide (k < m) = false := by simp; omega
        rw [HX.out, HY.out] at HST
        obtain ⟨S, hS⟩ : ∃ S, C + x = S := ⟨_, rfl⟩
        have HS : Hid (C + x + 0 = S) := Lib.hid (by omega)
        have s0 : 0 ≤ S := by omega
        have s1 : S < 20000 := by omega
        have hm0 : S.tmod 10000 = S % 10000 := Int.tmod_eq_emod_of_nonneg s0
        have hq0 : S.tdiv 10000 = S / 10000 := Int.tdiv_eq_ediv_of_nonneg s0
        have hr0 : 0 ≤ S % 10000 := Int.emod_nonneg _ (by omega)
        have hr1 : S % 10000 < 10000 := Int.emod_lt_of_pos _ (by omega)
        have HS2 := HST.out
        rw [HS.out] at HS2
        have HSTEP := Lib.hid HS2
        have HSS := Lib.hid hS
        clear HS2 hS
        go_upto_region 11 with fail
        rw [HSS.out]
        go_wp2_with (at_builtin; refine wpList_append_own _ rfl _ _ 35 rfl w.heap.size 3 i0 (.int .i64 0) 1 8 Tryz.underlying35 hi hi0 hi1 hi2 rfl (by decide) _ _ _ rfl (hown.alloc _) ⟨wr.heap.size, 0, none⟩ 1 1 [.int .i64 (S % 10000)] rfl rfl ?b1b ?b2b ?b3b ?b4b ?b5b ?_)
        case b1b =>
          have := World.news_of_block (cs := #[.int .i64 (S % 10000)]) (t := 3) (fr := (0, 0)) (heap_alloc_new wr (.cells #[.int .i64 (S % 10000)] 3))
          simpa using this
        case b2b => simp [Value.oneCell']
        case b3b => unfold maxLen; omega
        case b4b => omega
        case b5b => first | omega | (simp; omega)
        intro v' w2 hown1 hgrow _
        have hb2 : Below w.heap.size w w2 := ((hbel.alloc (by omega) _).grown hgrow (by simp; omega) (fun q hq => (hown.lt q hq).1))
        have hs2 : w.heap.size ≤ w2.heap.size := by have := hgrow.size; simp at this; omega
        clear hgrow hown
        go_wp2_with fail
        go_roundw
        case rel =>
          refine ⟨k + 1, S / 10000, zs ++ [S % 10000], by omega, by go_num, by go_num, by omega, by omega, ?_, hs2, hb2, Lib.hid (by rw [List.length_append, HL.out]; rfl), Lib.hid (HD.out.snoc hr0 hr1), HSTEP⟩
          simpa using hown1
        case measure => simp [intOf]; omega
    · have hd1 : decide (k < n) = false := by simp; omega
      have HX := Lib.hid (lget_past xs k (by rw [HA.out]; omega))
      by_cases hkm : k < m
      · obtain ⟨b', o', rfl, hlt', hcl', hcm', hc'⟩ := HQ.out (by omega)
        obtain ⟨y, hy⟩ : ∃ y, bs.getD k 0 = y := ⟨_, rfl⟩
        have dy := DB.out.1 k (by rw [HB.out]; exact hkm)
        have hcell' : wr.cell? ⟨b', o' + k, none⟩ = some (.int .i64 y) := by rw [hbel.cell (p := ⟨b', o' + k, none⟩) hlt', hc' k hkm, hy]
        have HY := Lib.hid hy
        rw [hy] at dy
        obtain ⟨y0, y1⟩ := dy
        clear hy hc'
        rw [HX.out, HY.out] at HST
        obtain ⟨S, hS⟩ : ∃ S, C + y = S := ⟨_, rfl⟩
        have HS : Hid (C + 0 + y = S) := Lib.hid (by omega)
        have s0 : 0 ≤ S := by omega
        have s1 : S < 20000 := by omega
        have hm0 : S.tmod 10000 = S % 10000 := Int.tmod_eq_emod_of_nonneg s0
        have hq0 : S.tdiv 10000 = S / 10000 := Int.tdiv_eq_ediv_of_nonneg s0
        have hr0 : 0 ≤ S % 10000 := Int.emod_nonneg _ (by omega)
        have hr1 : S % 10000 < 10000 := Int.emod_lt_of_pos _ (by omega)
        have HS2 := HST.out
        rw [HS.out] at HS2
        have HSTEP := Lib.hid HS2
        have HSS := Lib.hid hS
        clear HS2 hS
        go_upto_region 11 with fail
        rw [HSS.out]
        go_wp2_with (at_builtin; refine wpList_append_own _ rfl _ _ 35 rfl w.heap.size 3 i0 (.int .i64 0) 1 8 Tryz.underlying35 hi hi0 hi1 hi2 rfl (by decide) _ _ _ rfl (hown.alloc _) ⟨wr.heap.size, 0, none⟩ 1 1 [.int .i64 (S % 10000)] rfl rfl ?b1c ?b2c ?b3c ?b4c ?b5c ?_)
        case b1c =>
          have := World.news_of_block (cs := #[.int .i64 (S % 10000)]) (t := 3) (fr := (0, 0)) (heap_alloc_new wr (.cells #[.int .i64 (S % 10000)] 3))
          simpa using this
        case b2c => simp [Value.oneCell']
        case b3c => unfold maxLen; omega
        case b4c => omega
        case b5c => first | omega | (simp; omega)
        intro v' w2 hown1 hgrow _
        have hb2 : Below w.heap.size w w2 := ((hbel.alloc (by omega) _).grown hgrow (by simp; omega) (fun q hq => (hown.lt q hq).1))
        have hs2 : w.heap.size ≤ w2.heap.size := by have := hgrow.size; simp at this; omega
        clear hgrow hown
        go_wp2_with fail
        go_roundw
        case rel =>
          refine ⟨k + 1, S / 10000, zs ++ [S % 10000], by omega, by go_num, by go_num, by omega, by omega, ?_, hs2, hb2, Lib.hid (by rw [List.length_append, HL.out]; rfl), Lib.hid (HD.out.snoc hr0 hr1), HSTEP⟩
          simpa using hown1
        case measure => simp [intOf]; omega
      · have hd2 : decide (k < m) = false := by simp; omega
        have hlast := add_last xs bs zs k C DA.out DB.out HL.out HD.out hC0 hC1 (by rw [HA.out, HB.out]; omega) HV.out
        have HLAST := Lib.hid hlast
        clear hlast
        by_cases hC : 0 < C
        · have hC2 : C = 1 := by omega
          subst hC2
          go_wp2_with (at_builtin; refine wpList_append_own _ rfl _ _ 35 rfl w.heap.size 3 i0 (.int .i64 0) 1 8 Tryz.underlying35 hi hi0 hi1 hi2 rfl (by decide) _ _ _ rfl (hown.alloc _) ⟨wr.heap.size, 0, none⟩ 1 1 [.int .i64 1] rfl rfl ?e1 ?e2 ?e3 ?e4 ?e5 ?_)
          case e2 => simp [Value.oneCell']
          case e3 => unfold maxLen; omega
          case e4 => omega
          case e5 => first | omega | (simp; omega)
          intro v' w2 hown1 hgrow _
          have hb2 : Below w.heap.size w w2 := ((hbel.alloc (by omega) _).grown hgrow (by simp; omega) (fun q hq => (hown.lt q hq).1))
          clear hgrow hown
          go_wp2_with fail
          go_ret
          obtain ⟨l1, l2⟩ := HLAST.out.2 (by first | rfl | trivial | decide)
          refine ⟨⟨_, rfl, zs ++ [1], ?_, l1, l2, by rw [List.length_append, HL.out]; simp; omega⟩, hb2⟩
          refine Lim.ofOwn (base := w.heap.size) (e := 3) ?_
          rw [List.length_append, HL.out]
          simpa using hown1
        · have hC2 : C = 0 := by omega
          subst hC2
          go_wp2_with fail
          go_ret
          obtain ⟨l1, l2⟩ := HLAST.out.1 (by first | rfl | trivial | decide)
          exact ⟨⟨_, rfl, zs, Lim.ofOwn (base := w.heap.size) (e := 3) (by rw [HL.out]; exact hown), l1, l2, by rw [HL.out]; omega⟩, hbel⟩

theorem add_any (u v : Value) (xs bs : List Int) (w : World) (hu : Lim w u xs) (hv : Lim w v bs) (da : Canon xs) (db : Canon bs) (hn : xs.length ≤ 1000) (hm : bs.length ≤ 1000) :
    Calls Tryz.prog 46 #[u, v] w fun e w' => (∃ r, e = .returned r ∧ ∃ zs, Lim w' r zs ∧ Canon zs ∧ lval zs = lval xs + lval bs ∧ zs.length ≤ max xs.length bs.length + 1) ∧ Below w.heap.size w w' := by
  obtain ⟨a1, c1, e1, l1, m1⟩ := hu.parts
  obtain ⟨a2, c2, e2, l2, m2⟩ := hv.parts
  refine add_walk u v xs bs w _ _ c1 c2 a1 a2 e1 e2 rfl rfl hn hm da db (fun h0 => ?_) (fun h0 => ?_)
  · rcases hu with ⟨a, c, h, hcm, rfl⟩ | ⟨b, o, c, h, hne, hlt, hl, hm, hc⟩
    · simp at h0
    · rw [h] at e1
      simp only [Value.slice.injEq] at e1
      obtain ⟨rfl, -, rfl⟩ := e1
      exact ⟨b, o, rfl, hlt, hl, hm, hc⟩
  · rcases hv with ⟨a, c, h, hcm, rfl⟩ | ⟨b, o, c, h, hne, hlt, hl, hm, hc⟩
    · simp at h0
    · rw [h] at e2
      simp only [Value.slice.injEq] at e2
      obtain ⟨rfl, -, rfl⟩ := e2
      exact ⟨b, o, rfl, hlt, hl, hm, hc⟩

end Go.Proofs.YtppaklifacadpaaGreatDoor
