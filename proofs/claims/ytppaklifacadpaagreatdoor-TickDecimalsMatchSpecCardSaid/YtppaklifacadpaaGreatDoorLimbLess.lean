/- The reference's less. -/
import Derived.Test.YtppaklifacadpaaGreatDoorLimbAdd
namespace Go.Proofs.YtppaklifacadpaaGreatDoor
set_option linter.unusedVariables false
set_option linter.unusedSimpArgs false
open Go.RowKit

theorem less_step (xs bs zs : List Int) (k : Nat) (C d C' : Int) (hl : zs.length = k) (h : lval zs - 10000 ^ k * C = lval (xs.take k) - lval (bs.take k)) (hd : d - 10000 * C' = xs.getD k 0 - C - bs.getD k 0) :
    lval (zs ++ [d]) - 10000 ^ (k + 1) * C' = lval (xs.take (k + 1)) - lval (bs.take (k + 1)) := by
  rw [lval_snoc, hl, lval_take_succ, lval_take_succ, lpow_succ]
  have e2 : (10000 : Int) ^ k * (d - 10000 * C') = 10000 ^ k * (xs.getD k 0 - C - bs.getD k 0) := by rw [hd]
  rw [Int.mul_sub, Int.mul_sub, Int.mul_sub] at e2
  have e3 : (10000 : Int) ^ k * (10000 * C') = 10000 * 10000 ^ k * C' := by rw [← Int.mul_assoc, Int.mul_comm (10000 ^ k) 10000]
  omega

theorem less_last (xs bs zs : List Int) (k : Nat) (C : Int) (hl : zs.length = k) (dz : Digs zs) (hC : 0 ≤ C) (hC1 : C ≤ 1) (hk : xs.length = k) (hb : bs.length ≤ k) (hle : lval bs ≤ lval xs) (h : lval zs - 10000 ^ k * C = lval (xs.take k) - lval (bs.take k)) :
    lval zs = lval xs - lval bs := by
  rw [List.take_of_length_le (by omega), List.take_of_length_le (by omega)] at h
  have b0 := lval_bd zs dz
  rw [hl] at b0
  by_cases h1 : C = 0
  · rw [h1] at h; simp at h; exact h
  · have h2 : C = 1 := by omega
    rw [h2] at h; simp at h; omega

set_option maxHeartbeats 4000000 in
theorem less_walk (u v : Value) (xs bs : List Int) (w : World) (n m c c' : Nat) (p p' : Option Addr) (hu : u = .slice p n c) (hv : v = .slice p' m c') (ha : xs.length = n) (hb : bs.length = m) (hn : n ≤ 1000) (hm : m ≤ n) (da : Digs xs) (db : Digs bs) (hle : lval bs ≤ lval xs)
    (hP : 0 < n → ∃ b o, p = some ⟨b, o, none⟩ ∧ b < w.heap.size ∧ n ≤ c ∧ c ≤ maxLen ∧ ∀ j, j < n → w.cell? ⟨b, o + j, none⟩ = some (.int .i64 (xs.getD j 0)))
    (hQ : 0 < m → ∃ b o, p' = some ⟨b, o, none⟩ ∧ b < w.heap.size ∧ m ≤ c' ∧ c' ≤ maxLen ∧ ∀ j, j < m → w.cell? ⟨b, o + j, none⟩ = some (.int .i64 (bs.getD j 0))) :
    Calls Tryz.prog 66 #[u, v] w fun e w' => (∃ r, e = .returned r ∧ ∃ zs, Lim w' r zs ∧ Canon zs ∧ lval zs = lval xs - lval bs ∧ zs.length ≤ n) ∧ Below w.heap.size w w' := by
  obtain ⟨i0, hi, hi0, hi1, hi2⟩ := info_parts Tryz.infoLimb
  subst hu hv
  have HA := Lib.hid ha; have HB := Lib.hid hb; have DA := Lib.hid da; have DB := Lib.hid db; have HP := Lib.hid hP; have HQ := Lib.hid hQ; have HLE := Lib.hid hle
  clear ha hb da db hP hQ hle
  go_enter Tryz.func66, Tryz.ntmps66
  go_wp2_with fail
  go_loopw [5, 6, 7] (fun o cy i wr => ∃ (k : Nat) (C : Int) (zs : List Int), k ≤ n ∧ cy = .int .i64 C ∧ i = .int .i64 k ∧ 0 ≤ C ∧ C ≤ 1 ∧ wr.ownsRow w.heap.size 3 1 o k (zs.map (Value.int .i64)) ∧ w.heap.size ≤ wr.heap.size ∧ Below w.heap.size w wr ∧ Hid (zs.length = k) ∧ Hid (Digs zs) ∧ Hid (lval zs - 10000 ^ k * C = lval (xs.take k) - lval (bs.take k))) (fun _ _ i _ => n - (intOf i).toNat)
  case atStart => exact ⟨0, 0, [], Nat.zero_le _, rfl, rfl, by omega, by omega, World.ownsRow_nil _ _ _ _, Nat.le_refl _, Below.refl _ _, Lib.hid rfl, Lib.hid Digs.nil, Lib.hid (by simp [lval])⟩
  case round =>
    obtain ⟨k, C, zs, hk, rfl, rfl, hC0, hC1, hown, hsz, hbel, HL, HD, HV⟩ := hrel
    have HST := Lib.hid (fun d C' => less_step xs bs zs k C d C' HL.out HV.out)
    by_cases hkn : k < n
    · obtain ⟨b, o, rfl, hlt, hcl, hcm, hc⟩ := HP.out (by omega)
      obtain ⟨x, hx⟩ : ∃ x, xs.getD k 0 = x := ⟨_, rfl⟩
      have dx := DA.out k (by rw [HA.out]; exact hkn)
      have hcell : wr.cell? ⟨b, o + k, none⟩ = some (.int .i64 x) := by rw [hbel.cell (p := ⟨b, o + k, none⟩) hlt, hc k hkn, hx]
      have HX := Lib.hid hx
      rw [hx] at dx
      obtain ⟨x0, x1⟩ := dx
      clear hx hc
      by_cases hkm : k < m
      · obtain ⟨b', o', rfl, hlt', hcl', hcm', hc'⟩ := HQ.out (by omega)
        obtain ⟨y, hy⟩ : ∃ y, bs.getD k 0 = y := ⟨_, rfl⟩
        have dy := DB.out k (by rw [HB.out]; exact hkm)
        have hcell' : wr.cell? ⟨b', o' + k, none⟩ = some (.int .i64 y) := by rw [hbel.cell (p := ⟨b', o' + k, none⟩) hlt', hc' k hkm, hy]
        have HY := Lib.hid hy
        rw [hy] at dy
        obtain ⟨y0, y1⟩ := dy
        clear hy hc'
        by_cases hneg : x - C - y < 0
        · have hstep := HST.out (x - C - y + 10000) 1 (by rw [HX.out, HY.out]; omega)
          have r0 : 0 ≤ x - C - y + 10000 := by omega
          have r1 : x - C - y + 10000 < 10000 := by omega
          have HSTEP := Lib.hid hstep
          clear hstep
          go_wp2_with (at_builtin; refine wpList_append_own _ rfl _ _ 35 rfl w.heap.size 3 i0 (.int .i64 0) 1 8 Tryz.underlying35 hi hi0 hi1 hi2 rfl (by decide) _ _ _ rfl (hown.alloc _) ⟨wr.heap.size, 0, none⟩ 1 1 [.int .i64 (x - C - y + 10000)] rfl rfl ?b1a ?b2a ?b3a ?b4a ?b5a ?_)
          case b1a =>
            have := World.news_of_block (cs := #[.int .i64 (x - C - y + 10000)]) (t := 3) (fr := (0, 0)) (heap_alloc_new wr (.cells #[.int .i64 (x - C - y + 10000)] 3))
            simpa using this
          case b2a => simp [Value.oneCell']
          case b3a => unfold maxLen; omega
          case b4a => omega
          case b5a => first | omega | (simp; omega)
          intro v' w2 hown1 hgrow _
          have hb2 : Below w.heap.size w w2 := ((hbel.alloc (by omega) _).grown hgrow (by simp; omega) (fun q hq => (hown.lt q hq).1))
          have hs2 : w.heap.size ≤ w2.heap.size := by have := hgrow.size; simp at this; omega
          clear hgrow hown
          go_wp2_with fail
          go_roundw
          case rel =>
            refine ⟨k + 1, 1, zs ++ [x - C - y + 10000], by omega, rfl, by go_num, by omega, by omega, ?_, hs2, hb2, Lib.hid (by rw [List.length_append, HL.out]; rfl), Lib.hid (HD.out.snoc r0 r1), HSTEP⟩
            simpa using hown1
          case measure => simp [intOf]; omega
        · have hstep := HST.out (x - C - y) 0 (by rw [HX.out, HY.out]; omega)
          have r0 : 0 ≤ x - C - y := by omega
          have r1 : x - C - y < 10000 := by omega
          have hdec : decide (x - C - y < 0) = false := by simp only [decide_eq_false_iff_not]; exact hneg
          have HSTEP := Lib.hid hstep
          clear hstep
          go_wp2_with (at_builtin; refine wpList_append_own _ rfl _ _ 35 rfl w.heap.size 3 i0 (.int .i64 0) 1 8 Tryz.underlying35 hi hi0 hi1 hi2 rfl (by decide) _ _ _ rfl (hown.alloc _) ⟨wr.heap.size, 0, none⟩ 1 1 [.int .i64 (x - C - y)] rfl rfl ?b1b ?b2b ?b3b ?b4b ?b5b ?_)
          case b2b => simp [Value.oneCell']
          case b3b => unfold maxLen; omega
          case b4b => omega
          case b5b => first | omega | (simp; omega)
          intro v' w2 hown1 hgrow _
          have hb2 : Below w.heap.size w w2 := ((hbel.alloc (by omega) _).grown hgrow (by simp; omega) (fun q hq => (hown.lt q hq).1))
          have hs2 : w.heap.size ≤ w2.heap.size := by have := hgrow.size; simp at this; omega
          clear hgrow hown
          go_wp2_with fail
          go_roundw
          case rel =>
            refine ⟨k + 1, 0, zs ++ [x - C - y], by omega, rfl, by go_num, by omega, by omega, ?_, hs2, hb2, Lib.hid (by rw [List.length_append, HL.out]; rfl), Lib.hid (HD.out.snoc r0 r1), HSTEP⟩
            simpa using hown1
          case measure => simp [intOf]; omega
      · have HY := Lib.hid (lget_past bs k (by rw [HB.out]; omega))
        have hd2 : decide (k < m) = false := by simp; omega
        by_cases hneg : x - C < 0
        · have hstep := HST.out (x - C + 10000) 1 (by rw [HX.out, HY.out]; omega)
          have r0 : 0 ≤ x - C + 10000 := by omega
          have r1 : x - C + 10000 < 10000 := by omega
          have HSTEP := Lib.hid hstep
          clear hstep
          go_wp2_with (at_builtin; refine wpList_append_own _ rfl _ _ 35 rfl w.heap.size 3 i0 (.int .i64 0) 1 8 Tryz.underlying35 hi hi0 hi1 hi2 rfl (by decide) _ _ _ rfl (hown.alloc _) ⟨wr.heap.size, 0, none⟩ 1 1 [.int .i64 (x - C + 10000)] rfl rfl ?b1c ?b2c ?b3c ?b4c ?b5c ?_)
          case b1c =>
            have := World.news_of_block (cs := #[.int .i64 (x - C + 10000)]) (t := 3) (fr := (0, 0)) (heap_alloc_new wr (.cells #[.int .i64 (x - C + 10000)] 3))
            simpa using this
          case b2c => simp [Value.oneCell']
          case b3c => unfold maxLen; omega
          case b4c => omega
          case b5c => first | omega | (simp; omega)
          intro v' w2 hown1 hgrow _
          have hb2 : Below w.heap.size w w2 := ((hbel.alloc (by omega) _).grown hgrow (by simp; omega) (fun q hq => (hown.lt q hq).1))
          have hs2 : w.heap.size ≤ w2.heap.size := by have := hgrow.size; simp at this; omega
          clear hgrow hown
          go_wp2_with fail
          go_roundw
          case rel =>
            refine ⟨k + 1, 1, zs ++ [x - C + 10000], by omega, rfl, by go_num, by omega, by omega, ?_, hs2, hb2, Lib.hid (by rw [List.length_append, HL.out]; rfl), Lib.hid (HD.out.snoc r0 r1), HSTEP⟩
            simpa using hown1
          case measure => simp [intOf]; omega
        · have hstep := HST.out (x - C) 0 (by rw [HX.out, HY.out]; omega)
          have r0 : 0 ≤ x - C := by omega
          have r1 : x - C < 10000 := by omega
          have hdec : decide (x - C < 0) = false := by simp only [decide_eq_false_iff_not]; exact hneg
          have HSTEP := Lib.hid hstep
          clear hstep
          go_wp2_with (at_builtin; refine wpList_append_own _ rfl _ _ 35 rfl w.heap.size 3 i0 (.int .i64 0) 1 8 Tryz.underlying35 hi hi0 hi1 hi2 rfl (by decide) _ _ _ rfl (hown.alloc _) ⟨wr.heap.size, 0, none⟩ 1 1 [.int .i64 (x - C)] rfl rfl ?b1d ?b2d ?b3d ?b4d ?b5d ?_)
          case b2d => simp [Value.oneCell']
          case b3d => unfold maxLen; omega
          case b4d => omega
          case b5d => first | omega | (simp; omega)
          intro v' w2 hown1 hgrow _
          have hb2 : Below w.heap.size w w2 := ((hbel.alloc (by omega) _).grown hgrow (by simp; omega) (fun q hq => (hown.lt q hq).1))
          have hs2 : w.heap.size ≤ w2.heap.size := by have := hgrow.size; simp at this; omega
          clear hgrow hown
          go_wp2_with fail
          go_roundw
          case rel =>
            refine ⟨k + 1, 0, zs ++ [x - C], by omega, rfl, by go_num, by omega, by omega, ?_, hs2, hb2, Lib.hid (by rw [List.length_append, HL.out]; rfl), Lib.hid (HD.out.snoc r0 r1), HSTEP⟩
            simpa using hown1
          case measure => simp [intOf]; omega
    · have hkn2 : k = n := by omega
      have hlast := less_last xs bs zs k C HL.out HD.out hC0 hC1 (by rw [HA.out]; omega) (by rw [HB.out]; omega) HLE.out HV.out
      have HLAST := Lib.hid hlast
      have hlim : Lim wr u5 zs := Lim.ofOwn (base := w.heap.size) (e := 3) (by rw [HL.out]; exact hown)
      clear hlast hown
      go_wp2_with fail
      refine (trim_any _ zs _ hlim).mono ?_
      rintro e w' ⟨⟨r, rfl, hr⟩, rfl⟩
      go_wp2_with fail
      go_ret
      refine ⟨⟨_, rfl, trimL zs, hr, trimL_canon _ HD.out, by rw [trimL_val]; exact HLAST.out, ?_⟩, hbel⟩
      rw [trimL_len]
      have := trimN_le zs zs.length
      have := HL.out
      omega

theorem less_any (u v : Value) (xs bs : List Int) (w : World) (hu : Lim w u xs) (hv : Lim w v bs) (da : Canon xs) (db : Canon bs) (hn : xs.length ≤ 1000) (hle : lval bs ≤ lval xs) :
    Calls Tryz.prog 66 #[u, v] w fun e w' => (∃ r, e = .returned r ∧ ∃ zs, Lim w' r zs ∧ Canon zs ∧ lval zs = lval xs - lval bs ∧ zs.length ≤ xs.length) ∧ Below w.heap.size w w' := by
  obtain ⟨a1, c1, e1, l1, m1⟩ := hu.parts
  obtain ⟨a2, c2, e2, l2, m2⟩ := hv.parts
  have hm : bs.length ≤ xs.length := by
    apply Decidable.byContradiction; intro h
    have := canon_short xs bs da db (by omega)
    omega
  refine less_walk u v xs bs w _ _ c1 c2 a1 a2 e1 e2 rfl rfl hn hm da.1 db.1 hle (fun h0 => ?_) (fun h0 => ?_)
  · rcases hu with ⟨a, c, h, hcm, rfl⟩ | ⟨b, o, c, h, hne, hlt, hl, hm, hc⟩
    · simp at h0
    · rw [h] at e1
      simp only [Value.slice.injEq] at e1
      obtain ⟨rfl, -, rfl⟩ := e1
      exact ⟨b, o, rfl, hlt, hl, hm, hc⟩
  · rcases hv with ⟨a, c, h, hcm, rfl⟩ | ⟨b, o, c, h, hne, hlt, hl, hm, hc⟩
    · simp at h0
    · rw [h] at e2
      simp only [Value.slice.injEq] at e2
      obtain ⟨rfl, -, rfl⟩ := e2
      exact ⟨b, o, rfl, hlt, hl, hm, hc⟩

end Go.Proofs.YtppaklifacadpaaGreatDoor
