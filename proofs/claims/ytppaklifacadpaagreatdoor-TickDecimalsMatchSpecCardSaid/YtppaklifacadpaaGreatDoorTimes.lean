/- The reference's times and small. -/
import Derived.Test.YtppaklifacadpaaGreatDoorLimbLess
import Derived.Test.YtppaklifacadpaaGreatDoorTimesPlain
namespace Go.Proofs.YtppaklifacadpaaGreatDoor
set_option linter.unusedVariables false
set_option linter.unusedSimpArgs false
open Go.RowKit

set_option maxHeartbeats 4000000 in
theorem times_walk (u v : Value) (xs bs : List Int) (w : World) (n m N c c' : Nat) (p p' : Option Addr) (hu : u = .slice p n c) (hv : v = .slice p' m c') (ha : xs.length = n) (hb : bs.length = m) (hN : N = n + m) (hn : n ≤ 1000) (hm : m ≤ 1000) (da : Digs xs) (db : Digs bs)
    (hP : 0 < n → ∃ b o, p = some ⟨b, o, none⟩ ∧ b < w.heap.size ∧ n ≤ c ∧ c ≤ maxLen ∧ ∀ j, j < n → w.cell? ⟨b, o + j, none⟩ = some (.int .i64 (xs.getD j 0)))
    (hQ : 0 < m → ∃ b o, p' = some ⟨b, o, none⟩ ∧ b < w.heap.size ∧ m ≤ c' ∧ c' ≤ maxLen ∧ ∀ j, j < m → w.cell? ⟨b, o + j, none⟩ = some (.int .i64 (bs.getD j 0))) :
    Calls Tryz.prog 61 #[u, v] w fun e w' => (∃ r, e = .returned r ∧ ∃ zs, Lim w' r zs ∧ Canon zs ∧ lval zs = lval xs * lval bs ∧ zs.length ≤ n + m) ∧ Below w.heap.size w w' := by
  obtain ⟨i0, hi, hi0, hi1, hi2⟩ := info_parts Tryz.infoLimb
  subst hu hv
  have HA := Lib.hid ha; have HB := Lib.hid hb; have DA := Lib.hid da; have DB := Lib.hid db; have HP := Lib.hid hP; have HQ := Lib.hid hQ; have HN := Lib.hid hN
  have hNi : (n : Int) + (m : Int) = (N : Int) := by omega
  have hN2 : N ≤ 2000 := by omega
  have hstart := outer_start xs bs
  rw [ha, hb, ← hN] at hstart
  have HSTART := Lib.hid hstart
  clear ha hb da db hP hQ hN hstart
  go_enter Tryz.func61, Tryz.ntmps61
  go_wp2_with (at_make; refine wpList_make_full _ rfl _ _ 35 rfl w.heap.size 3 i0 (.int .i64 0) 1 Tryz.underlying35 hi hi0 hi1 _ _ _ _ N rfl rfl rfl rfl ?c1 ?c2 ?c3 ?_)
  case c1 => rw [hi2]; omega
  case c2 => unfold maxLen; omega
  case c3 => exact Nat.le_refl _
  intro w1 hown hgrow
  have hbel : Below w.heap.size w w1 := (Below.refl _ _).grown hgrow (Nat.le_refl _) (by simp)
  have hown0 : w1.ownsRow w.heap.size 3 1 (.slice (some ⟨w.heap.size, 0, none⟩) N N) N ((List.replicate N 0).map (Value.int .i64)) := by
    have := toList_madeCells_one (.int .i64 0) N
    rw [this] at hown
    simpa using hown
  clear hown hgrow
  go_wp2
  go_loopw [6] (fun i wr => ∃ (k : Nat) (zs : List Int), k ≤ n ∧ i = .int .i64 k ∧ wr.ownsRow w.heap.size 3 1 (.slice (some ⟨w.heap.size, 0, none⟩) N N) N (zs.map (Value.int .i64)) ∧ Below w.heap.size w wr ∧ Hid (OuterT xs bs k zs)) (fun i _ => n - (intOf i).toNat)
  case atStart => exact ⟨0, _, Nat.zero_le _, rfl, hown0, hbel, HSTART⟩
  case round =>
    clear hown0 hbel
    obtain ⟨i, zs, hk, rfl, hown, hbel, HO⟩ := hrel
    by_cases hin : i < n
    · obtain ⟨b, o, rfl, hlt, hcl, hcm, hc⟩ := HP.out (by omega)
      obtain ⟨x, hx⟩ : ∃ x, xs.getD i 0 = x := ⟨_, rfl⟩
      have dx := DA.out i (by rw [HA.out]; exact hin)
      have hcx : w.cell? ⟨b, o + i, none⟩ = some (.int .i64 x) := by rw [hc i hin, hx]
      have HX := Lib.hid hx
      rw [hx] at dx
      obtain ⟨x0, x1⟩ := dx
      have HIN := Lib.hid (inner_start HO.out)
      clear hx hc
      go_wp2_with fail
      go_loopw [7, 8] (fun cy j wx => ∃ (k : Nat) (C : Int) (zs : List Int), k ≤ m ∧ cy = .int .i64 C ∧ j = .int .i64 k ∧ wx.ownsRow w.heap.size 3 1 (.slice (some ⟨w.heap.size, 0, none⟩) N N) N (zs.map (Value.int .i64)) ∧ Below w.heap.size w wx ∧ Hid (InnerT xs bs i k C zs)) (fun _ j _ => m - (intOf j).toNat)
      case atStart => exact ⟨0, 0, zs, Nat.zero_le _, rfl, rfl, hown, hbel, HIN⟩
      case round =>
        clear hown hbel HIN
        obtain ⟨k, C, ys, hkm, rfl, rfl, hown, hbel, HI⟩ := hrel
        have hC0 := HI.out.c0
        have hC1 := HI.out.c1
        by_cases hlt2 : k < m
        · obtain ⟨b', o', rfl, hlt', hcl', hcm', hc'⟩ := HQ.out (by omega)
          obtain ⟨y, hy⟩ : ∃ y, bs.getD k 0 = y := ⟨_, rfl⟩
          have dy := DB.out k (by rw [HB.out]; exact hlt2)
          have hcy : w.cell? ⟨b', o' + k, none⟩ = some (.int .i64 y) := by rw [hc' k hlt2, hy]
          rw [hy] at dy
          obtain ⟨y0, y1⟩ := dy
          obtain ⟨q, hq⟩ : ∃ q, i + k = q := ⟨_, rfl⟩
          have hqi : (i : Int) + (k : Int) = (q : Int) := by omega
          have hqN : q < N := by have := HN.out; omega
          obtain ⟨z, hz⟩ : ∃ z, ys.getD q 0 = z := ⟨_, rfl⟩
          have hyl : ys.length = N := by rw [HI.out.len, HA.out, HB.out, HN.out]
          have dz := HI.out.digs q (by rw [hyl]; exact hqN)
          rw [hz] at dz
          obtain ⟨z0, z1⟩ := dz
          have hstep := inner_step HI.out DA.out DB.out (by rw [HA.out]; exact hin) (by rw [HB.out]; exact hlt2)
          rw [hq, hz, HX.out, hy] at hstep
          have hpr := digit_prod z x y C z0 z1 x0 x1 y0 y1 hC0 hC1
          obtain ⟨P, hP⟩ : ∃ P, x * y = P := ⟨_, rfl⟩
          rw [hP] at hstep hpr
          obtain ⟨p0, p1, p2, p3, p4, p5⟩ := hpr
          have hwP : IntKind.i64.wrap (x * y) = P := by rw [hP]; exact IntWalk.i64_in _ ⟨by omega, by omega⟩
          have c0 : wr.cell? ⟨w.heap.size, q, none⟩ = some (.int .i64 z) := by
            rw [World.ownsRow.cellAt hown q (by omega), ← hz]
            simp [List.getD_eq_getElem?_getD, show q < ys.length by omega]
          have c1 : wr.cell? ⟨b, o + i, none⟩ = some (.int .i64 x) := by rw [hbel.cell (p := ⟨b, o + i, none⟩) hlt]; exact hcx
          have c2 : wr.cell? ⟨b', o' + k, none⟩ = some (.int .i64 y) := by rw [hbel.cell (p := ⟨b', o' + k, none⟩) hlt']; exact hcy
          have hfz := World.ownsRow.frozenAt hown q
          have HSTEP := Lib.hid hstep
          have hm0 : (z + P + C).tmod 10000 = (z + P + C) % 10000 := Int.tmod_eq_emod_of_nonneg (by omega)
          have hq0 : (z + P + C).tdiv 10000 = (z + P + C) / 10000 := Int.tdiv_eq_ediv_of_nonneg (by omega)
          clear hy hz hstep hc' hq
          go_wp2_with fail
          go_quiet (fail)
          go_wp2_with fail
          go_roundw
          case rel =>
            have hst := World.ownsRow.stored (w := wr.drewN nq) hown q (.int .i64 ((z + P + C) % 10000))
            refine ⟨k + 1, _, _, by omega, by go_num, by go_num, ?_, (below_drewN hbel nq).setCell (Nat.le_refl _) _, HSTEP⟩
            rw [List.map_set]
            exact hst.1
          case measure => simp [intOf]; omega
        · have hkm2 : k = m := by omega
          subst hkm2
          obtain ⟨q, hq⟩ : ∃ q, i + k = q := ⟨_, rfl⟩
          have hqi : (i : Int) + (k : Int) = (q : Int) := by omega
          have hqN : q < N := by have := HN.out; omega
          have hII := HI.out
          have hyl : ys.length = N := by rw [hII.len, HA.out, HB.out, HN.out]
          rw [← HB.out] at hII
          obtain ⟨hend, hzero⟩ := inner_end hII (by rw [HA.out]; exact hin)
          rw [hzero, HB.out, hq, Int.zero_add] at hend
          rw [HB.out, hq] at hzero
          have c0 : wr.cell? ⟨w.heap.size, q, none⟩ = some (.int .i64 0) := by
            rw [World.ownsRow.cellAt hown q (by omega), ← hzero]
            simp [List.getD_eq_getElem?_getD, show q < ys.length by omega]
          have hfz := World.ownsRow.frozenAt hown q
          have HEND := Lib.hid hend
          clear hend hzero hq hII
          go_wp2_with fail
          go_roundw
          case rel =>
            have hst := World.ownsRow.stored (w := wr) hown q (.int .i64 C)
            refine ⟨i + 1, _, by omega, by go_num, ?_, hbel.setCell (Nat.le_refl _) _, HEND⟩
            rw [List.map_set]
            exact hst.1
          case measure => simp [intOf]; omega
    · have hin2 : i = n := by omega
      have hOO := HO.out
      have hzl : zs.length = N := by rw [hOO.len, HA.out, HB.out, HN.out]
      rw [hin2, ← HA.out] at hOO
      have HE := Lib.hid (outer_end hOO)
      have hlim : Lim wr (.slice (some ⟨w.heap.size, 0, none⟩) N N) zs := Lim.ofOwn (base := w.heap.size) (e := 3) (by rw [hzl]; exact hown)
      clear hOO hown
      go_wp2_with fail
      refine (trim_any _ zs _ hlim).mono ?_
      rintro e w' ⟨⟨r, rfl, hr⟩, rfl⟩
      go_wp2_with fail
      go_ret
      exact ⟨⟨_, rfl, trimL zs, hr, HE.out.1, HE.out.2.1, by have := HE.out.2.2; rw [HA.out, HB.out] at this; exact this⟩, hbel⟩

theorem times_any (u v : Value) (xs bs : List Int) (w : World) (hu : Lim w u xs) (hv : Lim w v bs) (da : Digs xs) (db : Digs bs) (hn : xs.length ≤ 1000) (hm : bs.length ≤ 1000) :
    Calls Tryz.prog 61 #[u, v] w fun e w' => (∃ r, e = .returned r ∧ ∃ zs, Lim w' r zs ∧ Canon zs ∧ lval zs = lval xs * lval bs ∧ zs.length ≤ xs.length + bs.length) ∧ Below w.heap.size w w' := by
  obtain ⟨a1, c1, e1, l1, m1⟩ := hu.parts
  obtain ⟨a2, c2, e2, l2, m2⟩ := hv.parts
  refine times_walk u v xs bs w _ _ _ c1 c2 a1 a2 e1 e2 rfl rfl rfl hn hm da db (fun h0 => ?_) (fun h0 => ?_)
  · rcases hu with ⟨a, c, h, hcm, rfl⟩ | ⟨b, o, c, h, hne, hlt, hl, hm, hc⟩
    · simp at h0
    · rw [h] at e1
      simp only [Value.slice.injEq] at e1
      obtain ⟨rfl, -, rfl⟩ := e1
      exact ⟨b, o, rfl, hlt, hl, hm, hc⟩
  · rcases hv with ⟨a, c, h, hcm, rfl⟩ | ⟨b, o, c, h, hne, hlt, hl, hm, hc⟩
    · simp at h0
    · rw [h] at e2
      simp only [Value.slice.injEq] at e2
      obtain ⟨rfl, -, rfl⟩ := e2
      exact ⟨b, o, rfl, hlt, hl, hm, hc⟩

end Go.Proofs.YtppaklifacadpaaGreatDoor
