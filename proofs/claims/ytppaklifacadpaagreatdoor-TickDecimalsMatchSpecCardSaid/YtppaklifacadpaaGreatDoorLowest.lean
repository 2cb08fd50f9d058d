/- The reference's lowest: a number in lowest terms. -/
import Derived.Test.YtppaklifacadpaaGreatDoorCommon
import Derived.Handy
namespace Go.Proofs.YtppaklifacadpaaGreatDoor
set_option linter.unusedVariables false
set_option linter.unusedSimpArgs false
open Go.RowKit

/-- The value v is a number: its sign, and the limbs of its two terms. -/
def NumV (w : World) (v : Value) (neg : Bool) (ts bs : List Int) : Prop :=
  ∃ t b, v = .agg #[.bool neg, t, b] ∧ Lim w t ts ∧ Lim w b bs ∧ Canon ts ∧ Canon bs ∧ 0 < lval bs

theorem NumV.below {B : Nat} {w w' : World} {v : Value} {neg : Bool} {ts bs : List Int} (h : NumV w v neg ts bs) (hb : Below B w w') (hB : w.heap.size ≤ B) : NumV w' v neg ts bs := by
  obtain ⟨t, b, h1, h2, h3, h4⟩ := h
  exact ⟨t, b, h1, h2.below hb hB, h3.below hb hB, h4⟩

theorem lim_one (w : World) : Lim (w.alloc (.cells #[.int .i64 1] 3)) (.slice (some ⟨w.heap.size, 0, none⟩) 1 1) [1] := by
  refine .inr ⟨w.heap.size, 0, 1, rfl, by simp, by simp, by simp, by unfold maxLen; omega, fun j hj => ?_⟩
  have : j = 0 := by simpa using hj
  subst this
  simp
theorem canon_one : Canon [1] := ⟨digs_one 1 (by omega) (by omega), fun _ => by simp⟩
theorem lval_1 : lval [1] = 1 := by simp [lval]

theorem gcd_facts (a b : Int) (ha : 0 ≤ a) (hb : 0 < b) : 0 < (Int.gcd a b : Int) ∧ 0 < b / (Int.gcd a b : Int) ∧ (0 < a → 0 < a / (Int.gcd a b : Int)) ∧ a / (Int.gcd a b : Int) * b = a * (b / (Int.gcd a b : Int)) ∧ a / (Int.gcd a b : Int) ≤ a ∧ b / (Int.gcd a b : Int) ≤ b := by
  have hg : 0 < (Int.gcd a b : Int) := by
    have : Int.gcd a b ≠ 0 := fun h => by
      have := (Int.gcd_eq_zero_iff.1 h).2
      omega
    omega
  obtain ⟨p, hp⟩ := Int.gcd_dvd_left a b
  obtain ⟨q, hq⟩ := Int.gcd_dvd_right a b
  generalize (Int.gcd a b : Int) = g at hg hp hq ⊢
  subst hp hq
  rw [Int.mul_ediv_cancel_left _ (by omega), Int.mul_ediv_cancel_left _ (by omega)]
  have hq0 : 0 < q := Int.pos_of_mul_pos_right hb (by omega)
  refine ⟨hg, hq0, fun h => Int.pos_of_mul_pos_right h (by omega), by rw [Int.mul_left_comm, Int.mul_assoc], ?_, ?_⟩
  · have hp0 : 0 ≤ p := by
      apply Decidable.byContradiction; intro hx
      have := Int.mul_lt_mul_of_pos_left (show p < 0 by omega) hg
      simp at this; omega
    have := Int.mul_le_mul_of_nonneg_right (show 1 ≤ g by omega) hp0
    omega
  · have := Int.mul_le_mul_of_nonneg_right (show 1 ≤ g by omega) (Int.le_of_lt hq0)
    omega

theorem canon_len_le (a b : List Int) (ha : Canon a) (hb : Canon b) (h : lval a ≤ lval b) : a.length ≤ b.length := by
  apply Decidable.byContradiction; intro hne
  have := canon_short b a hb ha (by omega)
  omega

theorem Lim.apart {W : World} {v : Value} {zs : List Int} {g : Nat} (h : Lim W v zs) (hc : ∀ j x, W.cell? ⟨g, j, none⟩ ≠ some (.int .i64 x)) : v.ownBlock ≠ some g ∨ zs = [] := by
  rcases h with ⟨a, c, rfl, hcm, rfl⟩ | ⟨b, off, cap, hv, hne, hlt, hl, hm, hcc⟩
  · exact .inr rfl
  · refine .inl ?_
    subst hv
    simp only [Value.ownBlock, ne_eq, Option.some.injEq]
    rintro rfl
    exact hc _ _ (hcc 0 (List.length_pos_iff.2 hne))
theorem Lim.setApart {W : World} {v : Value} {zs : List Int} {g k : Nat} {u : Value} (h : Lim W v zs) (ha : v.ownBlock ≠ some g ∨ zs = []) : Lim (W.setCell ⟨g, k, none⟩ u) v zs := by
  rcases ha with ha | rfl
  · exact h.setCell ha u
  · rcases h with h | ⟨b, off, cap, hv, hne, hlt, hl, hm, hcc⟩
    · exact .inl h
    · exact absurd rfl hne

/-- The cell of a result that is a number, not yet written. -/
abbrev numCell : Obj := .cells #[.bool false, .slice none 0 0, .slice none 0 0] 38
theorem num_cells {w W : World} (h : Below (w.heap.size + 1) (w.alloc numCell) W) :
    W.cell? ⟨w.heap.size, 0, none⟩ = some (.bool false) ∧ W.cell? ⟨w.heap.size, 1, none⟩ = some (.slice none 0 0) ∧ W.cell? ⟨w.heap.size, 2, none⟩ = some (.slice none 0 0) ∧
    W.frozen? ⟨w.heap.size, 0, none⟩ = false ∧ W.frozen? ⟨w.heap.size, 1, none⟩ = false ∧ W.frozen? ⟨w.heap.size, 2, none⟩ = false ∧ (∀ j x, W.cell? ⟨w.heap.size, j, none⟩ ≠ some (.int .i64 x)) ∧ w.heap.size < W.heap.size := by
  have hs := h.size
  simp at hs
  have hc : ∀ j, W.cell? ⟨w.heap.size, j, none⟩ = (w.alloc numCell).cell? ⟨w.heap.size, j, none⟩ := fun j => h.cell (by show w.heap.size < _; omega)
  have hf : ∀ j, W.frozen? ⟨w.heap.size, j, none⟩ = (w.alloc numCell).frozen? ⟨w.heap.size, j, none⟩ := fun j => h.frozen (by show w.heap.size < _; omega)
  refine ⟨by rw [hc]; simp [numCell], by rw [hc]; simp [numCell], by rw [hc]; simp [numCell], by rw [hf]; simp [numCell], by rw [hf]; simp [numCell], by rw [hf]; simp [numCell], fun j x => ?_, by omega⟩
  rw [hc]
  rcases Nat.lt_or_ge j 3 with hj | hj
  · have : j = 0 ∨ j = 1 ∨ j = 2 := by omega
    rcases this with rfl | rfl | rfl <;> simp [numCell]
  · intro hx
    rw [cell_of_row (w.alloc numCell) w.heap.size j _ _ (0, 0) (heap_alloc_new w _)] at hx
    rw [Array.getElem?_eq_none (by simpa using hj)] at hx
    simp at hx

set_option maxHeartbeats 4000000 in
theorem lowest_any (neg : Bool) (u v : Value) (xs bs : List Int) (w : World) (hu : Lim w u xs) (hv : Lim w v bs) (cx : Canon xs) (cb : Canon bs) (hpos : 0 < lval bs) (hn : xs.length ≤ 500) (hm : bs.length ≤ 500) :
    Calls Tryz.prog 32 #[.bool neg, u, v] w fun e w' => (∃ r, e = .returned r ∧ ∃ zs ys, NumV w' r (neg && !(lval xs == 0)) zs ys ∧ lval zs * lval bs = lval xs * lval ys ∧ zs.length ≤ xs.length ∧ ys.length ≤ bs.length) ∧ Below w.heap.size w w' := by
  obtain ⟨a1, c1, e1, l1, m1⟩ := hu.parts
  obtain ⟨a2, c2, e2, l2, m2⟩ := hv.parts
  obtain ⟨n, hnn⟩ : ∃ n, xs.length = n := ⟨_, rfl⟩
  rw [hnn] at e1 l1
  unfold maxLen at l1
  have hbl : 1 ≤ bs.length := by
    have := (canon_pos bs cb).1 hpos
    have := List.length_pos_iff.2 this
    omega
  have HU := Lib.hid hu; have HV := Lib.hid hv; have CX := Lib.hid cx; have CB := Lib.hid cb; have HN := Lib.hid hn; have HM := Lib.hid hm; have HP := Lib.hid hpos; have HNN := Lib.hid hnn; have HBL := Lib.hid hbl
  clear hu hv cx cb hn hm hpos hnn hbl
  by_cases h0 : n < 1
  · have hn0 : n = 0 := by omega
    subst hn0
    have hnil : xs = [] := List.length_eq_zero_iff.1 HNN.out
    subst hnil
    subst e1
    have hb1 : Below w.heap.size w ((w.alloc (.cells #[.bool false, .slice none 0 0, .slice none 0 0] 38)).alloc (.cells #[.int .i64 1] 3)) := ((Below.refl _ _).alloc (Nat.le_refl _) _).alloc (by simp) _
    go_enter Tryz.func32, Tryz.ntmps32
    go_wp2_with fail
    go_returns
    refine ⟨⟨_, rfl, [], [1], ⟨.slice none 0 0, .slice (some ⟨w.heap.size + 1, 0, none⟩) 1 1, by simp [lval], Lim.nil _, ?_, Canon.nil, canon_one, by rw [lval_1]; omega⟩, by simp [lval], by simp, by simpa using HBL.out⟩, ?_⟩
    · have := lim_one (w.alloc (.cells #[.bool false, .slice none 0 0, .slice (some ⟨w.heap.size + 1, 0, none⟩) 1 1] 38))
      simpa using this
    · exact ((Below.refl _ _).alloc (Nat.le_refl _) _).alloc (by simp) _
  · have hne : xs ≠ [] := fun hx => by have := HNN.out; rw [hx] at this; simp at this; omega
    have hpx := (canon_pos xs CX.out).2 hne
    have hz : (lval xs == 0) = false := by simp; omega
    have hng : (neg && !(lval xs == 0)) = neg := by rw [hz]; simp
    rw [hng]
    have hu1 := HU.out.below ((Below.refl w.heap.size w).alloc (Nat.le_refl _) numCell) (Nat.le_refl _)
    have hv1 := HV.out.below ((Below.refl w.heap.size w).alloc (Nat.le_refl _) numCell) (Nat.le_refl _)
    have HU1 := Lib.hid hu1; have HV1 := Lib.hid hv1; have HPX := Lib.hid hpx; have E1 := Lib.hid e1
    have hfacts := gcd_facts (lval xs) (lval bs) (Int.le_of_lt hpx) HP.out
    have HFACTS := Lib.hid hfacts
    clear hne hpx hz hng hu1 hv1 hfacts
    subst e1 e2
    have HBW : Hid (Below w.heap.size w (w.alloc numCell)) := Lib.hid ((Below.refl w.heap.size w).alloc (Nat.le_refl _) numCell)
    have HSZ : Hid ((w.alloc numCell).heap.size = w.heap.size + 1) := Lib.hid (by simp)
    go_enter Tryz.func32, Tryz.ntmps32
    go_wp2_with fail
    refine (common_any _ _ xs bs _ HU1.out HV1.out CX.out CB.out HN.out HM.out).mono ?_
    rintro e w2 ⟨⟨g, rfl, gs, g1, g2, g3, g4⟩, b2⟩
    have b2' : Below (w.heap.size + 1) (w.alloc numCell) w2 := b2.mono (by rw [HSZ.out]; omega)
    have G1 := Lib.hid g1; have G2 := Lib.hid g2; have G3 := Lib.hid g3; have G4 := Lib.hid g4; have B2 := Lib.hid b2'
    clear g1 g2 g3 g4 b2 b2'
    go_wp2_with fail
    have hg1 := G1.out.below ((Below.refl w2.heap.size w2).alloc (Nat.le_refl _) (.cells #[.int .i64 1] 3)) (Nat.le_refl _)
    refine (cmp_any _ _ gs [1] _ hg1 (lim_one w2) G2.out canon_one).mono ?_
    rintro e w5 ⟨rfl, q5, hw5⟩
    have hb5 : Below w2.heap.size w2 w5 := by rw [hw5]; exact below_drewN ((Below.refl _ _).alloc (Nat.le_refl _) _) _
    have B5 := Lib.hid (B2.out.trans (hb5.mono (by have := B2.out.size; rw [HSZ.out] at this; exact this)))
    have G1' := Lib.hid (G1.out.below hb5 (Nat.le_refl _))
    obtain ⟨C, hC⟩ : ∃ C, cmpI (lval gs) (lval [1]) = C := ⟨_, rfl⟩
    rw [hC]
    rw [lval_1] at hC
    have HC5 := Lib.hid hC
    clear hC hw5 hg1 hb5 G1
    by_cases h1 : C = 0
    · subst h1
      have hgs : lval gs = 1 := by
        have := HC5.out
        unfold cmpI at this
        split at this
        · omega
        · split at this <;> omega
      obtain ⟨k0, k1, k2, f0, f1, f2, hni, hlt⟩ := num_cells B5.out
      have hu5 := HU1.out.below (B5.out) (by rw [HSZ.out]; omega)
      have hv5 := HV1.out.below (B5.out) (by rw [HSZ.out]; omega)
      have au := hu5.apart hni
      have av := hv5.apart hni
      have HU5 := Lib.hid hu5; have HV5 := Lib.hid hv5; have AU := Lib.hid au; have AV := Lib.hid av
      clear hu5 hv5 au av hni
      go_wp2_with fail
      (try simp only [Exit.inBlock, Exit.then]); refine bodyPost_ret (by simp [results, Tryz.results32, go_sem, k0, k1, k2]; try rfl) rfl ?_
      refine ⟨⟨_, rfl, xs, bs, ⟨_, _, rfl, ?_, ?_, CX.out, CB.out, HP.out⟩, rfl, by rw [HNN.out]; omega, Nat.le_refl _⟩, ?_⟩
      · exact ((HU5.out.setApart AU.out).setApart AU.out).setApart AU.out
      · exact ((HV5.out.setApart AV.out).setApart AV.out).setApart AV.out
      · have hbb := HBW.out.trans (B5.out.mono (Nat.le_succ _))
        exact ((hbb.setCell (Nat.le_refl _) _).setCell (Nat.le_refl _) _).setCell (Nat.le_refl _) _
    · have h1' : (C == 0) = false := by simp [h1]
      have HGP : Hid (0 < lval gs) := Lib.hid (by rw [G3.out]; exact HFACTS.out.1)
      have hu5 := HU1.out.below (B5.out) (by rw [HSZ.out]; omega)
      have hv5 := HV1.out.below (B5.out) (by rw [HSZ.out]; omega)
      have HU5 := Lib.hid hu5; have HV5 := Lib.hid hv5
      clear hu5 hv5
      go_wp2_with fail
      refine (divide_any _ _ xs gs _ HU5.out G1'.out CX.out.1 G2.out HGP.out HN.out G4.out).mono ?_
      rintro e w6 ⟨⟨r6, s6, rfl, qs, rs, g1, g2, g3, g4, g5, g6, g7, g8⟩, b6⟩
      have P1 := Lib.hid g1; have P3 := Lib.hid g3; have P5 := Lib.hid g5; have P7 := Lib.hid g7; have B6 := Lib.hid b6
      have G1'' := Lib.hid (G1'.out.below b6 (Nat.le_refl _))
      have HV6 := Lib.hid (HV5.out.below b6 (Nat.le_refl _))
      clear g1 g2 g3 g4 g5 g6 g7 g8 b6
      go_wp2_with fail
      refine (divide_any _ _ bs gs _ HV6.out G1''.out CB.out.1 G2.out HGP.out HM.out G4.out).mono ?_
      rintro e w7 ⟨⟨r7, s7, rfl, ps, ss, g1, g2, g3, g4, g5, g6, g7, g8⟩, b7⟩
      have P1' := Lib.hid (P1.out.below b7 (Nat.le_refl _))
      have S1 := Lib.hid g1; have S3 := Lib.hid g3; have S5 := Lib.hid g5; have S7 := Lib.hid g7
      have B7 : Hid (Below (w.heap.size + 1) (w.alloc numCell) w7) := Lib.hid ((B5.out.trans (B6.out.mono (by have := B5.out.size; rw [HSZ.out] at this; exact this))).trans (b7.mono (by have := B5.out.size; have := B6.out.size; rw [HSZ.out] at *; omega)))
      clear g1 g2 g3 g4 g5 g6 g7 g8 b7
      obtain ⟨a6, c6, e6, l6, m6⟩ := P1'.out.parts
      obtain ⟨a7, c7, e7, l7, m7⟩ := S1.out.parts
      subst e6 e7
      obtain ⟨k0, k1, k2, f0, f1, f2, hni, hlt⟩ := num_cells B7.out
      have au := P1'.out.apart hni
      have av := S1.out.apart hni
      have AU := Lib.hid au; have AV := Lib.hid av
      clear au av hni
      go_wp2_with fail
      (try simp only [Exit.inBlock, Exit.then]); refine bodyPost_ret (by simp [results, Tryz.results32, go_sem, k0, k1, k2]; try rfl) rfl ?_
      obtain ⟨t1, t2, t3, t4, t5, t6⟩ := HFACTS.out
      rw [← G3.out] at t2 t3 t4 t5 t6
      refine ⟨⟨_, rfl, qs, ps, ⟨_, _, rfl, ?_, ?_, P3.out, S3.out, ?_⟩, ?_, P7.out, S7.out⟩, ?_⟩
      · exact ((P1'.out.setApart AU.out).setApart AU.out).setApart AU.out
      · exact ((S1.out.setApart AV.out).setApart AV.out).setApart AV.out
      · rw [S5.out]; exact t2
      · rw [P5.out, S5.out]; exact t4
      · have hbb := HBW.out.trans (B7.out.mono (Nat.le_succ _))
        exact ((hbb.setCell (Nat.le_refl _) _).setCell (Nat.le_refl _) _).setCell (Nat.le_refl _) _

end Go.Proofs.YtppaklifacadpaaGreatDoor
