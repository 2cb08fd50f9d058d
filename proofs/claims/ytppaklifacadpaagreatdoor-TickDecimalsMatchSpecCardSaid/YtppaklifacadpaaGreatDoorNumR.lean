/- The reference's numbers as fractions: lowest, Int. -/
import Derived.Test.YtppaklifacadpaaGreatDoorLowest
import Derived.Test.YtppaklifacadpaaGreatDoorDigits
namespace Go.Proofs.YtppaklifacadpaaGreatDoor
set_option linter.unusedVariables false
set_option linter.unusedSimpArgs false
open Go.RowKit

/-- The value v is the fraction p / q; its terms have at most L limbs. -/
def NumR (w : World) (v : Value) (p q : Int) (L : Nat) : Prop :=
  0 < q ∧ ∃ zs ys, NumV w v (decide (p < 0)) zs ys ∧ lval zs * q = (p.natAbs : Int) * lval ys ∧ zs.length ≤ L ∧ ys.length ≤ L

theorem NumR.below {B : Nat} {w w' : World} {v : Value} {p q : Int} {L : Nat} (h : NumR w v p q L) (hb : Below B w w') (hB : w.heap.size ≤ B) : NumR w' v p q L := by
  obtain ⟨h1, zs, ys, h2, h3⟩ := h
  exact ⟨h1, zs, ys, h2.below hb hB, h3⟩

theorem natAbs_if (neg : Bool) (x : Int) (hx : 0 ≤ x) : ((if neg then -x else x).natAbs : Int) = x := by
  cases neg
  · simp; omega
  · simp; omega
theorem neg_if (neg : Bool) (x : Int) (hx : 0 ≤ x) : decide ((if neg then -x else x) < 0) = (neg && !(x == 0)) := by
  by_cases h : x = 0
  · subst h; simp
  · have : (x == 0) = false := by simp [h]
    rw [this]
    cases neg
    · simp; omega
    · simp; omega

/-- One fraction in other words. -/
theorem NumR.congr {w : World} {v : Value} {p q p' q' : Int} {L : Nat} (h : NumR w v p q L) (hq : 0 < q') (he : p * q' = p' * q) : NumR w v p' q' L := by
  obtain ⟨h1, zs, ys, h2, h3, h4⟩ := h
  have hs : decide (p < 0) = decide (p' < 0) := by
    by_cases h0 : p < 0
    · have := Int.mul_neg_of_neg_of_pos h0 hq
      rw [he] at this
      have : p' < 0 := by
        apply Decidable.byContradiction; intro hx
        have := Int.mul_nonneg (show 0 ≤ p' by omega) (Int.le_of_lt h1)
        omega
      simp [h0, this]
    · have := Int.mul_nonneg (show 0 ≤ p by omega) (Int.le_of_lt hq)
      rw [he] at this
      have : ¬ p' < 0 := by
        intro hx
        have := Int.mul_neg_of_neg_of_pos hx h1
        omega
      simp [h0, this]
  rw [hs] at h2
  refine ⟨hq, zs, ys, h2, ?_, h4⟩
  have ha : (p.natAbs : Int) * q' = (p'.natAbs : Int) * q := by
    have := congrArg Int.natAbs he
    rw [Int.natAbs_mul, Int.natAbs_mul] at this
    have e1 : (q'.natAbs : Int) = q' := Int.natAbs_of_nonneg (by omega)
    have e2 : (q.natAbs : Int) = q := Int.natAbs_of_nonneg (by omega)
    rw [← e1, ← e2, ← Int.natCast_mul, ← Int.natCast_mul, this]
  refine Int.eq_of_mul_eq_mul_right (a := q) (by omega) ?_
  rw [Int.mul_assoc, Int.mul_comm q' q, ← Int.mul_assoc, h3, Int.mul_assoc, Int.mul_comm (lval ys), ← Int.mul_assoc, ha, Int.mul_assoc, Int.mul_comm q, ← Int.mul_assoc]

theorem NumR.len {w : World} {v : Value} {p q : Int} {L M : Nat} (h : NumR w v p q L) (hl : L ≤ M) : NumR w v p q M := by
  obtain ⟨h1, zs, ys, h2, h3, h4, h5⟩ := h
  exact ⟨h1, zs, ys, h2, h3, by omega, by omega⟩

theorem lowest_num (neg : Bool) (u v : Value) (xs bs : List Int) (w : World) (L : Nat) (hu : Lim w u xs) (hv : Lim w v bs) (cx : Canon xs) (cb : Canon bs) (hpos : 0 < lval bs) (hn : xs.length ≤ L) (hm : bs.length ≤ L) (hL : L ≤ 500) :
    Calls Tryz.prog 32 #[.bool neg, u, v] w fun e w' => (∃ r, e = .returned r ∧ NumR w' r (if neg then -lval xs else lval xs) (lval bs) L) ∧ Below w.heap.size w w' := by
  refine (lowest_any neg u v xs bs w hu hv cx cb hpos (by omega) (by omega)).mono ?_
  rintro e w' ⟨⟨r, rfl, zs, ys, h1, h2, h3, h4⟩, b⟩
  have hx := (lval_bd xs cx.1).1
  refine ⟨⟨r, rfl, hpos, zs, ys, ?_, ?_, by omega, by omega⟩, b⟩
  · rw [neg_if neg _ hx]; exact h1
  · rw [natAbs_if neg _ hx]; exact h2

/-- A number that is stored into a result's cell. -/
theorem NumV.stored {w W : World} {t b : Value} {neg : Bool} {zs ys : List Int} (h : NumV W (.agg #[.bool neg, t, b]) neg zs ys) (hB : Below (w.heap.size + 1) (w.alloc numCell) W) :
    NumV (((W.setCell ⟨w.heap.size, 0, none⟩ (.bool neg)).setCell ⟨w.heap.size, 1, none⟩ t).setCell ⟨w.heap.size, 2, none⟩ b) (.agg #[.bool neg, t, b]) neg zs ys := by
  obtain ⟨t', b', h1, h2, h3, h4⟩ := h
  simp only [Value.agg.injEq] at h1
  have e1 : t = t' := by have := congrArg (fun a => a[1]!) h1; simpa using this
  have e2 : b = b' := by have := congrArg (fun a => a[2]!) h1; simpa using this
  subst e1 e2
  obtain ⟨-, -, -, -, -, -, hni, -⟩ := num_cells hB
  have a1 := h2.apart hni
  have a2 := h3.apart hni
  exact ⟨_, _, rfl, ((h2.setApart a1).setApart a1).setApart a1, ((h3.setApart a2).setApart a2).setApart a2, h4⟩

theorem NumR.shape {w : World} {v : Value} {p q : Int} {L : Nat} (h : NumR w v p q L) : ∃ a n c a' n' c', v = .agg #[.bool (decide (p < 0)), .slice a n c, .slice a' n' c'] := by
  obtain ⟨h1, zs, ys, ⟨t, b, rfl, h2, h3, -⟩, -⟩ := h
  obtain ⟨a, c, rfl, -, -⟩ := h2.parts
  obtain ⟨a', c', rfl, -, -⟩ := h3.parts
  exact ⟨_, _, _, _, _, _, rfl⟩

theorem NumR.stored {w W : World} {t b : Value} {p q : Int} {neg : Bool} {L : Nat} (h : NumR W (.agg #[.bool neg, t, b]) p q L) (hB : Below (w.heap.size + 1) (w.alloc numCell) W) :
    NumR (((W.setCell ⟨w.heap.size, 0, none⟩ (.bool neg)).setCell ⟨w.heap.size, 1, none⟩ t).setCell ⟨w.heap.size, 2, none⟩ b) (.agg #[.bool neg, t, b]) p q L := by
  obtain ⟨h1, zs, ys, h2, h3⟩ := h
  have hn : decide (p < 0) = neg := by
    obtain ⟨t', b', h4, -⟩ := h2
    simp only [Value.agg.injEq] at h4
    have := congrArg (fun a => a[0]!) h4
    simpa using this.symm
  rw [hn] at h2
  exact ⟨h1, zs, ys, by rw [hn]; exact h2.stored hB, h3⟩

theorem num_bel {w W : World} {a b c : Value} (hB : Below (w.heap.size + 1) (w.alloc numCell) W) : Below w.heap.size w (((W.setCell ⟨w.heap.size, 0, none⟩ a).setCell ⟨w.heap.size, 1, none⟩ b).setCell ⟨w.heap.size, 2, none⟩ c) := by
  have hbb := ((Below.refl w.heap.size w).alloc (Nat.le_refl _) numCell).trans (hB.mono (Nat.le_succ _))
  exact ((hbb.setCell (Nat.le_refl _) _).setCell (Nat.le_refl _) _).setCell (Nat.le_refl _) _

theorem dec_len100 (u : Nat) (hu : u < 18446744073709551616) : (Lib.decDigits u).length ≤ 100 := by
  by_cases h0 : 0 < u
  · have h1 := (decDigits_low u).2 h0
    apply Decidable.byContradiction; intro hx
    have := Nat.pow_le_pow_right (show 1 ≤ 10 by omega) (show 20 ≤ (Lib.decDigits u).length - 1 by omega)
    omega
  · rw [Lib.decDigits_one (by omega)]; simp

set_option maxRecDepth 100000 in
set_option maxHeartbeats 4000000 in
theorem int_any (n : Int) (h0 : -9223372036854775808 ≤ n) (h1 : n ≤ 9223372036854775807) (w : World) (htab : Tab w) :
    Calls Tryz.prog 38 #[.int .i64 n] w fun e w' => (∃ r, e = .returned r ∧ NumR w' r n 1 30) ∧ Below w.heap.size w w' := by
  obtain ⟨u, hu⟩ : ∃ u : Nat, n.natAbs = u := ⟨_, rfl⟩
  have hu64 : u < 18446744073709551616 := by omega
  have HT := Lib.hid (htab.below ((Below.refl w.heap.size w).alloc (Nat.le_refl _) numCell) (Nat.le_refl _))
  have HSZ : Hid ((w.alloc numCell).heap.size = w.heap.size + 1) := Lib.hid (by simp)
  by_cases hneg : n < 0
  · have hw : IntKind.u64.wrap (-IntKind.u64.wrap n) = (u : Int) := by rw [IntKind.wrap_u64, IntKind.wrap_u64]; omega
    have hpn : decide (n < 0) = true := by simp [hneg]
    have HU := Lib.hid hu
    clear hu htab
    go_enter Tryz.func38, Tryz.ntmps38
    go_wp2_with fail
    refine (fmtU u hu64 _ HT.out).mono ?_
    rintro e w2 ⟨rfl, b2⟩
    obtain ⟨S, hS⟩ : ∃ S : ByteArray, (⟨(Lib.decDigits u).toArray⟩ : ByteArray) = S := ⟨_, rfl⟩
    rw [hS]
    have hSd : S.data.toList = Lib.decDigits u := by rw [← hS]
    have hSz : S.size ≤ 100 := by
      rw [← hS]
      show (Lib.decDigits u).toArray.size ≤ 100
      rw [List.size_toArray]
      exact dec_len100 u hu64
    have B2 := Lib.hid b2; have HSD := Lib.hid hSd
    clear b2 hS hSd
    go_wp2_with fail
    refine (limbs_any S (by rw [HSD.out]; exact (decDigits_facts u).1) hSz _).mono ?_
    rintro e w3 ⟨⟨r3, rfl, xs, g1, g2, g3, g4⟩, b3⟩
    rw [HSD.out, (decDigits_facts u).2] at g3
    have G1 := Lib.hid (g1.below ((Below.refl w3.heap.size w3).alloc (Nat.le_refl _) (.cells #[.int .i64 1] 3)) (Nat.le_refl _))
    have G2 := Lib.hid g2; have G3 := Lib.hid g3; have G4 := Lib.hid g4; have B3 := Lib.hid b3
    clear g1 g2 g3 g4 b3
    go_wp2_with fail
    refine (lowest_num true _ _ xs [1] _ 30 G1.out (lim_one w3) G2.out canon_one (by rw [lval_1]; omega) G4.out (by simp) (by omega)).mono ?_
    rintro e w4 ⟨⟨r4, rfl, hr⟩, b4⟩
    have b4' : Below w3.heap.size w3 w4 := ((Below.refl w3.heap.size w3).alloc (Nat.le_refl _) (.cells #[.int .i64 1] 3)).trans (b4.mono (by simp))
    have B4 : Hid (Below (w.heap.size + 1) (w.alloc numCell) w4) := Lib.hid (((B2.out.trans (B3.out.mono B2.out.size)).trans (b4'.mono (Nat.le_trans B2.out.size B3.out.size))).mono (by rw [HSZ.out]; exact Nat.le_refl _))
    have hr2 : NumR w4 r4 n 1 30 := by
      rw [lval_1, G3.out] at hr
      have hif : (if true = true then -(u : Int) else (u : Int)) = n := by have := HU.out; simp; omega
      rw [hif] at hr
      exact hr
    obtain ⟨a5, n5, c5, a6, n6, c6, rfl⟩ := hr2.shape
    rw [hpn] at hr2 ⊢
    have HR := Lib.hid hr2
    obtain ⟨k0, k1, k2, f0, f1, f2, hni, hlt⟩ := num_cells B4.out
    clear hr hr2 b4 b4' hni
    go_wp2_with fail
    (try simp only [Exit.inBlock, Exit.then]); refine bodyPost_ret (by simp [results, Tryz.results38, go_sem, k0, k1, k2]; try rfl) rfl ?_
    exact ⟨⟨_, rfl, HR.out.stored B4.out⟩, num_bel B4.out⟩
  · have hw : IntKind.u64.wrap n = (u : Int) := by rw [IntKind.wrap_u64]; omega
    have hpn : decide (n < 0) = false := by simp only [decide_eq_false_iff_not]; exact hneg
    have HU := Lib.hid hu
    clear hu htab
    go_enter Tryz.func38, Tryz.ntmps38
    go_wp2_with fail
    refine (fmtU u hu64 _ HT.out).mono ?_
    rintro e w2 ⟨rfl, b2⟩
    obtain ⟨S, hS⟩ : ∃ S : ByteArray, (⟨(Lib.decDigits u).toArray⟩ : ByteArray) = S := ⟨_, rfl⟩
    rw [hS]
    have hSd : S.data.toList = Lib.decDigits u := by rw [← hS]
    have hSz : S.size ≤ 100 := by
      rw [← hS]
      show (Lib.decDigits u).toArray.size ≤ 100
      rw [List.size_toArray]
      exact dec_len100 u hu64
    have B2 := Lib.hid b2; have HSD := Lib.hid hSd
    clear b2 hS hSd
    go_wp2_with fail
    refine (limbs_any S (by rw [HSD.out]; exact (decDigits_facts u).1) hSz _).mono ?_
    rintro e w3 ⟨⟨r3, rfl, xs, g1, g2, g3, g4⟩, b3⟩
    rw [HSD.out, (decDigits_facts u).2] at g3
    have G1 := Lib.hid (g1.below ((Below.refl w3.heap.size w3).alloc (Nat.le_refl _) (.cells #[.int .i64 1] 3)) (Nat.le_refl _))
    have G2 := Lib.hid g2; have G3 := Lib.hid g3; have G4 := Lib.hid g4; have B3 := Lib.hid b3
    clear g1 g2 g3 g4 b3
    go_wp2_with fail
    refine (lowest_num false _ _ xs [1] _ 30 G1.out (lim_one w3) G2.out canon_one (by rw [lval_1]; omega) G4.out (by simp) (by omega)).mono ?_
    rintro e w4 ⟨⟨r4, rfl, hr⟩, b4⟩
    have b4' : Below w3.heap.size w3 w4 := ((Below.refl w3.heap.size w3).alloc (Nat.le_refl _) (.cells #[.int .i64 1] 3)).trans (b4.mono (by simp))
    have B4 : Hid (Below (w.heap.size + 1) (w.alloc numCell) w4) := Lib.hid (((B2.out.trans (B3.out.mono B2.out.size)).trans (b4'.mono (Nat.le_trans B2.out.size B3.out.size))).mono (by rw [HSZ.out]; exact Nat.le_refl _))
    have hr2 : NumR w4 r4 n 1 30 := by
      rw [lval_1, G3.out] at hr
      have hif : (if false = true then -(u : Int) else (u : Int)) = n := by have := HU.out; simp; omega
      rw [hif] at hr
      exact hr
    obtain ⟨a5, n5, c5, a6, n6, c6, rfl⟩ := hr2.shape
    rw [hpn] at hr2 ⊢
    have HR := Lib.hid hr2
    obtain ⟨k0, k1, k2, f0, f1, f2, hni, hlt⟩ := num_cells B4.out
    clear hr hr2 b4 b4' hni
    go_wp2_with fail
    (try simp only [Exit.inBlock, Exit.then]); refine bodyPost_ret (by simp [results, Tryz.results38, go_sem, k0, k1, k2]; try rfl) rfl ?_
    exact ⟨⟨_, rfl, HR.out.stored B4.out⟩, num_bel B4.out⟩

end Go.Proofs.YtppaklifacadpaaGreatDoor
