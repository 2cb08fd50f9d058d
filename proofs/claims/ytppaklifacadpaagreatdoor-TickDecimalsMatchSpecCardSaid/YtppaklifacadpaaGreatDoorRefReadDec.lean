/- ReadDecimal of the reference. -/
import Derived.Test.YtppaklifacadpaaGreatDoorRefRow
import Derived.Deep.RegionHeld3
namespace Go.Proofs.YtppaklifacadpaaGreatDoor
set_option linter.unusedVariables false
set_option linter.unusedSimpArgs false
open Go.RowKit

theorem row_dr (s : ByteArray) (A : Bool) (w : World) (hl : s.size ≤ 1000000) (h : allDig s.data.toList = A) :
    Calls Tryz.prog 31 #[.string s] w fun e w' => e = .returned (.bool A) ∧ w = w' := by
  refine (row_any s w hl).mono ?_
  rintro e w' ⟨rfl, rfl⟩
  exact ⟨by rw [h], rfl⟩
theorem one_dig (m : Nat) : DigB (49 :: List.replicate m 48) := by
  intro b hb
  rcases List.mem_cons.1 hb with rfl | h
  · simp
  · rw [(List.mem_replicate.1 h).2]; simp
theorem one_dval (m : Nat) : dvalB (49 :: List.replicate m 48) = 10 ^ m := by
  have h := dvalB_zeros m []
  rw [List.append_nil] at h
  rw [dvalB, h, List.length_replicate]
  simp [dvalB]
/-- A number in a box of its own, known whole. -/
theorem num_cells2 {w W : World} {sg : Bool} {a a' : Option Addr} {n c n' c' : Nat} (h : Below (w.heap.size + 1) (w.alloc (.cells #[.bool sg, .slice a n c, .slice a' n' c'] 38)) W) :
    W.cell? ⟨w.heap.size, 0, none⟩ = some (.bool sg) ∧ W.cell? ⟨w.heap.size, 1, none⟩ = some (.slice a n c) ∧ W.cell? ⟨w.heap.size, 2, none⟩ = some (.slice a' n' c') ∧
    W.frozen? ⟨w.heap.size, 0, none⟩ = false ∧ W.frozen? ⟨w.heap.size, 1, none⟩ = false ∧ W.frozen? ⟨w.heap.size, 2, none⟩ = false ∧ (∀ j x, W.cell? ⟨w.heap.size, j, none⟩ ≠ some (.int .i64 x)) ∧ w.heap.size < W.heap.size := by
  have hs := h.size
  simp at hs
  have hc : ∀ j, W.cell? ⟨w.heap.size, j, none⟩ = (w.alloc (.cells #[.bool sg, .slice a n c, .slice a' n' c'] 38)).cell? ⟨w.heap.size, j, none⟩ := fun j => h.cell (by show w.heap.size < _; omega)
  have hf : ∀ j, W.frozen? ⟨w.heap.size, j, none⟩ = (w.alloc (.cells #[.bool sg, .slice a n c, .slice a' n' c'] 38)).frozen? ⟨w.heap.size, j, none⟩ := fun j => h.frozen (by show w.heap.size < _; omega)
  refine ⟨by rw [hc]; simp, by rw [hc]; simp, by rw [hc]; simp, by rw [hf]; simp, by rw [hf]; simp, by rw [hf]; simp, fun j x => ?_, by omega⟩
  rw [hc]
  rcases Nat.lt_or_ge j 3 with hj | hj
  · have : j = 0 ∨ j = 1 ∨ j = 2 := by omega
    rcases this with rfl | rfl | rfl <;> simp
  · intro hx
    rw [cell_of_row _ w.heap.size j _ _ (0, 0) (heap_alloc_new w _)] at hx
    rw [Array.getElem?_eq_none (by simpa using hj)] at hx
    simp at hx
theorem NumR.stored2 {W : World} {t b : Value} {p q : Int} {neg : Bool} {L g : Nat} (h : NumR W (.agg #[.bool neg, t, b]) p q L) (hni : ∀ j x, W.cell? ⟨g, j, none⟩ ≠ some (.int .i64 x)) :
    NumR (((W.setCell ⟨g, 0, none⟩ (.bool neg)).setCell ⟨g, 1, none⟩ t).setCell ⟨g, 2, none⟩ b) (.agg #[.bool neg, t, b]) p q L := by
  obtain ⟨h1, zs, ys, ⟨t', b', he, g1, g2, g3⟩, h3⟩ := h
  have he2 := he
  simp only [Value.agg.injEq] at he
  have e1 : t = t' := by have := congrArg (fun a => a[1]!) he; simpa using this
  have e2 : b = b' := by have := congrArg (fun a => a[2]!) he; simpa using this
  subst e1 e2
  have a1 := g1.apart hni
  have a2 := g2.apart hni
  exact ⟨h1, zs, ys, ⟨_, _, he2, ((g1.setApart a1).setApart a1).setApart a1, ((g2.setApart a2).setApart a2).setApart a2, g3⟩, h3⟩

theorem three_cells {W : World} {g : Nat} {a b c x y z : Value} (h0 : W.cell? ⟨g, 0, none⟩ = some x) (h1 : W.cell? ⟨g, 1, none⟩ = some y) (h2 : W.cell? ⟨g, 2, none⟩ = some z) :
    (((W.setCell ⟨g, 0, none⟩ a).setCell ⟨g, 1, none⟩ b).setCell ⟨g, 2, none⟩ c).cell? ⟨g, 0, none⟩ = some a ∧ (((W.setCell ⟨g, 0, none⟩ a).setCell ⟨g, 1, none⟩ b).setCell ⟨g, 2, none⟩ c).cell? ⟨g, 1, none⟩ = some b ∧
    (((W.setCell ⟨g, 0, none⟩ a).setCell ⟨g, 1, none⟩ b).setCell ⟨g, 2, none⟩ c).cell? ⟨g, 2, none⟩ = some c := by
  have n01 : (⟨g, 0, none⟩ : Addr) ≠ ⟨g, 1, none⟩ := by simp
  have n02 : (⟨g, 0, none⟩ : Addr) ≠ ⟨g, 2, none⟩ := by simp
  have n12 : (⟨g, 1, none⟩ : Addr) ≠ ⟨g, 2, none⟩ := by simp
  have k1 : (W.setCell ⟨g, 0, none⟩ a).cell? ⟨g, 1, none⟩ = some y := by rw [World.cell?_setCell_other (h := n01)]; exact h1
  have k2 : ((W.setCell ⟨g, 0, none⟩ a).setCell ⟨g, 1, none⟩ b).cell? ⟨g, 2, none⟩ = some z := by rw [World.cell?_setCell_other (h := n12), World.cell?_setCell_other (h := n02)]; exact h2
  refine ⟨?_, ?_, ?_⟩
  · rw [World.cell?_setCell_other (h := n02.symm), World.cell?_setCell_other (h := n01.symm)]; exact World.cell?_setCell_same (h := h0) ..
  · rw [World.cell?_setCell_other (h := n12.symm)]; exact World.cell?_setCell_same (h := k1) ..
  · exact World.cell?_setCell_same (h := k2) ..
/-- What the reference reckons is what the program answers. -/
theorem rc_of (l : List UInt8) (s way : Int) (neg : Bool) (hs : isScaleN s) (hw : 1 ≤ way ∧ way ≤ 3) (hok : DecOk l) (hneg : ∀ x, sgD l x = if neg = true then -x else x) (wl pl : List UInt8) (hwl : takeD (bodyD l) = wl) (hpl : (dropD (bodyD l)).tail = pl)
    (hpd : DigB pl) (X : List UInt8) (m : Nat) (hm : m = pl.length) (hX : dvalB X = dvalB wl * 10 ^ pl.length + dvalB pl) (rd : Int)
    (hrd : rdV (decide ((if neg = true then -((dvalB X : Nat) : Int) else ((dvalB X : Nat) : Int)) * s < 0)) way ((((if neg = true then -((dvalB X : Nat) : Int) else ((dvalB X : Nat) : Int)) * s).natAbs : Nat) : Int) (((10 ^ m : Nat) : Int) * 1) = rd) :
    (rd ≤ 1000000000000000 → rcF l s way = 0 ∧ rcV l s way = sgnI (decide ((if neg = true then -((dvalB X : Nat) : Int) else ((dvalB X : Nat) : Int)) * s < 0)) rd) ∧ (¬ rd ≤ 1000000000000000 → rcF l s way = 1 ∧ rcV l s way = 0) := by
  have hm9 : pl.length ≤ 9 := by
    by_cases hd : dropD (bodyD l) = []
    · rw [← hpl, hd]; simp
    · rw [← hpl]; exact (hok.2.2 hd).2
  have hlt := dvalB_lt pl hpd
  rw [← hm] at hX hlt hm9
  rw [Int.mul_one] at hrd
  have hT : decQ l s way = portQ (if neg = true then -(min (dvalB wl : Int) 1000000000000001) else min (dvalB wl : Int) 1000000000000001) s 1 way + portQ (if neg = true then -(dvalB pl : Int) else (dvalB pl : Int)) s ((10 ^ m : Nat) : Int) way := by
    unfold decQ
    have hp9 := pow9 m hm9
    rw [hneg, hneg, hwl, hpl, ← hm, numV_small pl (by omega)]
    rfl
  obtain ⟨h1, h2⟩ := dec_read neg way s (dvalB wl) (dvalB pl) m hs hm9 hlt ((dvalB X : Nat) : Int) ((if neg = true then -((dvalB X : Nat) : Int) else ((dvalB X : Nat) : Int)) * s) (decQ l s way) rd (by rw [hX]) rfl hT hrd.symm
  constructor
  · intro h
    have e0 := rcF_time hs hw hok (h1.2 h)
    exact ⟨e0, by unfold rcV; rw [if_pos e0, h2 h]⟩
  · intro h
    have e0 := rcF_far hs hw hok (fun hx => h (h1.1 hx))
    exact ⟨e0, by unfold rcV; rw [e0]; rfl⟩
theorem num_head {l : List UInt8} (h : allDig l = true) (hn : ¬ NumOk l) : 1 < l.length ∧ l.head? = some 48 := by
  cases l with
  | nil => simp [allDig] at h
  | cons b r =>
    by_cases hb : b = 48
    · subst hb
      refine ⟨?_, rfl⟩
      cases r with
      | nil => exact absurd ⟨h, .inl rfl⟩ hn
      | cons c t => simp
    · exact absurd ⟨h, .inr (by simp [hb])⟩ hn
theorem num_head_ok {l : List UInt8} (hn : NumOk l) : l.length = 1 ∨ ∃ b r, l = b :: r ∧ b ≠ 48 := by
  obtain ⟨h1, h2 | h2⟩ := hn
  · left; rw [h2]; rfl
  · right
    cases l with
    | nil => simp [allDig] at h1
    | cons b r => exact ⟨b, r, rfl, fun hx => h2 (by rw [hx]; rfl)⟩


set_option maxRecDepth 100000 in
set_option maxHeartbeats 4000000 in
theorem rrd_00L (t : ByteArray) (s way : Int) (w : World) (hsz : t.size ≤ 9223372036854775807) (hs : isScaleN s) (hw : 1 ≤ way ∧ way ≤ 3) (hh : t.data.toList.head? ≠ some 45) (hd : dropD (bodyD t.data.toList) = []) (hlong : 30 < t.size) :
    Calls Tryz.prog 7 #[.string t, .int .i64 s, .int .i64 way] w fun e w' => e = .returned (.tuple #[.int .i64 0, .int .i64 10]) ∧ Below w.heap.size w w' := by
  obtain ⟨l, hll⟩ : ∃ l, t.data.toList = l := ⟨_, rfl⟩
  have htl := size_list t l hll
  rw [hll] at hh hd
  have hbl := bodyD_len l
  have hb : bodyD l = l := by unfold bodyD; rw [if_neg hh]
  obtain ⟨B, hB⟩ : ∃ B, bodyD l = B := ⟨_, rfl⟩
  have HBO := Lib.hid hB
  rw [hB] at hb hbl hd
  have htk := takeD_len B
  have hdr := dropD_len B
  have HS := Lib.hid hs; have HD := Lib.hid hd; have HH := Lib.hid hh; have HB := Lib.hid hb; have HLL := Lib.hid hll; have HTL := Lib.hid htl; have HBL := Lib.hid hbl; have HTK := Lib.hid htk; have HDR := Lib.hid hdr
  obtain ⟨w1, w2⟩ := hw
  obtain ⟨s1, s2⟩ := hs
  have hlg : decide (30 < t.size) = true := by simp only [decide_eq_true_eq]; omega
  have hlg' : decide (30 < (t.size : Int)) = true := by simp only [decide_eq_true_eq]; omega
  clear hd hh hb hll htl hbl htk hdr hB
  go_enter Tryz.func7, Tryz.ntmps7
  go_wp2_with fail
  refine (rscale_yes _ _ HS.out).mono ?_; rintro e w' ⟨rfl, rfl⟩
  go_wp2_with fail
  refine (rway_yes _ _ ⟨by omega, by omega⟩).mono ?_; rintro e w' ⟨rfl, rfl⟩
  go_wp2_with fail
  refine (trim_no t _ (by rw [HLL.out]; exact HH.out)).mono ?_; rintro e w' ⟨rfl, rfl⟩
  have HR : Hid (t.data.toList = B) := Lib.hid (by rw [HLL.out]; exact HB.out.symm)
  go_wp2_with fail
  have hdd : dropD t.data.toList = [] := by rw [HR.out]; exact HD.out
  have htd : takeD B = B := by have := split_dot B; rw [HD.out, List.append_nil] at this; exact this
  have HDD := Lib.hid hdd; have HTD := Lib.hid htd
  clear hdd htd
  refine (cutDot_no t _ HDD.out).mono ?_; rintro e w3 ⟨rfl, rfl⟩
  have HX : Hid (t.data.toList = takeD B) := Lib.hid (by rw [HR.out]; exact HTD.out.symm)
  have HQ : Hid (Below w.heap.size w w) := Lib.hid (Below.refl _ _)
  go_wp2_with fail
  go_ret2
  exact ⟨rfl, HQ.out⟩


set_option maxRecDepth 100000 in
set_option maxHeartbeats 4000000 in
theorem rrd_00N (t : ByteArray) (s way : Int) (w : World) (hsz : t.size ≤ 9223372036854775807) (hs : isScaleN s) (hw : 1 ≤ way ∧ way ≤ 3) (hh : t.data.toList.head? ≠ some 45) (hd : dropD (bodyD t.data.toList) = []) (hlong : t.size ≤ 30) (hnum : allDig (takeD (bodyD t.data.toList)) = false) :
    Calls Tryz.prog 7 #[.string t, .int .i64 s, .int .i64 way] w fun e w' => e = .returned (.tuple #[.int .i64 0, .int .i64 10]) ∧ Below w.heap.size w w' := by
  obtain ⟨l, hll⟩ : ∃ l, t.data.toList = l := ⟨_, rfl⟩
  have htl := size_list t l hll
  rw [hll] at hh hd hnum
  have hbl := bodyD_len l
  have hb : bodyD l = l := by unfold bodyD; rw [if_neg hh]
  obtain ⟨B, hB⟩ : ∃ B, bodyD l = B := ⟨_, rfl⟩
  have HBO := Lib.hid hB
  rw [hB] at hb hbl hd hnum
  have htk := takeD_len B
  have hdr := dropD_len B
  have HS := Lib.hid hs; have HD := Lib.hid hd; have HH := Lib.hid hh; have HB := Lib.hid hb; have HLL := Lib.hid hll; have HTL := Lib.hid htl; have HBL := Lib.hid hbl; have HTK := Lib.hid htk; have HDR := Lib.hid hdr
  obtain ⟨w1, w2⟩ := hw
  obtain ⟨s1, s2⟩ := hs
  have Hhnum := Lib.hid hnum
  clear hnum
  have hlg : decide (30 < t.size) = false := by simp only [decide_eq_false_iff_not]; omega
  have hlg' : decide (30 < (t.size : Int)) = false := by simp only [decide_eq_false_iff_not]; omega
  clear hd hh hb hll htl hbl htk hdr hB
  go_enter Tryz.func7, Tryz.ntmps7
  go_wp2_with fail
  refine (rscale_yes _ _ HS.out).mono ?_; rintro e w' ⟨rfl, rfl⟩
  go_wp2_with fail
  refine (rway_yes _ _ ⟨by omega, by omega⟩).mono ?_; rintro e w' ⟨rfl, rfl⟩
  go_wp2_with fail
  refine (trim_no t _ (by rw [HLL.out]; exact HH.out)).mono ?_; rintro e w' ⟨rfl, rfl⟩
  have HR : Hid (t.data.toList = B) := Lib.hid (by rw [HLL.out]; exact HB.out.symm)
  go_wp2_with fail
  have hdd : dropD t.data.toList = [] := by rw [HR.out]; exact HD.out
  have htd : takeD B = B := by have := split_dot B; rw [HD.out, List.append_nil] at this; exact this
  have HDD := Lib.hid hdd; have HTD := Lib.hid htd
  clear hdd htd
  refine (cutDot_no t _ HDD.out).mono ?_; rintro e w3 ⟨rfl, rfl⟩
  have HX : Hid (t.data.toList = takeD B) := Lib.hid (by rw [HR.out]; exact HTD.out.symm)
  have HQ : Hid (Below w.heap.size w w) := Lib.hid (Below.refl _ _)
  have hxs : t.size ≤ 1000000 := by rw [size_list t _ HX.out]; have := HTK.out; have := HBL.out; have := HTL.out; omega
  go_wp2_with fail
  refine (row_dr t false _ hxs (by rw [HX.out]; exact Hhnum.out)).mono ?_; rintro e w4 ⟨rfl, rfl⟩
  go_wp2_with fail
  go_ret2
  exact ⟨rfl, HQ.out⟩


set_option maxRecDepth 100000 in
set_option maxHeartbeats 4000000 in
theorem rrd_00Z (t : ByteArray) (s way : Int) (w : World) (hsz : t.size ≤ 9223372036854775807) (hs : isScaleN s) (hw : 1 ≤ way ∧ way ≤ 3) (hh : t.data.toList.head? ≠ some 45) (hd : dropD (bodyD t.data.toList) = []) (hlong : t.size ≤ 30) (hnum : allDig (takeD (bodyD t.data.toList)) = true) (hz : ¬ NumOk (takeD (bodyD t.data.toList))) :
    Calls Tryz.prog 7 #[.string t, .int .i64 s, .int .i64 way] w fun e w' => e = .returned (.tuple #[.int .i64 0, .int .i64 10]) ∧ Below w.heap.size w w' := by
  obtain ⟨l, hll⟩ : ∃ l, t.data.toList = l := ⟨_, rfl⟩
  have htl := size_list t l hll
  rw [hll] at hh hd hnum hz
  have hbl := bodyD_len l
  have hb : bodyD l = l := by unfold bodyD; rw [if_neg hh]
  obtain ⟨B, hB⟩ : ∃ B, bodyD l = B := ⟨_, rfl⟩
  have HBO := Lib.hid hB
  rw [hB] at hb hbl hd hnum hz
  have htk := takeD_len B
  have hdr := dropD_len B
  have HS := Lib.hid hs; have HD := Lib.hid hd; have HH := Lib.hid hh; have HB := Lib.hid hb; have HLL := Lib.hid hll; have HTL := Lib.hid htl; have HBL := Lib.hid hbl; have HTK := Lib.hid htk; have HDR := Lib.hid hdr
  obtain ⟨w1, w2⟩ := hw
  obtain ⟨s1, s2⟩ := hs
  have Hhnum := Lib.hid hnum
  have Hhz := Lib.hid hz
  clear hnum hz
  have hlg : decide (30 < t.size) = false := by simp only [decide_eq_false_iff_not]; omega
  have hlg' : decide (30 < (t.size : Int)) = false := by simp only [decide_eq_false_iff_not]; omega
  clear hd hh hb hll htl hbl htk hdr hB
  go_enter Tryz.func7, Tryz.ntmps7
  go_wp2_with fail
  refine (rscale_yes _ _ HS.out).mono ?_; rintro e w' ⟨rfl, rfl⟩
  go_wp2_with fail
  refine (rway_yes _ _ ⟨by omega, by omega⟩).mono ?_; rintro e w' ⟨rfl, rfl⟩
  go_wp2_with fail
  refine (trim_no t _ (by rw [HLL.out]; exact HH.out)).mono ?_; rintro e w' ⟨rfl, rfl⟩
  have HR : Hid (t.data.toList = B) := Lib.hid (by rw [HLL.out]; exact HB.out.symm)
  go_wp2_with fail
  have hdd : dropD t.data.toList = [] := by rw [HR.out]; exact HD.out
  have htd : takeD B = B := by have := split_dot B; rw [HD.out, List.append_nil] at this; exact this
  have HDD := Lib.hid hdd; have HTD := Lib.hid htd
  clear hdd htd
  refine (cutDot_no t _ HDD.out).mono ?_; rintro e w3 ⟨rfl, rfl⟩
  have HX : Hid (t.data.toList = takeD B) := Lib.hid (by rw [HR.out]; exact HTD.out.symm)
  have HQ : Hid (Below w.heap.size w w) := Lib.hid (Below.refl _ _)
  have hxs : t.size ≤ 1000000 := by rw [size_list t _ HX.out]; have := HTK.out; have := HBL.out; have := HTL.out; omega
  obtain ⟨zl, zh⟩ := num_head Hhnum.out Hhz.out
  have hx0 : 1 < t.size := by rw [size_list t _ HX.out]; exact zl
  have hx0' : decide (1 < t.size) = true := by simp only [decide_eq_true_eq]; exact hx0
  have hx0'' : decide (1 < (t.size : Int)) = true := by simp only [decide_eq_true_eq]; omega
  have hxp : 0 < t.size := by omega
  have hbyte : ((t[0].toNat : Int) == 48) = true := by
    have h1 : 0 < (takeD B).length := by omega
    have h2 := byte_at t _ HX.out 0 hxp h1
    have h3 : (takeD B)[0] = 48 := by
      rw [List.head?_eq_getElem?, List.getElem?_eq_getElem h1] at zh
      exact Option.some.inj zh
    rw [← h2, h3]; rfl
  clear zl zh
  go_wp2_with fail
  refine (row_dr t true _ hxs (by rw [HX.out]; exact Hhnum.out)).mono ?_; rintro e w4 ⟨rfl, rfl⟩
  go_wp2_with fail
  go_ret2
  exact ⟨rfl, HQ.out⟩


set_option maxRecDepth 100000 in
set_option maxHeartbeats 8000000 in
theorem rrd_00G (t : ByteArray) (s way : Int) (w : World) (htab : Tab w) (hsz : t.size ≤ 9223372036854775807) (hs : isScaleN s) (hw : 1 ≤ way ∧ way ≤ 3) (hh : t.data.toList.head? ≠ some 45) (hd : dropD (bodyD t.data.toList) = []) (hlong : t.size ≤ 30) (hnum : NumOk (takeD (bodyD t.data.toList))) :
    Calls Tryz.prog 7 #[.string t, .int .i64 s, .int .i64 way] w fun e w' => e = .returned (.tuple #[.int .i64 (rcV t.data.toList s way), .int .i64 (rcF t.data.toList s way)]) ∧ Below w.heap.size w w' := by
  obtain ⟨l, hll⟩ : ∃ l, t.data.toList = l := ⟨_, rfl⟩
  have htl := size_list t l hll
  rw [hll] at hh hd hnum
  have hbl := bodyD_len l
  have hb : bodyD l = l := by unfold bodyD; rw [if_neg hh]
  have HDOK : Hid (DecOk l) := Lib.hid ⟨by omega, hnum, fun hx => absurd hd hx⟩
  have HSGD : Hid (∀ x, sgD l x = if false = true then -x else x) := Lib.hid (fun x => by unfold sgD; rw [if_neg hh]; simp)
  have HBO0 := Lib.hid (rfl : bodyD l = bodyD l)
  obtain ⟨B, hB⟩ : ∃ B, bodyD l = B := ⟨_, rfl⟩
  have HBO := Lib.hid hB
  rw [hB] at hb hbl hd hnum
  have htk := takeD_len B
  have hdr := dropD_len B
  have HS := Lib.hid hs; have HD := Lib.hid hd; have HH := Lib.hid hh; have HB := Lib.hid hb; have HLL := Lib.hid hll; have HTL := Lib.hid htl; have HBL := Lib.hid hbl; have HTK := Lib.hid htk; have HDR := Lib.hid hdr
  obtain ⟨w1, w2⟩ := hw
  obtain ⟨s1, s2⟩ := hs
  have HT := Lib.hid htab
  clear htab
  have Hhnum := Lib.hid hnum
  clear hnum
  have hlg : decide (30 < t.size) = false := by simp only [decide_eq_false_iff_not]; omega
  have hlg' : decide (30 < (t.size : Int)) = false := by simp only [decide_eq_false_iff_not]; omega
  clear hd hh hb hll htl hbl htk hdr hB
  go_enter Tryz.func7, Tryz.ntmps7
  go_wp2_with fail
  refine (rscale_yes _ _ HS.out).mono ?_; rintro e w' ⟨rfl, rfl⟩
  go_wp2_with fail
  refine (rway_yes _ _ ⟨by omega, by omega⟩).mono ?_; rintro e w' ⟨rfl, rfl⟩
  go_wp2_with fail
  refine (trim_no t _ (by rw [HLL.out]; exact HH.out)).mono ?_; rintro e w' ⟨rfl, rfl⟩
  have HR : Hid (t.data.toList = B) := Lib.hid (by rw [HLL.out]; exact HB.out.symm)
  go_wp2_with fail
  have hdd : dropD t.data.toList = [] := by rw [HR.out]; exact HD.out
  have htd : takeD B = B := by have := split_dot B; rw [HD.out, List.append_nil] at this; exact this
  have HDD := Lib.hid hdd; have HTD := Lib.hid htd
  clear hdd htd
  refine (cutDot_no t _ HDD.out).mono ?_; rintro e w3 ⟨rfl, rfl⟩
  have HX : Hid (t.data.toList = takeD B) := Lib.hid (by rw [HR.out]; exact HTD.out.symm)
  have HQ : Hid (Below w.heap.size w w) := Lib.hid (Below.refl _ _)
  have hxs : t.size ≤ 1000000 := by rw [size_list t _ HX.out]; have := HTK.out; have := HBL.out; have := HTL.out; omega
  have hcase : (decide (1 < t.size) = false ∧ decide (1 < (t.size : Int)) = false) ∨ (decide (1 < t.size) = true ∧ decide (1 < (t.size : Int)) = true) ∧ ∃ (hxp : 0 < t.size), ((t[0].toNat : Int) == 48) = false := by
    have hsx := size_list t _ HX.out
    by_cases h1 : 1 < t.size
    · right
      refine ⟨⟨by simp only [decide_eq_true_eq]; exact h1, by simp only [decide_eq_true_eq]; omega⟩, by omega, ?_⟩
      rcases num_head_ok Hhnum.out with h2 | ⟨b, r, h2, h3⟩
      · omega
      · have h4 : 0 < (takeD B).length := by omega
        have h5 := byte_at t _ HX.out 0 (by omega) h4
        rw [← h5]
        simp only [h2, List.getElem_cons_zero]
        rw [beq_eq_false_iff_ne]
        intro hx
        exact h3 (UInt8.toNat.inj (by have h48 : (48 : UInt8).toNat = 48 := rfl; omega))
    · left
      exact ⟨by simp only [decide_eq_false_iff_not]; exact h1, by simp only [decide_eq_false_iff_not]; omega⟩
  have hwd : DigB t.data.toList := by rw [HX.out]; exact ((allDig_iff _).1 Hhnum.out.1).1
  have hxi : (t.size : Int) ≤ 8388608 := by omega
  have hyi : ((⟨#[]⟩ : ByteArray).size : Int) ≤ 8388608 := by decide
  have hx30 : t.size ≤ 30 := by rw [size_list t _ HX.out]; have := HTK.out; have := HBL.out; have := HTL.out; omega
  have HCL : Hid ((t ++ ⟨#[]⟩).data.toList = t.data.toList) := Lib.hid (by rw [cat_list]; simp)
  have HCD : Hid (DigB t.data.toList) := Lib.hid hwd
  have HCS : Hid (t.data.toList.length ≤ 100) := Lib.hid (by rw [← size_list t _ rfl]; omega)
  have HUP : Hid ((0 : Int) < ((10 ^ 0 : Nat) : Int)) := Lib.hid (by decide)
  clear hwd
  have hrc : (∀ rd, rdV (decide ((if false = true then -((dvalB t.data.toList : Nat) : Int) else ((dvalB t.data.toList : Nat) : Int)) * s < 0)) way ((((if false = true then -((dvalB t.data.toList : Nat) : Int) else ((dvalB t.data.toList : Nat) : Int)) * s).natAbs : Nat) : Int) (((10 ^ 0 : Nat) : Int) * 1) = rd → (rd ≤ 1000000000000000 → rcF l s way = 0 ∧ rcV l s way = sgnI (decide ((if false = true then -((dvalB t.data.toList : Nat) : Int) else ((dvalB t.data.toList : Nat) : Int)) * s < 0)) rd) ∧ (¬ rd ≤ 1000000000000000 → rcF l s way = 1 ∧ rcV l s way = 0)) := (by
    intro rd hrd
    have hbo : bodyD l = B := HBO.out
    exact rc_of l s way false HS.out ⟨w1, w2⟩ HDOK.out HSGD.out (takeD B) (dropD B).tail (by rw [hbo]) (by rw [hbo]) (by rw [HD.out]; exact DigB.nil) t.data.toList 0 (by rw [HD.out]; rfl) (by rw [HX.out, HD.out]; simp [dvalB]) rd hrd)
  obtain ⟨PPv, hPP⟩ : ∃ PPv : Int, (if false = true then -((dvalB t.data.toList : Nat) : Int) else ((dvalB t.data.toList : Nat) : Int)) = PPv := ⟨_, rfl⟩
  rw [hPP] at hrc
  have HPP := Lib.hid hPP; have HRC := Lib.hid hrc
  clear hPP hrc
  go_wp2_with fail
  refine (row_dr t true _ hxs (by rw [HX.out]; exact Hhnum.out.1)).mono ?_; rintro e w4 ⟨rfl, rfl⟩
  rcases hcase with ⟨hc1, hc2⟩ | ⟨⟨hc1, hc2⟩, hxp, hc3⟩
  all_goals
    go_wp2_with fail
    obtain ⟨CC, hCC⟩ : ∃ C : ByteArray, (t ++ ⟨#[]⟩) = C := ⟨_, rfl⟩
    have hcl := HCL.out
    rw [hCC] at hcl ⊢
    have HCC := Lib.hid hcl
    have hccs : CC.size ≤ 100 := by rw [size_list CC _ hcl]; exact HCS.out
    clear hCC hcl
    refine (limbs_any CC (by rw [HCC.out]; exact HCD.out) hccs _).mono ?_
    rintro e w6 ⟨⟨r6, rfl, xs, g1, g2, g3, g4⟩, b6⟩
    rw [HCC.out] at g3
    have B6 := Lib.hid (HQ.out.trans (b6.mono HQ.out.size))
    have G1 := Lib.hid g1; have G2 := Lib.hid g2; have G3 := Lib.hid g3; have G4 := Lib.hid g4
    clear g1 g2 g3 g4 b6
    go_wp2_with fail
    refine (Tryz.strings_Repeat ⟨#[48]⟩ 0 _ (by omega) (by have : (⟨#[48]⟩ : ByteArray).size = 1 := rfl; rw [this]; omega)).mono ?_
    rintro e w7 ⟨rfl, b7⟩
    have hrl : Lib.repeatL (⟨#[48]⟩ : ByteArray).data.toList 0 = List.replicate 0 48 := repeatL_zero 0
    rw [hrl]
    obtain ⟨Zr, hZr⟩ : ∃ Z : ByteArray, (⟨(List.replicate 0 48).toArray⟩ : ByteArray) = Z := ⟨_, rfl⟩
    have hZl : Zr.data.toList = List.replicate 0 48 := by rw [← hZr]
    have hZs : (Zr.size : Int) ≤ 8388608 := by rw [size_list Zr _ hZl, List.length_replicate]; omega
    rw [hZr]
    have B7 := Lib.hid (B6.out.trans (b7.mono B6.out.size))
    have G1b := Lib.hid (G1.out.below b7 (Nat.le_refl _))
    have k49 : ((⟨#[49]⟩ : ByteArray).size : Int) ≤ 8388608 := by decide
    have HOL : Hid ((⟨#[49]⟩ ++ Zr : ByteArray).data.toList = 49 :: List.replicate 0 48) := Lib.hid (by rw [cat_list, hZl]; rfl)
    clear hrl hZr hZl b7
    go_wp2_with fail
    obtain ⟨O, hO⟩ : ∃ O : ByteArray, (⟨#[49]⟩ : ByteArray) ++ Zr = O := ⟨_, rfl⟩
    have hol := HOL.out
    rw [hO] at hol ⊢
    have HOO := Lib.hid hol
    have hos : O.size ≤ 100 := by rw [size_list O _ hol, List.length_cons, List.length_replicate]; omega
    clear hO hol HOL
    refine (limbs_any O (by rw [HOO.out]; exact one_dig _) hos _).mono ?_
    rintro e w8 ⟨⟨r8, rfl, ys, g1, g2, g3, g4⟩, b8⟩
    rw [HOO.out, one_dval] at g3
    have B8 := Lib.hid (B7.out.trans (b8.mono B7.out.size))
    have G1c := Lib.hid (G1b.out.below b8 (Nat.le_refl _))
    have K1 := Lib.hid g1; have K2 := Lib.hid g2; have K3 := Lib.hid g3; have K4 := Lib.hid g4
    clear g1 g2 g3 g4 b8
    go_wp2_with fail
    refine (lowest_num false _ _ xs ys _ 30 G1c.out K1.out G2.out K2.out (by rw [K3.out]; exact HUP.out) G4.out K4.out (by omega)).mono ?_
    rintro e w9 ⟨⟨r9, rfl, hr⟩, b9⟩
    rw [G3.out, K3.out] at hr
    have B9 := Lib.hid (B8.out.trans (b9.mono B8.out.size))
    obtain ⟨sg, a8, n8, c8, a9, n9, c9, rfl⟩ := hr.shape2
    have HR9 := Lib.hid hr
    clear hr b9
    go_wp2_with fail
    obtain ⟨W, hW⟩ : ∃ W, w9.alloc (.cells #[.bool sg, .slice a8 n8 c8, .slice a9 n9 c9] 38) = W := ⟨_, rfl⟩
    have hWs : W.heap.size = w9.heap.size + 1 := by rw [← hW]; simp
    have q1 : W.cell? ⟨w9.heap.size, 0, none⟩ = some (.bool sg) := by rw [← hW]; simp
    have q2 : W.cell? ⟨w9.heap.size, 1, none⟩ = some (.slice a8 n8 c8) := by rw [← hW]; simp
    have q3 : W.cell? ⟨w9.heap.size, 2, none⟩ = some (.slice a9 n9 c9) := by rw [← hW]; simp
    have HWB : Hid (Below w.heap.size w W) := Lib.hid (by rw [← hW]; exact B9.out.alloc (by have := B9.out.size; omega) _)
    have HRW : Hid (NumR W (.agg #[.bool sg, .slice a8 n8 c8, .slice a9 n9 c9]) PPv ((10 ^ 0 : Nat) : Int) 30) := Lib.hid (by rw [← hW, ← HPP.out]; exact HR9.out.below ((Below.refl w9.heap.size w9).alloc (Nat.le_refl _) _) (Nat.le_refl _))
    rw [hW]
    clear hW
    obtain ⟨rd, hrd⟩ : ∃ rd, rdV (decide (PPv * s < 0)) way (((PPv * s).natAbs : Nat) : Int) (((10 ^ 0 : Nat) : Int) * 1) = rd := ⟨_, rfl⟩
    obtain ⟨V, hV⟩ : ∃ V, sgnI (decide (PPv * s < 0)) rd = V := ⟨_, rfl⟩
    have HRD := Lib.hid hrd; have HV := Lib.hid hV
    clear hrd hV
    by_cases hok : rd ≤ 1000000000000000
    · have hc1 : (if 1000000000000000 < rd then 0 else sgnI (decide (PPv * s < 0)) rd) = V := by rw [if_neg (by omega)]; exact HV.out
      have hc2 : decide (rd ≤ 1000000000000000) = true := by simp only [decide_eq_true_eq]; exact hok
      have HC1 := Lib.hid hc1; have HC2 := Lib.hid hc2; have HOK := Lib.hid hok
      clear hc1 hc2 hok
      go_region_held3 (fun w' => w'.cell? ⟨w9.heap.size, 0, none⟩ = some (.bool sg) ∧ w'.cell? ⟨w9.heap.size, 1, none⟩ = some (.slice a8 n8 c8) ∧ w'.cell? ⟨w9.heap.size, 2, none⟩ = some (.slice a9 n9 c9))
        (first
          | (refine ⟨?_, ?_, ?_⟩ <;> (rw [b3.cell (by simp; omega)]; simp [*]; done))
          | (go_keep; done))
        (first
          | (go_at_call 38
             refine (int_any s (by omega) (by omega) _ ?g1).mono ?_
             (case g1 => exact HT.out.below (by repeat (first | exact HWB.out | apply below_drewN | apply Below.drew)) (Nat.le_refl _))
             rintro e w3 ⟨⟨r3, rfl, k3⟩, b3⟩
             have K5 := Lib.hid k3
             have BW3 : Hid (Below W.heap.size W w3) := Lib.hid (Below.trans (by repeat (first | exact Below.refl _ _ | apply below_drewN | apply Below.drew)) (b3.mono (by simp)))
             have hs3 : w9.heap.size + 1 ≤ w3.heap.size := by have := BW3.out.size; omega
             clear k3)
          | (go_at_call 37
             refine (times_num _ _ PPv ((10 ^ 0 : Nat) : Int) s 1 _ 30 30 ?g1 ?g2 (by omega)).mono ?_
             (case g1 => exact HRW.out.below (by repeat (first | exact BW3.out | apply below_drewN | apply Below.drew)) (Nat.le_refl _))
             (case g2 => exact K5.out.below (B := w3.heap.size) (by repeat (first | exact Below.refl _ _ | apply below_drewN | apply Below.drew)) (Nat.le_refl _))
             rintro e w5 ⟨⟨r5, rfl, k5⟩, b3⟩
             have K6 := Lib.hid k5
             have BW5 : Hid (Below W.heap.size W w5) := Lib.hid (Below.trans (by repeat (first | exact BW3.out | apply below_drewN | apply Below.drew)) (b3.mono (by first | exact BW3.out.size | (simp; exact BW3.out.size))))
             have hs5 : w9.heap.size + 1 ≤ w5.heap.size := by have := BW5.out.size; omega
             clear k5)
          | (go_at_call 36
             refine (roundn_num _ (PPv * s) (((10 ^ 0 : Nat) : Int) * 1) _ way 1000000000000000 60 ?g1 ?g2 ⟨w1, w2⟩ (by omega) (by omega) (by omega)).mono ?_
             (case g1 => exact HT.out.below (HWB.out.trans (by repeat (first | exact BW5.out.mono (by have := HWB.out.size; omega) | apply below_drewN | apply Below.drew))) (Nat.le_refl _))
             (case g2 => exact K6.out.below (B := w5.heap.size) (by repeat (first | exact Below.refl _ _ | apply below_drewN | apply Below.drew)) (Nat.le_refl _))
             rintro e w7 ⟨rfl, b3⟩
             rw [HRD.out, HC1.out, HC2.out]
             have BW7 : Hid (Below W.heap.size W w7) := Lib.hid (Below.trans (by repeat (first | exact BW5.out | apply below_drewN | apply Below.drew)) (b3.mono (by first | exact BW5.out.size | (simp; exact BW5.out.size))))
             have hs7 : w9.heap.size + 1 ≤ w7.heap.size := by have := BW7.out.size; omega))
      all_goals
        go_wp2_with fail
        go_ret2
        refine ⟨ret2_ii ?_ ?_, by repeat (first | exact HWB.out.trans (BW7.out.mono (by have := HWB.out.size; omega)) | apply below_drewN | apply Below.drew)⟩
        · have := HRC.out rd HRD.out; rw [HLL.out, ((this.1) HOK.out).2]; exact HV.out.symm
        · have := HRC.out rd HRD.out; rw [HLL.out, ((this.1) HOK.out).1]
    · have hc1 : (if 1000000000000000 < rd then 0 else sgnI (decide (PPv * s < 0)) rd) = 0 := by rw [if_pos (by omega)]
      have hc2 : decide (rd ≤ 1000000000000000) = false := by simp only [decide_eq_false_iff_not]; exact hok
      have HC1 := Lib.hid hc1; have HC2 := Lib.hid hc2; have HOK := Lib.hid hok
      clear hc1 hc2 hok
      go_region_held3 (fun w' => w'.cell? ⟨w9.heap.size, 0, none⟩ = some (.bool sg) ∧ w'.cell? ⟨w9.heap.size, 1, none⟩ = some (.slice a8 n8 c8) ∧ w'.cell? ⟨w9.heap.size, 2, none⟩ = some (.slice a9 n9 c9))
        (first
          | (refine ⟨?_, ?_, ?_⟩ <;> (rw [b3.cell (by simp; omega)]; simp [*]; done))
          | (go_keep; done))
        (first
          | (go_at_call 38
             refine (int_any s (by omega) (by omega) _ ?g1).mono ?_
             (case g1 => exact HT.out.below (by repeat (first | exact HWB.out | apply below_drewN | apply Below.drew)) (Nat.le_refl _))
             rintro e w3 ⟨⟨r3, rfl, k3⟩, b3⟩
             have K5 := Lib.hid k3
             have BW3 : Hid (Below W.heap.size W w3) := Lib.hid (Below.trans (by repeat (first | exact Below.refl _ _ | apply below_drewN | apply Below.drew)) (b3.mono (by simp)))
             have hs3 : w9.heap.size + 1 ≤ w3.heap.size := by have := BW3.out.size; omega
             clear k3)
          | (go_at_call 37
             refine (times_num _ _ PPv ((10 ^ 0 : Nat) : Int) s 1 _ 30 30 ?g1 ?g2 (by omega)).mono ?_
             (case g1 => exact HRW.out.below (by repeat (first | exact BW3.out | apply below_drewN | apply Below.drew)) (Nat.le_refl _))
             (case g2 => exact K5.out.below (B := w3.heap.size) (by repeat (first | exact Below.refl _ _ | apply below_drewN | apply Below.drew)) (Nat.le_refl _))
             rintro e w5 ⟨⟨r5, rfl, k5⟩, b3⟩
             have K6 := Lib.hid k5
             have BW5 : Hid (Below W.heap.size W w5) := Lib.hid (Below.trans (by repeat (first | exact BW3.out | apply below_drewN | apply Below.drew)) (b3.mono (by first | exact BW3.out.size | (simp; exact BW3.out.size))))
             have hs5 : w9.heap.size + 1 ≤ w5.heap.size := by have := BW5.out.size; omega
             clear k5)
          | (go_at_call 36
             refine (roundn_num _ (PPv * s) (((10 ^ 0 : Nat) : Int) * 1) _ way 1000000000000000 60 ?g1 ?g2 ⟨w1, w2⟩ (by omega) (by omega) (by omega)).mono ?_
             (case g1 => exact HT.out.below (HWB.out.trans (by repeat (first | exact BW5.out.mono (by have := HWB.out.size; omega) | apply below_drewN | apply Below.drew))) (Nat.le_refl _))
             (case g2 => exact K6.out.below (B := w5.heap.size) (by repeat (first | exact Below.refl _ _ | apply below_drewN | apply Below.drew)) (Nat.le_refl _))
             rintro e w7 ⟨rfl, b3⟩
             rw [HRD.out, HC1.out, HC2.out]
             have BW7 : Hid (Below W.heap.size W w7) := Lib.hid (Below.trans (by repeat (first | exact BW5.out | apply below_drewN | apply Below.drew)) (b3.mono (by first | exact BW5.out.size | (simp; exact BW5.out.size))))
             have hs7 : w9.heap.size + 1 ≤ w7.heap.size := by have := BW7.out.size; omega))
      all_goals
        go_wp2_with fail
        go_ret2
        refine ⟨ret2_ii ?_ ?_, by repeat (first | exact HWB.out.trans (BW7.out.mono (by have := HWB.out.size; omega)) | apply below_drewN | apply Below.drew)⟩
        · have := HRC.out rd HRD.out; rw [HLL.out, ((this.2) HOK.out).2]
        · have := HRC.out rd HRD.out; rw [HLL.out, ((this.2) HOK.out).1]


set_option maxRecDepth 100000 in
set_option maxHeartbeats 4000000 in
theorem rrd_01L (t : ByteArray) (s way : Int) (w : World) (hsz : t.size ≤ 9223372036854775807) (hs : isScaleN s) (hw : 1 ≤ way ∧ way ≤ 3) (hh : t.data.toList.head? ≠ some 45) (hd : dropD (bodyD t.data.toList) ≠ []) (hlong : 30 < t.size) :
    Calls Tryz.prog 7 #[.string t, .int .i64 s, .int .i64 way] w fun e w' => e = .returned (.tuple #[.int .i64 0, .int .i64 10]) ∧ Below w.heap.size w w' := by
  obtain ⟨l, hll⟩ : ∃ l, t.data.toList = l := ⟨_, rfl⟩
  have htl := size_list t l hll
  rw [hll] at hh hd
  have hbl := bodyD_len l
  have hb : bodyD l = l := by unfold bodyD; rw [if_neg hh]
  obtain ⟨B, hB⟩ : ∃ B, bodyD l = B := ⟨_, rfl⟩
  have HBO := Lib.hid hB
  rw [hB] at hb hbl hd
  have htk := takeD_len B
  have hdr := dropD_len B
  have HS := Lib.hid hs; have HD := Lib.hid hd; have HH := Lib.hid hh; have HB := Lib.hid hb; have HLL := Lib.hid hll; have HTL := Lib.hid htl; have HBL := Lib.hid hbl; have HTK := Lib.hid htk; have HDR := Lib.hid hdr
  obtain ⟨w1, w2⟩ := hw
  obtain ⟨s1, s2⟩ := hs
  have hlg : decide (30 < t.size) = true := by simp only [decide_eq_true_eq]; omega
  have hlg' : decide (30 < (t.size : Int)) = true := by simp only [decide_eq_true_eq]; omega
  clear hd hh hb hll htl hbl htk hdr hB
  go_enter Tryz.func7, Tryz.ntmps7
  go_wp2_with fail
  refine (rscale_yes _ _ HS.out).mono ?_; rintro e w' ⟨rfl, rfl⟩
  go_wp2_with fail
  refine (rway_yes _ _ ⟨by omega, by omega⟩).mono ?_; rintro e w' ⟨rfl, rfl⟩
  go_wp2_with fail
  refine (trim_no t _ (by rw [HLL.out]; exact HH.out)).mono ?_; rintro e w' ⟨rfl, rfl⟩
  have HR : Hid (t.data.toList = B) := Lib.hid (by rw [HLL.out]; exact HB.out.symm)
  go_wp2_with fail
  refine (cutDot_yes t B _ HR.out HD.out hsz).mono ?_; rintro e w3 ⟨⟨X, Y, rfl, hX, hY⟩, q3, hw3⟩
  have HX := Lib.hid hX; have HY := Lib.hid hY
  have HQ : Hid (Below w.heap.size w w3) := Lib.hid (by rw [hw3]; exact below_drewN (Below.refl _ _) _)
  clear hX hY hw3
  go_wp2_with fail
  go_ret2
  exact ⟨rfl, HQ.out⟩


set_option maxRecDepth 100000 in
set_option maxHeartbeats 4000000 in
theorem rrd_01N (t : ByteArray) (s way : Int) (w : World) (hsz : t.size ≤ 9223372036854775807) (hs : isScaleN s) (hw : 1 ≤ way ∧ way ≤ 3) (hh : t.data.toList.head? ≠ some 45) (hd : dropD (bodyD t.data.toList) ≠ []) (hlong : t.size ≤ 30) (hnum : allDig (takeD (bodyD t.data.toList)) = false) :
    Calls Tryz.prog 7 #[.string t, .int .i64 s, .int .i64 way] w fun e w' => e = .returned (.tuple #[.int .i64 0, .int .i64 10]) ∧ Below w.heap.size w w' := by
  obtain ⟨l, hll⟩ : ∃ l, t.data.toList = l := ⟨_, rfl⟩
  have htl := size_list t l hll
  rw [hll] at hh hd hnum
  have hbl := bodyD_len l
  have hb : bodyD l = l := by unfold bodyD; rw [if_neg hh]
  obtain ⟨B, hB⟩ : ∃ B, bodyD l = B := ⟨_, rfl⟩
  have HBO := Lib.hid hB
  rw [hB] at hb hbl hd hnum
  have htk := takeD_len B
  have hdr := dropD_len B
  have HS := Lib.hid hs; have HD := Lib.hid hd; have HH := Lib.hid hh; have HB := Lib.hid hb; have HLL := Lib.hid hll; have HTL := Lib.hid htl; have HBL := Lib.hid hbl; have HTK := Lib.hid htk; have HDR := Lib.hid hdr
  obtain ⟨w1, w2⟩ := hw
  obtain ⟨s1, s2⟩ := hs
  have Hhnum := Lib.hid hnum
  clear hnum
  have hlg : decide (30 < t.size) = false := by simp only [decide_eq_false_iff_not]; omega
  have hlg' : decide (30 < (t.size : Int)) = false := by simp only [decide_eq_false_iff_not]; omega
  clear hd hh hb hll htl hbl htk hdr hB
  go_enter Tryz.func7, Tryz.ntmps7
  go_wp2_with fail
  refine (rscale_yes _ _ HS.out).mono ?_; rintro e w' ⟨rfl, rfl⟩
  go_wp2_with fail
  refine (rway_yes _ _ ⟨by omega, by omega⟩).mono ?_; rintro e w' ⟨rfl, rfl⟩
  go_wp2_with fail
  refine (trim_no t _ (by rw [HLL.out]; exact HH.out)).mono ?_; rintro e w' ⟨rfl, rfl⟩
  have HR : Hid (t.data.toList = B) := Lib.hid (by rw [HLL.out]; exact HB.out.symm)
  go_wp2_with fail
  refine (cutDot_yes t B _ HR.out HD.out hsz).mono ?_; rintro e w3 ⟨⟨X, Y, rfl, hX, hY⟩, q3, hw3⟩
  have HX := Lib.hid hX; have HY := Lib.hid hY
  have HQ : Hid (Below w.heap.size w w3) := Lib.hid (by rw [hw3]; exact below_drewN (Below.refl _ _) _)
  clear hX hY hw3
  have hxs : X.size ≤ 1000000 := by rw [size_list X _ HX.out]; have := HTK.out; have := HBL.out; have := HTL.out; omega
  go_wp2_with fail
  refine (row_dr X false _ hxs (by rw [HX.out]; exact Hhnum.out)).mono ?_; rintro e w4 ⟨rfl, rfl⟩
  go_wp2_with fail
  go_ret2
  exact ⟨rfl, HQ.out⟩


set_option maxRecDepth 100000 in
set_option maxHeartbeats 4000000 in
theorem rrd_01Z (t : ByteArray) (s way : Int) (w : World) (hsz : t.size ≤ 9223372036854775807) (hs : isScaleN s) (hw : 1 ≤ way ∧ way ≤ 3) (hh : t.data.toList.head? ≠ some 45) (hd : dropD (bodyD t.data.toList) ≠ []) (hlong : t.size ≤ 30) (hnum : allDig (takeD (bodyD t.data.toList)) = true) (hz : ¬ NumOk (takeD (bodyD t.data.toList))) :
    Calls Tryz.prog 7 #[.string t, .int .i64 s, .int .i64 way] w fun e w' => e = .returned (.tuple #[.int .i64 0, .int .i64 10]) ∧ Below w.heap.size w w' := by
  obtain ⟨l, hll⟩ : ∃ l, t.data.toList = l := ⟨_, rfl⟩
  have htl := size_list t l hll
  rw [hll] at hh hd hnum hz
  have hbl := bodyD_len l
  have hb : bodyD l = l := by unfold bodyD; rw [if_neg hh]
  obtain ⟨B, hB⟩ : ∃ B, bodyD l = B := ⟨_, rfl⟩
  have HBO := Lib.hid hB
  rw [hB] at hb hbl hd hnum hz
  have htk := takeD_len B
  have hdr := dropD_len B
  have HS := Lib.hid hs; have HD := Lib.hid hd; have HH := Lib.hid hh; have HB := Lib.hid hb; have HLL := Lib.hid hll; have HTL := Lib.hid htl; have HBL := Lib.hid hbl; have HTK := Lib.hid htk; have HDR := Lib.hid hdr
  obtain ⟨w1, w2⟩ := hw
  obtain ⟨s1, s2⟩ := hs
  have Hhnum := Lib.hid hnum
  have Hhz := Lib.hid hz
  clear hnum hz
  have hlg : decide (30 < t.size) = false := by simp only [decide_eq_false_iff_not]; omega
  have hlg' : decide (30 < (t.size : Int)) = false := by simp only [decide_eq_false_iff_not]; omega
  clear hd hh hb hll htl hbl htk hdr hB
  go_enter Tryz.func7, Tryz.ntmps7
  go_wp2_with fail
  refine (rscale_yes _ _ HS.out).mono ?_; rintro e w' ⟨rfl, rfl⟩
  go_wp2_with fail
  refine (rway_yes _ _ ⟨by omega, by omega⟩).mono ?_; rintro e w' ⟨rfl, rfl⟩
  go_wp2_with fail
  refine (trim_no t _ (by rw [HLL.out]; exact HH.out)).mono ?_; rintro e w' ⟨rfl, rfl⟩
  have HR : Hid (t.data.toList = B) := Lib.hid (by rw [HLL.out]; exact HB.out.symm)
  go_wp2_with fail
  refine (cutDot_yes t B _ HR.out HD.out hsz).mono ?_; rintro e w3 ⟨⟨X, Y, rfl, hX, hY⟩, q3, hw3⟩
  have HX := Lib.hid hX; have HY := Lib.hid hY
  have HQ : Hid (Below w.heap.size w w3) := Lib.hid (by rw [hw3]; exact below_drewN (Below.refl _ _) _)
  clear hX hY hw3
  have hxs : X.size ≤ 1000000 := by rw [size_list X _ HX.out]; have := HTK.out; have := HBL.out; have := HTL.out; omega
  obtain ⟨zl, zh⟩ := num_head Hhnum.out Hhz.out
  have hx0 : 1 < X.size := by rw [size_list X _ HX.out]; exact zl
  have hx0' : decide (1 < X.size) = true := by simp only [decide_eq_true_eq]; exact hx0
  have hx0'' : decide (1 < (X.size : Int)) = true := by simp only [decide_eq_true_eq]; omega
  have hxp : 0 < X.size := by omega
  have hbyte : ((X[0].toNat : Int) == 48) = true := by
    have h1 : 0 < (takeD B).length := by omega
    have h2 := byte_at X _ HX.out 0 hxp h1
    have h3 : (takeD B)[0] = 48 := by
      rw [List.head?_eq_getElem?, List.getElem?_eq_getElem h1] at zh
      exact Option.some.inj zh
    rw [← h2, h3]; rfl
  clear zl zh
  go_wp2_with fail
  refine (row_dr X true _ hxs (by rw [HX.out]; exact Hhnum.out)).mono ?_; rintro e w4 ⟨rfl, rfl⟩
  go_wp2_with fail
  go_ret2
  exact ⟨rfl, HQ.out⟩


set_option maxRecDepth 100000 in
set_option maxHeartbeats 4000000 in
theorem rrd_01P (t : ByteArray) (s way : Int) (w : World) (hsz : t.size ≤ 9223372036854775807) (hs : isScaleN s) (hw : 1 ≤ way ∧ way ≤ 3) (hh : t.data.toList.head? ≠ some 45) (hd : dropD (bodyD t.data.toList) ≠ []) (hlong : t.size ≤ 30) (hnum : NumOk (takeD (bodyD t.data.toList))) (hpart : allDig (dropD (bodyD t.data.toList)).tail = false) :
    Calls Tryz.prog 7 #[.string t, .int .i64 s, .int .i64 way] w fun e w' => e = .returned (.tuple #[.int .i64 0, .int .i64 10]) ∧ Below w.heap.size w w' := by
  obtain ⟨l, hll⟩ : ∃ l, t.data.toList = l := ⟨_, rfl⟩
  have htl := size_list t l hll
  rw [hll] at hh hd hnum hpart
  have hbl := bodyD_len l
  have hb : bodyD l = l := by unfold bodyD; rw [if_neg hh]
  obtain ⟨B, hB⟩ : ∃ B, bodyD l = B := ⟨_, rfl⟩
  have HBO := Lib.hid hB
  rw [hB] at hb hbl hd hnum hpart
  have htk := takeD_len B
  have hdr := dropD_len B
  have HS := Lib.hid hs; have HD := Lib.hid hd; have HH := Lib.hid hh; have HB := Lib.hid hb; have HLL := Lib.hid hll; have HTL := Lib.hid htl; have HBL := Lib.hid hbl; have HTK := Lib.hid htk; have HDR := Lib.hid hdr
  obtain ⟨w1, w2⟩ := hw
  obtain ⟨s1, s2⟩ := hs
  have Hhnum := Lib.hid hnum
  have Hhpart := Lib.hid hpart
  clear hnum hpart
  have hlg : decide (30 < t.size) = false := by simp only [decide_eq_false_iff_not]; omega
  have hlg' : decide (30 < (t.size : Int)) = false := by simp only [decide_eq_false_iff_not]; omega
  clear hd hh hb hll htl hbl htk hdr hB
  go_enter Tryz.func7, Tryz.ntmps7
  go_wp2_with fail
  refine (rscale_yes _ _ HS.out).mono ?_; rintro e w' ⟨rfl, rfl⟩
  go_wp2_with fail
  refine (rway_yes _ _ ⟨by omega, by omega⟩).mono ?_; rintro e w' ⟨rfl, rfl⟩
  go_wp2_with fail
  refine (trim_no t _ (by rw [HLL.out]; exact HH.out)).mono ?_; rintro e w' ⟨rfl, rfl⟩
  have HR : Hid (t.data.toList = B) := Lib.hid (by rw [HLL.out]; exact HB.out.symm)
  go_wp2_with fail
  refine (cutDot_yes t B _ HR.out HD.out hsz).mono ?_; rintro e w3 ⟨⟨X, Y, rfl, hX, hY⟩, q3, hw3⟩
  have HX := Lib.hid hX; have HY := Lib.hid hY
  have HQ : Hid (Below w.heap.size w w3) := Lib.hid (by rw [hw3]; exact below_drewN (Below.refl _ _) _)
  clear hX hY hw3
  have hxs : X.size ≤ 1000000 := by rw [size_list X _ HX.out]; have := HTK.out; have := HBL.out; have := HTL.out; omega
  have hcase : (decide (1 < X.size) = false ∧ decide (1 < (X.size : Int)) = false) ∨ (decide (1 < X.size) = true ∧ decide (1 < (X.size : Int)) = true) ∧ ∃ (hxp : 0 < X.size), ((X[0].toNat : Int) == 48) = false := by
    have hsx := size_list X _ HX.out
    by_cases h1 : 1 < X.size
    · right
      refine ⟨⟨by simp only [decide_eq_true_eq]; exact h1, by simp only [decide_eq_true_eq]; omega⟩, by omega, ?_⟩
      rcases num_head_ok Hhnum.out with h2 | ⟨b, r, h2, h3⟩
      · omega
      · have h4 : 0 < (takeD B).length := by omega
        have h5 := byte_at X _ HX.out 0 (by omega) h4
        rw [← h5]
        simp only [h2, List.getElem_cons_zero]
        rw [beq_eq_false_iff_ne]
        intro hx
        exact h3 (UInt8.toNat.inj (by have h48 : (48 : UInt8).toNat = 48 := rfl; omega))
    · left
      exact ⟨by simp only [decide_eq_false_iff_not]; exact h1, by simp only [decide_eq_false_iff_not]; omega⟩
  have hys : Y.size ≤ 1000000 := by rw [size_list Y _ HY.out, List.length_tail]; have := HDR.out; have := HBL.out; have := HTL.out; omega
  go_wp2_with fail
  refine (row_dr X true _ hxs (by rw [HX.out]; exact Hhnum.out.1)).mono ?_; rintro e w4 ⟨rfl, rfl⟩
  rcases hcase with ⟨hc1, hc2⟩ | ⟨⟨hc1, hc2⟩, hxp, hc3⟩
  all_goals
    go_wp2_with fail
    refine (row_dr Y false _ hys (by rw [HY.out]; exact Hhpart.out)).mono ?_; rintro e w5 ⟨rfl, rfl⟩
    go_wp2_with fail
    go_ret2
    exact ⟨rfl, HQ.out⟩


set_option maxRecDepth 100000 in
set_option maxHeartbeats 4000000 in
theorem rrd_01Q (t : ByteArray) (s way : Int) (w : World) (hsz : t.size ≤ 9223372036854775807) (hs : isScaleN s) (hw : 1 ≤ way ∧ way ≤ 3) (hh : t.data.toList.head? ≠ some 45) (hd : dropD (bodyD t.data.toList) ≠ []) (hlong : t.size ≤ 30) (hnum : NumOk (takeD (bodyD t.data.toList))) (hpart : allDig (dropD (bodyD t.data.toList)).tail = true) (hp9 : 9 < (dropD (bodyD t.data.toList)).tail.length) :
    Calls Tryz.prog 7 #[.string t, .int .i64 s, .int .i64 way] w fun e w' => e = .returned (.tuple #[.int .i64 0, .int .i64 10]) ∧ Below w.heap.size w w' := by
  obtain ⟨l, hll⟩ : ∃ l, t.data.toList = l := ⟨_, rfl⟩
  have htl := size_list t l hll
  rw [hll] at hh hd hnum hpart hp9
  have hbl := bodyD_len l
  have hb : bodyD l = l := by unfold bodyD; rw [if_neg hh]
  obtain ⟨B, hB⟩ : ∃ B, bodyD l = B := ⟨_, rfl⟩
  have HBO := Lib.hid hB
  rw [hB] at hb hbl hd hnum hpart hp9
  have htk := takeD_len B
  have hdr := dropD_len B
  have HS := Lib.hid hs; have HD := Lib.hid hd; have HH := Lib.hid hh; have HB := Lib.hid hb; have HLL := Lib.hid hll; have HTL := Lib.hid htl; have HBL := Lib.hid hbl; have HTK := Lib.hid htk; have HDR := Lib.hid hdr
  obtain ⟨w1, w2⟩ := hw
  obtain ⟨s1, s2⟩ := hs
  have Hhnum := Lib.hid hnum
  have Hhpart := Lib.hid hpart
  have Hhp9 := Lib.hid hp9
  clear hnum hpart hp9
  have hlg : decide (30 < t.size) = false := by simp only [decide_eq_false_iff_not]; omega
  have hlg' : decide (30 < (t.size : Int)) = false := by simp only [decide_eq_false_iff_not]; omega
  clear hd hh hb hll htl hbl htk hdr hB
  go_enter Tryz.func7, Tryz.ntmps7
  go_wp2_with fail
  refine (rscale_yes _ _ HS.out).mono ?_; rintro e w' ⟨rfl, rfl⟩
  go_wp2_with fail
  refine (rway_yes _ _ ⟨by omega, by omega⟩).mono ?_; rintro e w' ⟨rfl, rfl⟩
  go_wp2_with fail
  refine (trim_no t _ (by rw [HLL.out]; exact HH.out)).mono ?_; rintro e w' ⟨rfl, rfl⟩
  have HR : Hid (t.data.toList = B) := Lib.hid (by rw [HLL.out]; exact HB.out.symm)
  go_wp2_with fail
  refine (cutDot_yes t B _ HR.out HD.out hsz).mono ?_; rintro e w3 ⟨⟨X, Y, rfl, hX, hY⟩, q3, hw3⟩
  have HX := Lib.hid hX; have HY := Lib.hid hY
  have HQ : Hid (Below w.heap.size w w3) := Lib.hid (by rw [hw3]; exact below_drewN (Below.refl _ _) _)
  clear hX hY hw3
  have hxs : X.size ≤ 1000000 := by rw [size_list X _ HX.out]; have := HTK.out; have := HBL.out; have := HTL.out; omega
  have hcase : (decide (1 < X.size) = false ∧ decide (1 < (X.size : Int)) = false) ∨ (decide (1 < X.size) = true ∧ decide (1 < (X.size : Int)) = true) ∧ ∃ (hxp : 0 < X.size), ((X[0].toNat : Int) == 48) = false := by
    have hsx := size_list X _ HX.out
    by_cases h1 : 1 < X.size
    · right
      refine ⟨⟨by simp only [decide_eq_true_eq]; exact h1, by simp only [decide_eq_true_eq]; omega⟩, by omega, ?_⟩
      rcases num_head_ok Hhnum.out with h2 | ⟨b, r, h2, h3⟩
      · omega
      · have h4 : 0 < (takeD B).length := by omega
        have h5 := byte_at X _ HX.out 0 (by omega) h4
        rw [← h5]
        simp only [h2, List.getElem_cons_zero]
        rw [beq_eq_false_iff_ne]
        intro hx
        exact h3 (UInt8.toNat.inj (by have h48 : (48 : UInt8).toNat = 48 := rfl; omega))
    · left
      exact ⟨by simp only [decide_eq_false_iff_not]; exact h1, by simp only [decide_eq_false_iff_not]; omega⟩
  have hys : Y.size ≤ 1000000 := by rw [size_list Y _ HY.out, List.length_tail]; have := HDR.out; have := HBL.out; have := HTL.out; omega
  have hy9 : decide (9 < Y.size) = true := by rw [size_list Y _ HY.out]; simp only [decide_eq_true_eq]; exact Hhp9.out
  have hy9' : decide (9 < (Y.size : Int)) = true := by rw [size_list Y _ HY.out]; simp only [decide_eq_true_eq]; have := Hhp9.out; omega
  go_wp2_with fail
  refine (row_dr X true _ hxs (by rw [HX.out]; exact Hhnum.out.1)).mono ?_; rintro e w4 ⟨rfl, rfl⟩
  rcases hcase with ⟨hc1, hc2⟩ | ⟨⟨hc1, hc2⟩, hxp, hc3⟩
  all_goals
    go_wp2_with fail
    refine (row_dr Y true _ hys (by rw [HY.out]; exact Hhpart.out)).mono ?_; rintro e w5 ⟨rfl, rfl⟩
    go_wp2_with fail
    go_ret2
    exact ⟨rfl, HQ.out⟩


set_option maxRecDepth 100000 in
set_option maxHeartbeats 8000000 in
theorem rrd_01G (t : ByteArray) (s way : Int) (w : World) (htab : Tab w) (hsz : t.size ≤ 9223372036854775807) (hs : isScaleN s) (hw : 1 ≤ way ∧ way ≤ 3) (hh : t.data.toList.head? ≠ some 45) (hd : dropD (bodyD t.data.toList) ≠ []) (hlong : t.size ≤ 30) (hnum : NumOk (takeD (bodyD t.data.toList))) (hpart : allDig (dropD (bodyD t.data.toList)).tail = true) (hp9 : (dropD (bodyD t.data.toList)).tail.length ≤ 9) :
    Calls Tryz.prog 7 #[.string t, .int .i64 s, .int .i64 way] w fun e w' => e = .returned (.tuple #[.int .i64 (rcV t.data.toList s way), .int .i64 (rcF t.data.toList s way)]) ∧ Below w.heap.size w w' := by
  obtain ⟨l, hll⟩ : ∃ l, t.data.toList = l := ⟨_, rfl⟩
  have htl := size_list t l hll
  rw [hll] at hh hd hnum hpart hp9
  have hbl := bodyD_len l
  have hb : bodyD l = l := by unfold bodyD; rw [if_neg hh]
  have HDOK : Hid (DecOk l) := Lib.hid ⟨by omega, hnum, fun _ => ⟨hpart, hp9⟩⟩
  have HSGD : Hid (∀ x, sgD l x = if false = true then -x else x) := Lib.hid (fun x => by unfold sgD; rw [if_neg hh]; simp)
  have HBO0 := Lib.hid (rfl : bodyD l = bodyD l)
  obtain ⟨B, hB⟩ : ∃ B, bodyD l = B := ⟨_, rfl⟩
  have HBO := Lib.hid hB
  rw [hB] at hb hbl hd hnum hpart hp9
  have htk := takeD_len B
  have hdr := dropD_len B
  have HS := Lib.hid hs; have HD := Lib.hid hd; have HH := Lib.hid hh; have HB := Lib.hid hb; have HLL := Lib.hid hll; have HTL := Lib.hid htl; have HBL := Lib.hid hbl; have HTK := Lib.hid htk; have HDR := Lib.hid hdr
  obtain ⟨w1, w2⟩ := hw
  obtain ⟨s1, s2⟩ := hs
  have HT := Lib.hid htab
  clear htab
  have Hhnum := Lib.hid hnum
  have Hhpart := Lib.hid hpart
  have Hhp9 := Lib.hid hp9
  clear hnum hpart hp9
  have hlg : decide (30 < t.size) = false := by simp only [decide_eq_false_iff_not]; omega
  have hlg' : decide (30 < (t.size : Int)) = false := by simp only [decide_eq_false_iff_not]; omega
  clear hd hh hb hll htl hbl htk hdr hB
  go_enter Tryz.func7, Tryz.ntmps7
  go_wp2_with fail
  refine (rscale_yes _ _ HS.out).mono ?_; rintro e w' ⟨rfl, rfl⟩
  go_wp2_with fail
  refine (rway_yes _ _ ⟨by omega, by omega⟩).mono ?_; rintro e w' ⟨rfl, rfl⟩
  go_wp2_with fail
  refine (trim_no t _ (by rw [HLL.out]; exact HH.out)).mono ?_; rintro e w' ⟨rfl, rfl⟩
  have HR : Hid (t.data.toList = B) := Lib.hid (by rw [HLL.out]; exact HB.out.symm)
  go_wp2_with fail
  refine (cutDot_yes t B _ HR.out HD.out hsz).mono ?_; rintro e w3 ⟨⟨X, Y, rfl, hX, hY⟩, q3, hw3⟩
  have HX := Lib.hid hX; have HY := Lib.hid hY
  have HQ : Hid (Below w.heap.size w w3) := Lib.hid (by rw [hw3]; exact below_drewN (Below.refl _ _) _)
  clear hX hY hw3
  have hxs : X.size ≤ 1000000 := by rw [size_list X _ HX.out]; have := HTK.out; have := HBL.out; have := HTL.out; omega
  have hcase : (decide (1 < X.size) = false ∧ decide (1 < (X.size : Int)) = false) ∨ (decide (1 < X.size) = true ∧ decide (1 < (X.size : Int)) = true) ∧ ∃ (hxp : 0 < X.size), ((X[0].toNat : Int) == 48) = false := by
    have hsx := size_list X _ HX.out
    by_cases h1 : 1 < X.size
    · right
      refine ⟨⟨by simp only [decide_eq_true_eq]; exact h1, by simp only [decide_eq_true_eq]; omega⟩, by omega, ?_⟩
      rcases num_head_ok Hhnum.out with h2 | ⟨b, r, h2, h3⟩
      · omega
      · have h4 : 0 < (takeD B).length := by omega
        have h5 := byte_at X _ HX.out 0 (by omega) h4
        rw [← h5]
        simp only [h2, List.getElem_cons_zero]
        rw [beq_eq_false_iff_ne]
        intro hx
        exact h3 (UInt8.toNat.inj (by have h48 : (48 : UInt8).toNat = 48 := rfl; omega))
    · left
      exact ⟨by simp only [decide_eq_false_iff_not]; exact h1, by simp only [decide_eq_false_iff_not]; omega⟩
  have hys : Y.size ≤ 1000000 := by rw [size_list Y _ HY.out, List.length_tail]; have := HDR.out; have := HBL.out; have := HTL.out; omega
  have hy9 : decide (9 < Y.size) = false := by rw [size_list Y _ HY.out]; simp only [decide_eq_false_iff_not]; have := Hhp9.out; omega
  have hy9' : decide (9 < (Y.size : Int)) = false := by rw [size_list Y _ HY.out]; simp only [decide_eq_false_iff_not]; have := Hhp9.out; omega
  have hwd : DigB X.data.toList := by rw [HX.out]; exact ((allDig_iff _).1 Hhnum.out.1).1
  have hpd : DigB Y.data.toList := by rw [HY.out]; exact ((allDig_iff _).1 Hhpart.out).1
  have hxi : (X.size : Int) ≤ 8388608 := by omega
  have hyi : (Y.size : Int) ≤ 8388608 := by omega
  have hx30 : X.size ≤ 30 := by rw [size_list X _ HX.out]; have := HTK.out; have := HBL.out; have := HTL.out; omega
  have hm9 : Y.size ≤ 9 := by rw [size_list Y _ HY.out]; exact Hhp9.out
  have HCL : Hid ((X ++ Y).data.toList = X.data.toList ++ Y.data.toList) := Lib.hid (cat_list X Y)
  have HCD : Hid (DigB (X.data.toList ++ Y.data.toList)) := Lib.hid (hwd.append hpd)
  have HCS : Hid ((X.data.toList ++ Y.data.toList).length ≤ 100) := Lib.hid (by rw [List.length_append, ← size_list X _ rfl, ← size_list Y _ rfl]; omega)
  have HUP : Hid ((0 : Int) < ((10 ^ Y.size : Nat) : Int)) := Lib.hid (by have := pow9 Y.size hm9; omega)
  clear hwd hpd
  have hrc : (∀ rd, rdV (decide ((if false = true then -((dvalB (X.data.toList ++ Y.data.toList) : Nat) : Int) else ((dvalB (X.data.toList ++ Y.data.toList) : Nat) : Int)) * s < 0)) way ((((if false = true then -((dvalB (X.data.toList ++ Y.data.toList) : Nat) : Int) else ((dvalB (X.data.toList ++ Y.data.toList) : Nat) : Int)) * s).natAbs : Nat) : Int) (((10 ^ Y.size : Nat) : Int) * 1) = rd → (rd ≤ 1000000000000000 → rcF l s way = 0 ∧ rcV l s way = sgnI (decide ((if false = true then -((dvalB (X.data.toList ++ Y.data.toList) : Nat) : Int) else ((dvalB (X.data.toList ++ Y.data.toList) : Nat) : Int)) * s < 0)) rd) ∧ (¬ rd ≤ 1000000000000000 → rcF l s way = 1 ∧ rcV l s way = 0)) := (by
    intro rd hrd
    have hbo : bodyD l = B := HBO.out
    exact rc_of l s way false HS.out ⟨w1, w2⟩ HDOK.out HSGD.out (takeD B) (dropD B).tail (by rw [hbo]) (by rw [hbo]) ((allDig_iff _).1 Hhpart.out).1 (X.data.toList ++ Y.data.toList) Y.size (by rw [← HY.out]; exact size_list Y _ rfl) (by rw [dvalB_append, HX.out, HY.out]) rd hrd)
  obtain ⟨PPv, hPP⟩ : ∃ PPv : Int, (if false = true then -((dvalB (X.data.toList ++ Y.data.toList) : Nat) : Int) else ((dvalB (X.data.toList ++ Y.data.toList) : Nat) : Int)) = PPv := ⟨_, rfl⟩
  rw [hPP] at hrc
  have HPP := Lib.hid hPP; have HRC := Lib.hid hrc
  clear hPP hrc
  go_wp2_with fail
  refine (row_dr X true _ hxs (by rw [HX.out]; exact Hhnum.out.1)).mono ?_; rintro e w4 ⟨rfl, rfl⟩
  rcases hcase with ⟨hc1, hc2⟩ | ⟨⟨hc1, hc2⟩, hxp, hc3⟩
  all_goals
    go_wp2_with fail
    refine (row_dr Y true _ hys (by rw [HY.out]; exact Hhpart.out)).mono ?_; rintro e w5 ⟨rfl, rfl⟩
    go_wp2_with fail
    obtain ⟨CC, hCC⟩ : ∃ C : ByteArray, (X ++ Y) = C := ⟨_, rfl⟩
    have hcl := HCL.out
    rw [hCC] at hcl ⊢
    have HCC := Lib.hid hcl
    have hccs : CC.size ≤ 100 := by rw [size_list CC _ hcl]; exact HCS.out
    clear hCC hcl
    refine (limbs_any CC (by rw [HCC.out]; exact HCD.out) hccs _).mono ?_
    rintro e w6 ⟨⟨r6, rfl, xs, g1, g2, g3, g4⟩, b6⟩
    rw [HCC.out] at g3
    have B6 := Lib.hid (HQ.out.trans (b6.mono HQ.out.size))
    have G1 := Lib.hid g1; have G2 := Lib.hid g2; have G3 := Lib.hid g3; have G4 := Lib.hid g4
    clear g1 g2 g3 g4 b6
    go_wp2_with fail
    refine (Tryz.strings_Repeat ⟨#[48]⟩ Y.size _ (by omega) (by have : (⟨#[48]⟩ : ByteArray).size = 1 := rfl; rw [this]; omega)).mono ?_
    rintro e w7 ⟨rfl, b7⟩
    have hrl : Lib.repeatL (⟨#[48]⟩ : ByteArray).data.toList Y.size = List.replicate Y.size 48 := repeatL_zero Y.size
    rw [hrl]
    obtain ⟨Zr, hZr⟩ : ∃ Z : ByteArray, (⟨(List.replicate Y.size 48).toArray⟩ : ByteArray) = Z := ⟨_, rfl⟩
    have hZl : Zr.data.toList = List.replicate Y.size 48 := by rw [← hZr]
    have hZs : (Zr.size : Int) ≤ 8388608 := by rw [size_list Zr _ hZl, List.length_replicate]; omega
    rw [hZr]
    have B7 := Lib.hid (B6.out.trans (b7.mono B6.out.size))
    have G1b := Lib.hid (G1.out.below b7 (Nat.le_refl _))
    have k49 : ((⟨#[49]⟩ : ByteArray).size : Int) ≤ 8388608 := by decide
    have HOL : Hid ((⟨#[49]⟩ ++ Zr : ByteArray).data.toList = 49 :: List.replicate Y.size 48) := Lib.hid (by rw [cat_list, hZl]; rfl)
    clear hrl hZr hZl b7
    go_wp2_with fail
    obtain ⟨O, hO⟩ : ∃ O : ByteArray, (⟨#[49]⟩ : ByteArray) ++ Zr = O := ⟨_, rfl⟩
    have hol := HOL.out
    rw [hO] at hol ⊢
    have HOO := Lib.hid hol
    have hos : O.size ≤ 100 := by rw [size_list O _ hol, List.length_cons, List.length_replicate]; omega
    clear hO hol HOL
    refine (limbs_any O (by rw [HOO.out]; exact one_dig _) hos _).mono ?_
    rintro e w8 ⟨⟨r8, rfl, ys, g1, g2, g3, g4⟩, b8⟩
    rw [HOO.out, one_dval] at g3
    have B8 := Lib.hid (B7.out.trans (b8.mono B7.out.size))
    have G1c := Lib.hid (G1b.out.below b8 (Nat.le_refl _))
    have K1 := Lib.hid g1; have K2 := Lib.hid g2; have K3 := Lib.hid g3; have K4 := Lib.hid g4
    clear g1 g2 g3 g4 b8
    go_wp2_with fail
    refine (lowest_num false _ _ xs ys _ 30 G1c.out K1.out G2.out K2.out (by rw [K3.out]; exact HUP.out) G4.out K4.out (by omega)).mono ?_
    rintro e w9 ⟨⟨r9, rfl, hr⟩, b9⟩
    rw [G3.out, K3.out] at hr
    have B9 := Lib.hid (B8.out.trans (b9.mono B8.out.size))
    obtain ⟨sg, a8, n8, c8, a9, n9, c9, rfl⟩ := hr.shape2
    have HR9 := Lib.hid hr
    clear hr b9
    go_wp2_with fail
    obtain ⟨W, hW⟩ : ∃ W, w9.alloc (.cells #[.bool sg, .slice a8 n8 c8, .slice a9 n9 c9] 38) = W := ⟨_, rfl⟩
    have hWs : W.heap.size = w9.heap.size + 1 := by rw [← hW]; simp
    have q1 : W.cell? ⟨w9.heap.size, 0, none⟩ = some (.bool sg) := by rw [← hW]; simp
    have q2 : W.cell? ⟨w9.heap.size, 1, none⟩ = some (.slice a8 n8 c8) := by rw [← hW]; simp
    have q3 : W.cell? ⟨w9.heap.size, 2, none⟩ = some (.slice a9 n9 c9) := by rw [← hW]; simp
    have HWB : Hid (Below w.heap.size w W) := Lib.hid (by rw [← hW]; exact B9.out.alloc (by have := B9.out.size; omega) _)
    have HRW : Hid (NumR W (.agg #[.bool sg, .slice a8 n8 c8, .slice a9 n9 c9]) PPv ((10 ^ Y.size : Nat) : Int) 30) := Lib.hid (by rw [← hW, ← HPP.out]; exact HR9.out.below ((Below.refl w9.heap.size w9).alloc (Nat.le_refl _) _) (Nat.le_refl _))
    rw [hW]
    clear hW
    obtain ⟨rd, hrd⟩ : ∃ rd, rdV (decide (PPv * s < 0)) way (((PPv * s).natAbs : Nat) : Int) (((10 ^ Y.size : Nat) : Int) * 1) = rd := ⟨_, rfl⟩
    obtain ⟨V, hV⟩ : ∃ V, sgnI (decide (PPv * s < 0)) rd = V := ⟨_, rfl⟩
    have HRD := Lib.hid hrd; have HV := Lib.hid hV
    clear hrd hV
    by_cases hok : rd ≤ 1000000000000000
    · have hc1 : (if 1000000000000000 < rd then 0 else sgnI (decide (PPv * s < 0)) rd) = V := by rw [if_neg (by omega)]; exact HV.out
      have hc2 : decide (rd ≤ 1000000000000000) = true := by simp only [decide_eq_true_eq]; exact hok
      have HC1 := Lib.hid hc1; have HC2 := Lib.hid hc2; have HOK := Lib.hid hok
      clear hc1 hc2 hok
      go_region_held3 (fun w' => w'.cell? ⟨w9.heap.size, 0, none⟩ = some (.bool sg) ∧ w'.cell? ⟨w9.heap.size, 1, none⟩ = some (.slice a8 n8 c8) ∧ w'.cell? ⟨w9.heap.size, 2, none⟩ = some (.slice a9 n9 c9))
        (first
          | (refine ⟨?_, ?_, ?_⟩ <;> (rw [b3.cell (by simp; omega)]; simp [*]; done))
          | (go_keep; done))
        (first
          | (go_at_call 38
             refine (int_any s (by omega) (by omega) _ ?g1).mono ?_
             (case g1 => exact HT.out.below (by repeat (first | exact HWB.out | apply below_drewN | apply Below.drew)) (Nat.le_refl _))
             rintro e w3 ⟨⟨r3, rfl, k3⟩, b3⟩
             have K5 := Lib.hid k3
             have BW3 : Hid (Below W.heap.size W w3) := Lib.hid (Below.trans (by repeat (first | exact Below.refl _ _ | apply below_drewN | apply Below.drew)) (b3.mono (by simp)))
             have hs3 : w9.heap.size + 1 ≤ w3.heap.size := by have := BW3.out.size; omega
             clear k3)
          | (go_at_call 37
             refine (times_num _ _ PPv ((10 ^ Y.size : Nat) : Int) s 1 _ 30 30 ?g1 ?g2 (by omega)).mono ?_
             (case g1 => exact HRW.out.below (by repeat (first | exact BW3.out | apply below_drewN | apply Below.drew)) (Nat.le_refl _))
             (case g2 => exact K5.out.below (B := w3.heap.size) (by repeat (first | exact Below.refl _ _ | apply below_drewN | apply Below.drew)) (Nat.le_refl _))
             rintro e w5 ⟨⟨r5, rfl, k5⟩, b3⟩
             have K6 := Lib.hid k5
             have BW5 : Hid (Below W.heap.size W w5) := Lib.hid (Below.trans (by repeat (first | exact BW3.out | apply below_drewN | apply Below.drew)) (b3.mono (by first | exact BW3.out.size | (simp; exact BW3.out.size))))
             have hs5 : w9.heap.size + 1 ≤ w5.heap.size := by have := BW5.out.size; omega
             clear k5)
          | (go_at_call 36
             refine (roundn_num _ (PPv * s) (((10 ^ Y.size : Nat) : Int) * 1) _ way 1000000000000000 60 ?g1 ?g2 ⟨w1, w2⟩ (by omega) (by omega) (by omega)).mono ?_
             (case g1 => exact HT.out.below (HWB.out.trans (by repeat (first | exact BW5.out.mono (by have := HWB.out.size; omega) | apply below_drewN | apply Below.drew))) (Nat.le_refl _))
             (case g2 => exact K6.out.below (B := w5.heap.size) (by repeat (first | exact Below.refl _ _ | apply below_drewN | apply Below.drew)) (Nat.le_refl _))
             rintro e w7 ⟨rfl, b3⟩
             rw [HRD.out, HC1.out, HC2.out]
             have BW7 : Hid (Below W.heap.size W w7) := Lib.hid (Below.trans (by repeat (first | exact BW5.out | apply below_drewN | apply Below.drew)) (b3.mono (by first | exact BW5.out.size | (simp; exact BW5.out.size))))
             have hs7 : w9.heap.size + 1 ≤ w7.heap.size := by have := BW7.out.size; omega))
      all_goals
        go_wp2_with fail
        go_ret2
        refine ⟨ret2_ii ?_ ?_, by repeat (first | exact HWB.out.trans (BW7.out.mono (by have := HWB.out.size; omega)) | apply below_drewN | apply Below.drew)⟩
        · have := HRC.out rd HRD.out; rw [HLL.out, ((this.1) HOK.out).2]; exact HV.out.symm
        · have := HRC.out rd HRD.out; rw [HLL.out, ((this.1) HOK.out).1]
    · have hc1 : (if 1000000000000000 < rd then 0 else sgnI (decide (PPv * s < 0)) rd) = 0 := by rw [if_pos (by omega)]
      have hc2 : decide (rd ≤ 1000000000000000) = false := by simp only [decide_eq_false_iff_not]; exact hok
      have HC1 := Lib.hid hc1; have HC2 := Lib.hid hc2; have HOK := Lib.hid hok
      clear hc1 hc2 hok
      go_region_held3 (fun w' => w'.cell? ⟨w9.heap.size, 0, none⟩ = some (.bool sg) ∧ w'.cell? ⟨w9.heap.size, 1, none⟩ = some (.slice a8 n8 c8) ∧ w'.cell? ⟨w9.heap.size, 2, none⟩ = some (.slice a9 n9 c9))
        (first
          | (refine ⟨?_, ?_, ?_⟩ <;> (rw [b3.cell (by simp; omega)]; simp [*]; done))
          | (go_keep; done))
        (first
          | (go_at_call 38
             refine (int_any s (by omega) (by omega) _ ?g1).mono ?_
             (case g1 => exact HT.out.below (by repeat (first | exact HWB.out | apply below_drewN | apply Below.drew)) (Nat.le_refl _))
             rintro e w3 ⟨⟨r3, rfl, k3⟩, b3⟩
             have K5 := Lib.hid k3
             have BW3 : Hid (Below W.heap.size W w3) := Lib.hid (Below.trans (by repeat (first | exact Below.refl _ _ | apply below_drewN | apply Below.drew)) (b3.mono (by simp)))
             have hs3 : w9.heap.size + 1 ≤ w3.heap.size := by have := BW3.out.size; omega
             clear k3)
          | (go_at_call 37
             refine (times_num _ _ PPv ((10 ^ Y.size : Nat) : Int) s 1 _ 30 30 ?g1 ?g2 (by omega)).mono ?_
             (case g1 => exact HRW.out.below (by repeat (first | exact BW3.out | apply below_drewN | apply Below.drew)) (Nat.le_refl _))
             (case g2 => exact K5.out.below (B := w3.heap.size) (by repeat (first | exact Below.refl _ _ | apply below_drewN | apply Below.drew)) (Nat.le_refl _))
             rintro e w5 ⟨⟨r5, rfl, k5⟩, b3⟩
             have K6 := Lib.hid k5
             have BW5 : Hid (Below W.heap.size W w5) := Lib.hid (Below.trans (by repeat (first | exact BW3.out | apply below_drewN | apply Below.drew)) (b3.mono (by first | exact BW3.out.size | (simp; exact BW3.out.size))))
             have hs5 : w9.heap.size + 1 ≤ w5.heap.size := by have := BW5.out.size; omega
             clear k5)
          | (go_at_call 36
             refine (roundn_num _ (PPv * s) (((10 ^ Y.size : Nat) : Int) * 1) _ way 1000000000000000 60 ?g1 ?g2 ⟨w1, w2⟩ (by omega) (by omega) (by omega)).mono ?_
             (case g1 => exact HT.out.below (HWB.out.trans (by repeat (first | exact BW5.out.mono (by have := HWB.out.size; omega) | apply below_drewN | apply Below.drew))) (Nat.le_refl _))
             (case g2 => exact K6.out.below (B := w5.heap.size) (by repeat (first | exact Below.refl _ _ | apply below_drewN | apply Below.drew)) (Nat.le_refl _))
             rintro e w7 ⟨rfl, b3⟩
             rw [HRD.out, HC1.out, HC2.out]
             have BW7 : Hid (Below W.heap.size W w7) := Lib.hid (Below.trans (by repeat (first | exact BW5.out | apply below_drewN | apply Below.drew)) (b3.mono (by first | exact BW5.out.size | (simp; exact BW5.out.size))))
             have hs7 : w9.heap.size + 1 ≤ w7.heap.size := by have := BW7.out.size; omega))
      all_goals
        go_wp2_with fail
        go_ret2
        refine ⟨ret2_ii ?_ ?_, by repeat (first | exact HWB.out.trans (BW7.out.mono (by have := HWB.out.size; omega)) | apply below_drewN | apply Below.drew)⟩
        · have := HRC.out rd HRD.out; rw [HLL.out, ((this.2) HOK.out).2]
        · have := HRC.out rd HRD.out; rw [HLL.out, ((this.2) HOK.out).1]


set_option maxRecDepth 100000 in
set_option maxHeartbeats 4000000 in
theorem rrd_10L (t : ByteArray) (s way : Int) (w : World) (hsz : t.size ≤ 9223372036854775807) (hs : isScaleN s) (hw : 1 ≤ way ∧ way ≤ 3) (hh : t.data.toList.head? = some 45) (hd : dropD (bodyD t.data.toList) = []) (hlong : 30 < t.size) :
    Calls Tryz.prog 7 #[.string t, .int .i64 s, .int .i64 way] w fun e w' => e = .returned (.tuple #[.int .i64 0, .int .i64 10]) ∧ Below w.heap.size w w' := by
  obtain ⟨l, hll⟩ : ∃ l, t.data.toList = l := ⟨_, rfl⟩
  have htl := size_list t l hll
  rw [hll] at hh hd
  have hbl := bodyD_len l
  have hb : bodyD l = l.tail := by unfold bodyD; rw [if_pos hh]
  have hcons : l = 45 :: l.tail := by
    cases l with
    | nil => simp at hh
    | cons b r => simp at hh; rw [hh]; rfl
  obtain ⟨B, hB⟩ : ∃ B, bodyD l = B := ⟨_, rfl⟩
  have HBO := Lib.hid hB
  rw [hB] at hb hbl hd
  have htk := takeD_len B
  have hdr := dropD_len B
  have HS := Lib.hid hs; have HD := Lib.hid hd; have HH := Lib.hid hh; have HB := Lib.hid hb; have HLL := Lib.hid hll; have HTL := Lib.hid htl; have HBL := Lib.hid hbl; have HTK := Lib.hid htk; have HDR := Lib.hid hdr
  obtain ⟨w1, w2⟩ := hw
  obtain ⟨s1, s2⟩ := hs
  have HCONS := Lib.hid hcons
  clear hcons
  have hlg : decide (30 < t.size) = true := by simp only [decide_eq_true_eq]; omega
  have hlg' : decide (30 < (t.size : Int)) = true := by simp only [decide_eq_true_eq]; omega
  clear hd hh hb hll htl hbl htk hdr hB
  go_enter Tryz.func7, Tryz.ntmps7
  go_wp2_with fail
  refine (rscale_yes _ _ HS.out).mono ?_; rintro e w' ⟨rfl, rfl⟩
  go_wp2_with fail
  refine (rway_yes _ _ ⟨by omega, by omega⟩).mono ?_; rintro e w' ⟨rfl, rfl⟩
  go_wp2_with fail
  refine (trim_yes t l.tail _ (by rw [HLL.out]; exact HCONS.out) hsz).mono ?_; rintro e w' ⟨⟨R, rfl, hR⟩, rfl⟩
  rw [← HB.out] at hR
  have HR := Lib.hid hR
  clear hR
  go_wp2_with fail
  have hrsz : R.size ≤ 9223372036854775807 := by rw [size_list R _ HR.out]; have := HBL.out; have := HTL.out; omega
  have hdd : dropD R.data.toList = [] := by rw [HR.out]; exact HD.out
  have htd : takeD B = B := by have := split_dot B; rw [HD.out, List.append_nil] at this; exact this
  have HDD := Lib.hid hdd; have HTD := Lib.hid htd
  clear hdd htd
  refine (cutDot_no R _ HDD.out).mono ?_; rintro e w3 ⟨rfl, rfl⟩
  have HX : Hid (R.data.toList = takeD B) := Lib.hid (by rw [HR.out]; exact HTD.out.symm)
  have HQ : Hid (Below w.heap.size w w) := Lib.hid (Below.refl _ _)
  go_wp2_with fail
  go_ret2
  exact ⟨rfl, HQ.out⟩


set_option maxRecDepth 100000 in
set_option maxHeartbeats 4000000 in
theorem rrd_10N (t : ByteArray) (s way : Int) (w : World) (hsz : t.size ≤ 9223372036854775807) (hs : isScaleN s) (hw : 1 ≤ way ∧ way ≤ 3) (hh : t.data.toList.head? = some 45) (hd : dropD (bodyD t.data.toList) = []) (hlong : t.size ≤ 30) (hnum : allDig (takeD (bodyD t.data.toList)) = false) :
    Calls Tryz.prog 7 #[.string t, .int .i64 s, .int .i64 way] w fun e w' => e = .returned (.tuple #[.int .i64 0, .int .i64 10]) ∧ Below w.heap.size w w' := by
  obtain ⟨l, hll⟩ : ∃ l, t.data.toList = l := ⟨_, rfl⟩
  have htl := size_list t l hll
  rw [hll] at hh hd hnum
  have hbl := bodyD_len l
  have hb : bodyD l = l.tail := by unfold bodyD; rw [if_pos hh]
  have hcons : l = 45 :: l.tail := by
    cases l with
    | nil => simp at hh
    | cons b r => simp at hh; rw [hh]; rfl
  obtain ⟨B, hB⟩ : ∃ B, bodyD l = B := ⟨_, rfl⟩
  have HBO := Lib.hid hB
  rw [hB] at hb hbl hd hnum
  have htk := takeD_len B
  have hdr := dropD_len B
  have HS := Lib.hid hs; have HD := Lib.hid hd; have HH := Lib.hid hh; have HB := Lib.hid hb; have HLL := Lib.hid hll; have HTL := Lib.hid htl; have HBL := Lib.hid hbl; have HTK := Lib.hid htk; have HDR := Lib.hid hdr
  obtain ⟨w1, w2⟩ := hw
  obtain ⟨s1, s2⟩ := hs
  have HCONS := Lib.hid hcons
  clear hcons
  have Hhnum := Lib.hid hnum
  clear hnum
  have hlg : decide (30 < t.size) = false := by simp only [decide_eq_false_iff_not]; omega
  have hlg' : decide (30 < (t.size : Int)) = false := by simp only [decide_eq_false_iff_not]; omega
  clear hd hh hb hll htl hbl htk hdr hB
  go_enter Tryz.func7, Tryz.ntmps7
  go_wp2_with fail
  refine (rscale_yes _ _ HS.out).mono ?_; rintro e w' ⟨rfl, rfl⟩
  go_wp2_with fail
  refine (rway_yes _ _ ⟨by omega, by omega⟩).mono ?_; rintro e w' ⟨rfl, rfl⟩
  go_wp2_with fail
  refine (trim_yes t l.tail _ (by rw [HLL.out]; exact HCONS.out) hsz).mono ?_; rintro e w' ⟨⟨R, rfl, hR⟩, rfl⟩
  rw [← HB.out] at hR
  have HR := Lib.hid hR
  clear hR
  go_wp2_with fail
  have hrsz : R.size ≤ 9223372036854775807 := by rw [size_list R _ HR.out]; have := HBL.out; have := HTL.out; omega
  have hdd : dropD R.data.toList = [] := by rw [HR.out]; exact HD.out
  have htd : takeD B = B := by have := split_dot B; rw [HD.out, List.append_nil] at this; exact this
  have HDD := Lib.hid hdd; have HTD := Lib.hid htd
  clear hdd htd
  refine (cutDot_no R _ HDD.out).mono ?_; rintro e w3 ⟨rfl, rfl⟩
  have HX : Hid (R.data.toList = takeD B) := Lib.hid (by rw [HR.out]; exact HTD.out.symm)
  have HQ : Hid (Below w.heap.size w w) := Lib.hid (Below.refl _ _)
  have hxs : R.size ≤ 1000000 := by rw [size_list R _ HX.out]; have := HTK.out; have := HBL.out; have := HTL.out; omega
  go_wp2_with fail
  refine (row_dr R false _ hxs (by rw [HX.out]; exact Hhnum.out)).mono ?_; rintro e w4 ⟨rfl, rfl⟩
  go_wp2_with fail
  go_ret2
  exact ⟨rfl, HQ.out⟩


set_option maxRecDepth 100000 in
set_option maxHeartbeats 4000000 in
theorem rrd_10Z (t : ByteArray) (s way : Int) (w : World) (hsz : t.size ≤ 9223372036854775807) (hs : isScaleN s) (hw : 1 ≤ way ∧ way ≤ 3) (hh : t.data.toList.head? = some 45) (hd : dropD (bodyD t.data.toList) = []) (hlong : t.size ≤ 30) (hnum : allDig (takeD (bodyD t.data.toList)) = true) (hz : ¬ NumOk (takeD (bodyD t.data.toList))) :
    Calls Tryz.prog 7 #[.string t, .int .i64 s, .int .i64 way] w fun e w' => e = .returned (.tuple #[.int .i64 0, .int .i64 10]) ∧ Below w.heap.size w w' := by
  obtain ⟨l, hll⟩ : ∃ l, t.data.toList = l := ⟨_, rfl⟩
  have htl := size_list t l hll
  rw [hll] at hh hd hnum hz
  have hbl := bodyD_len l
  have hb : bodyD l = l.tail := by unfold bodyD; rw [if_pos hh]
  have hcons : l = 45 :: l.tail := by
    cases l with
    | nil => simp at hh
    | cons b r => simp at hh; rw [hh]; rfl
  obtain ⟨B, hB⟩ : ∃ B, bodyD l = B := ⟨_, rfl⟩
  have HBO := Lib.hid hB
  rw [hB] at hb hbl hd hnum hz
  have htk := takeD_len B
  have hdr := dropD_len B
  have HS := Lib.hid hs; have HD := Lib.hid hd; have HH := Lib.hid hh; have HB := Lib.hid hb; have HLL := Lib.hid hll; have HTL := Lib.hid htl; have HBL := Lib.hid hbl; have HTK := Lib.hid htk; have HDR := Lib.hid hdr
  obtain ⟨w1, w2⟩ := hw
  obtain ⟨s1, s2⟩ := hs
  have HCONS := Lib.hid hcons
  clear hcons
  have Hhnum := Lib.hid hnum
  have Hhz := Lib.hid hz
  clear hnum hz
  have hlg : decide (30 < t.size) = false := by simp only [decide_eq_false_iff_not]; omega
  have hlg' : decide (30 < (t.size : Int)) = false := by simp only [decide_eq_false_iff_not]; omega
  clear hd hh hb hll htl hbl htk hdr hB
  go_enter Tryz.func7, Tryz.ntmps7
  go_wp2_with fail
  refine (rscale_yes _ _ HS.out).mono ?_; rintro e w' ⟨rfl, rfl⟩
  go_wp2_with fail
  refine (rway_yes _ _ ⟨by omega, by omega⟩).mono ?_; rintro e w' ⟨rfl, rfl⟩
  go_wp2_with fail
  refine (trim_yes t l.tail _ (by rw [HLL.out]; exact HCONS.out) hsz).mono ?_; rintro e w' ⟨⟨R, rfl, hR⟩, rfl⟩
  rw [← HB.out] at hR
  have HR := Lib.hid hR
  clear hR
  go_wp2_with fail
  have hrsz : R.size ≤ 9223372036854775807 := by rw [size_list R _ HR.out]; have := HBL.out; have := HTL.out; omega
  have hdd : dropD R.data.toList = [] := by rw [HR.out]; exact HD.out
  have htd : takeD B = B := by have := split_dot B; rw [HD.out, List.append_nil] at this; exact this
  have HDD := Lib.hid hdd; have HTD := Lib.hid htd
  clear hdd htd
  refine (cutDot_no R _ HDD.out).mono ?_; rintro e w3 ⟨rfl, rfl⟩
  have HX : Hid (R.data.toList = takeD B) := Lib.hid (by rw [HR.out]; exact HTD.out.symm)
  have HQ : Hid (Below w.heap.size w w) := Lib.hid (Below.refl _ _)
  have hxs : R.size ≤ 1000000 := by rw [size_list R _ HX.out]; have := HTK.out; have := HBL.out; have := HTL.out; omega
  obtain ⟨zl, zh⟩ := num_head Hhnum.out Hhz.out
  have hx0 : 1 < R.size := by rw [size_list R _ HX.out]; exact zl
  have hx0' : decide (1 < R.size) = true := by simp only [decide_eq_true_eq]; exact hx0
  have hx0'' : decide (1 < (R.size : Int)) = true := by simp only [decide_eq_true_eq]; omega
  have hxp : 0 < R.size := by omega
  have hbyte : ((R[0].toNat : Int) == 48) = true := by
    have h1 : 0 < (takeD B).length := by omega
    have h2 := byte_at R _ HX.out 0 hxp h1
    have h3 : (takeD B)[0] = 48 := by
      rw [List.head?_eq_getElem?, List.getElem?_eq_getElem h1] at zh
      exact Option.some.inj zh
    rw [← h2, h3]; rfl
  clear zl zh
  go_wp2_with fail
  refine (row_dr R true _ hxs (by rw [HX.out]; exact Hhnum.out)).mono ?_; rintro e w4 ⟨rfl, rfl⟩
  go_wp2_with fail
  go_ret2
  exact ⟨rfl, HQ.out⟩


set_option maxRecDepth 100000 in
set_option maxHeartbeats 8000000 in
theorem rrd_10G (t : ByteArray) (s way : Int) (w : World) (htab : Tab w) (hsz : t.size ≤ 9223372036854775807) (hs : isScaleN s) (hw : 1 ≤ way ∧ way ≤ 3) (hh : t.data.toList.head? = some 45) (hd : dropD (bodyD t.data.toList) = []) (hlong : t.size ≤ 30) (hnum : NumOk (takeD (bodyD t.data.toList))) :
    Calls Tryz.prog 7 #[.string t, .int .i64 s, .int .i64 way] w fun e w' => e = .returned (.tuple #[.int .i64 (rcV t.data.toList s way), .int .i64 (rcF t.data.toList s way)]) ∧ Below w.heap.size w w' := by
  obtain ⟨l, hll⟩ : ∃ l, t.data.toList = l := ⟨_, rfl⟩
  have htl := size_list t l hll
  rw [hll] at hh hd hnum
  have hbl := bodyD_len l
  have hb : bodyD l = l.tail := by unfold bodyD; rw [if_pos hh]
  have hcons : l = 45 :: l.tail := by
    cases l with
    | nil => simp at hh
    | cons b r => simp at hh; rw [hh]; rfl
  have HDOK : Hid (DecOk l) := Lib.hid ⟨by omega, hnum, fun hx => absurd hd hx⟩
  have HSGD : Hid (∀ x, sgD l x = if true = true then -x else x) := Lib.hid (fun x => by unfold sgD; rw [if_pos hh]; simp)
  have HBO0 := Lib.hid (rfl : bodyD l = bodyD l)
  obtain ⟨B, hB⟩ : ∃ B, bodyD l = B := ⟨_, rfl⟩
  have HBO := Lib.hid hB
  rw [hB] at hb hbl hd hnum
  have htk := takeD_len B
  have hdr := dropD_len B
  have HS := Lib.hid hs; have HD := Lib.hid hd; have HH := Lib.hid hh; have HB := Lib.hid hb; have HLL := Lib.hid hll; have HTL := Lib.hid htl; have HBL := Lib.hid hbl; have HTK := Lib.hid htk; have HDR := Lib.hid hdr
  obtain ⟨w1, w2⟩ := hw
  obtain ⟨s1, s2⟩ := hs
  have HT := Lib.hid htab
  clear htab
  have HCONS := Lib.hid hcons
  clear hcons
  have Hhnum := Lib.hid hnum
  clear hnum
  have hlg : decide (30 < t.size) = false := by simp only [decide_eq_false_iff_not]; omega
  have hlg' : decide (30 < (t.size : Int)) = false := by simp only [decide_eq_false_iff_not]; omega
  clear hd hh hb hll htl hbl htk hdr hB
  go_enter Tryz.func7, Tryz.ntmps7
  go_wp2_with fail
  refine (rscale_yes _ _ HS.out).mono ?_; rintro e w' ⟨rfl, rfl⟩
  go_wp2_with fail
  refine (rway_yes _ _ ⟨by omega, by omega⟩).mono ?_; rintro e w' ⟨rfl, rfl⟩
  go_wp2_with fail
  refine (trim_yes t l.tail _ (by rw [HLL.out]; exact HCONS.out) hsz).mono ?_; rintro e w' ⟨⟨R, rfl, hR⟩, rfl⟩
  rw [← HB.out] at hR
  have HR := Lib.hid hR
  clear hR
  go_wp2_with fail
  have hrsz : R.size ≤ 9223372036854775807 := by rw [size_list R _ HR.out]; have := HBL.out; have := HTL.out; omega
  have hdd : dropD R.data.toList = [] := by rw [HR.out]; exact HD.out
  have htd : takeD B = B := by have := split_dot B; rw [HD.out, List.append_nil] at this; exact this
  have HDD := Lib.hid hdd; have HTD := Lib.hid htd
  clear hdd htd
  refine (cutDot_no R _ HDD.out).mono ?_; rintro e w3 ⟨rfl, rfl⟩
  have HX : Hid (R.data.toList = takeD B) := Lib.hid (by rw [HR.out]; exact HTD.out.symm)
  have HQ : Hid (Below w.heap.size w w) := Lib.hid (Below.refl _ _)
  have hxs : R.size ≤ 1000000 := by rw [size_list R _ HX.out]; have := HTK.out; have := HBL.out; have := HTL.out; omega
  have hcase : (decide (1 < R.size) = false ∧ decide (1 < (R.size : Int)) = false) ∨ (decide (1 < R.size) = true ∧ decide (1 < (R.size : Int)) = true) ∧ ∃ (hxp : 0 < R.size), ((R[0].toNat : Int) == 48) = false := by
    have hsx := size_list R _ HX.out
    by_cases h1 : 1 < R.size
    · right
      refine ⟨⟨by simp only [decide_eq_true_eq]; exact h1, by simp only [decide_eq_true_eq]; omega⟩, by omega, ?_⟩
      rcases num_head_ok Hhnum.out with h2 | ⟨b, r, h2, h3⟩
      · omega
      · have h4 : 0 < (takeD B).length := by omega
        have h5 := byte_at R _ HX.out 0 (by omega) h4
        rw [← h5]
        simp only [h2, List.getElem_cons_zero]
        rw [beq_eq_false_iff_ne]
        intro hx
        exact h3 (UInt8.toNat.inj (by have h48 : (48 : UInt8).toNat = 48 := rfl; omega))
    · left
      exact ⟨by simp only [decide_eq_false_iff_not]; exact h1, by simp only [decide_eq_false_iff_not]; omega⟩
  have hnes : R.toList ≠ t.toList := by
    rw [ByteArray.toList_eq, ByteArray.toList_eq, HR.out, HLL.out, HB.out]
    intro hx
    have h1 := congrArg List.length hx
    have h2 := congrArg List.length HCONS.out
    simp only [List.length_cons, List.length_tail] at h1 h2
    omega
  have hnes1 : (R.toList == t.toList) = false := by rw [beq_eq_false_iff_ne]; exact hnes
  have hnes2 : (R.toList != t.toList) = true := by rw [bne_iff_ne]; exact hnes
  clear hnes
  have hwd : DigB R.data.toList := by rw [HX.out]; exact ((allDig_iff _).1 Hhnum.out.1).1
  have hxi : (R.size : Int) ≤ 8388608 := by omega
  have hyi : ((⟨#[]⟩ : ByteArray).size : Int) ≤ 8388608 := by decide
  have hx30 : R.size ≤ 30 := by rw [size_list R _ HX.out]; have := HTK.out; have := HBL.out; have := HTL.out; omega
  have HCL : Hid ((R ++ ⟨#[]⟩).data.toList = R.data.toList) := Lib.hid (by rw [cat_list]; simp)
  have HCD : Hid (DigB R.data.toList) := Lib.hid hwd
  have HCS : Hid (R.data.toList.length ≤ 100) := Lib.hid (by rw [← size_list R _ rfl]; omega)
  have HUP : Hid ((0 : Int) < ((10 ^ 0 : Nat) : Int)) := Lib.hid (by decide)
  clear hwd
  have hrc : (∀ rd, rdV (decide ((if true = true then -((dvalB R.data.toList : Nat) : Int) else ((dvalB R.data.toList : Nat) : Int)) * s < 0)) way ((((if true = true then -((dvalB R.data.toList : Nat) : Int) else ((dvalB R.data.toList : Nat) : Int)) * s).natAbs : Nat) : Int) (((10 ^ 0 : Nat) : Int) * 1) = rd → (rd ≤ 1000000000000000 → rcF l s way = 0 ∧ rcV l s way = sgnI (decide ((if true = true then -((dvalB R.data.toList : Nat) : Int) else ((dvalB R.data.toList : Nat) : Int)) * s < 0)) rd) ∧ (¬ rd ≤ 1000000000000000 → rcF l s way = 1 ∧ rcV l s way = 0)) := (by
    intro rd hrd
    have hbo : bodyD l = B := HBO.out
    exact rc_of l s way true HS.out ⟨w1, w2⟩ HDOK.out HSGD.out (takeD B) (dropD B).tail (by rw [hbo]) (by rw [hbo]) (by rw [HD.out]; exact DigB.nil) R.data.toList 0 (by rw [HD.out]; rfl) (by rw [HX.out, HD.out]; simp [dvalB]) rd hrd)
  obtain ⟨PPv, hPP⟩ : ∃ PPv : Int, (if true = true then -((dvalB R.data.toList : Nat) : Int) else ((dvalB R.data.toList : Nat) : Int)) = PPv := ⟨_, rfl⟩
  rw [hPP] at hrc
  have HPP := Lib.hid hPP; have HRC := Lib.hid hrc
  clear hPP hrc
  go_wp2_with fail
  refine (row_dr R true _ hxs (by rw [HX.out]; exact Hhnum.out.1)).mono ?_; rintro e w4 ⟨rfl, rfl⟩
  rcases hcase with ⟨hc1, hc2⟩ | ⟨⟨hc1, hc2⟩, hxp, hc3⟩
  all_goals
    go_wp2_with fail
    obtain ⟨CC, hCC⟩ : ∃ C : ByteArray, (R ++ ⟨#[]⟩) = C := ⟨_, rfl⟩
    have hcl := HCL.out
    rw [hCC] at hcl ⊢
    have HCC := Lib.hid hcl
    have hccs : CC.size ≤ 100 := by rw [size_list CC _ hcl]; exact HCS.out
    clear hCC hcl
    refine (limbs_any CC (by rw [HCC.out]; exact HCD.out) hccs _).mono ?_
    rintro e w6 ⟨⟨r6, rfl, xs, g1, g2, g3, g4⟩, b6⟩
    rw [HCC.out] at g3
    have B6 := Lib.hid (HQ.out.trans (b6.mono HQ.out.size))
    have G1 := Lib.hid g1; have G2 := Lib.hid g2; have G3 := Lib.hid g3; have G4 := Lib.hid g4
    clear g1 g2 g3 g4 b6
    go_wp2_with fail
    refine (Tryz.strings_Repeat ⟨#[48]⟩ 0 _ (by omega) (by have : (⟨#[48]⟩ : ByteArray).size = 1 := rfl; rw [this]; omega)).mono ?_
    rintro e w7 ⟨rfl, b7⟩
    have hrl : Lib.repeatL (⟨#[48]⟩ : ByteArray).data.toList 0 = List.replicate 0 48 := repeatL_zero 0
    rw [hrl]
    obtain ⟨Zr, hZr⟩ : ∃ Z : ByteArray, (⟨(List.replicate 0 48).toArray⟩ : ByteArray) = Z := ⟨_, rfl⟩
    have hZl : Zr.data.toList = List.replicate 0 48 := by rw [← hZr]
    have hZs : (Zr.size : Int) ≤ 8388608 := by rw [size_list Zr _ hZl, List.length_replicate]; omega
    rw [hZr]
    have B7 := Lib.hid (B6.out.trans (b7.mono B6.out.size))
    have G1b := Lib.hid (G1.out.below b7 (Nat.le_refl _))
    have k49 : ((⟨#[49]⟩ : ByteArray).size : Int) ≤ 8388608 := by decide
    have HOL : Hid ((⟨#[49]⟩ ++ Zr : ByteArray).data.toList = 49 :: List.replicate 0 48) := Lib.hid (by rw [cat_list, hZl]; rfl)
    clear hrl hZr hZl b7
    go_wp2_with fail
    obtain ⟨O, hO⟩ : ∃ O : ByteArray, (⟨#[49]⟩ : ByteArray) ++ Zr = O := ⟨_, rfl⟩
    have hol := HOL.out
    rw [hO] at hol ⊢
    have HOO := Lib.hid hol
    have hos : O.size ≤ 100 := by rw [size_list O _ hol, List.length_cons, List.length_replicate]; omega
    clear hO hol HOL
    refine (limbs_any O (by rw [HOO.out]; exact one_dig _) hos _).mono ?_
    rintro e w8 ⟨⟨r8, rfl, ys, g1, g2, g3, g4⟩, b8⟩
    rw [HOO.out, one_dval] at g3
    have B8 := Lib.hid (B7.out.trans (b8.mono B7.out.size))
    have G1c := Lib.hid (G1b.out.below b8 (Nat.le_refl _))
    have K1 := Lib.hid g1; have K2 := Lib.hid g2; have K3 := Lib.hid g3; have K4 := Lib.hid g4
    clear g1 g2 g3 g4 b8
    go_wp2_with fail
    refine (lowest_num false _ _ xs ys _ 30 G1c.out K1.out G2.out K2.out (by rw [K3.out]; exact HUP.out) G4.out K4.out (by omega)).mono ?_
    rintro e w9 ⟨⟨r9, rfl, hr⟩, b9⟩
    rw [G3.out, K3.out] at hr
    have B9 := Lib.hid (B8.out.trans (b9.mono B8.out.size))
    obtain ⟨sg, a8, n8, c8, a9, n9, c9, rfl⟩ := hr.shape2
    have HR9 := Lib.hid hr
    clear hr b9
    go_wp2_with fail
    have HRA : Hid (NumR (w9.alloc (.cells #[.bool sg, .slice a8 n8 c8, .slice a9 n9 c9] 38)) (.agg #[.bool sg, .slice a8 n8 c8, .slice a9 n9 c9]) (if false = true then -((dvalB (R.data.toList) : Nat) : Int) else ((dvalB (R.data.toList) : Nat) : Int)) ((10 ^ 0 : Nat) : Int) 30) := Lib.hid (HR9.out.below ((Below.refl w9.heap.size w9).alloc (Nat.le_refl _) _) (Nat.le_refl _))
    refine (minus_num _ (if false = true then -((dvalB (R.data.toList) : Nat) : Int) else ((dvalB (R.data.toList) : Nat) : Int)) ((10 ^ 0 : Nat) : Int) _ 30 HRA.out).mono ?_
    rintro e w10 ⟨⟨r10, rfl, k10⟩, b10⟩
    obtain ⟨sh, a10, n10, c10, a11, n11, c11, rfl⟩ := k10.shape2
    have b10' : Below (w9.heap.size + 1) (w9.alloc (.cells #[.bool sg, .slice a8 n8 c8, .slice a9 n9 c9] 38)) w10 := by simpa using b10
    obtain ⟨m1, m2, m3, f1, f2, f3, hni, hlt⟩ := num_cells2 b10'
    have K10 := Lib.hid (k10.stored2 hni)
    have B10 : Hid (Below w.heap.size w (((w10.setCell ⟨w9.heap.size, 0, none⟩ (.bool sh)).setCell ⟨w9.heap.size, 1, none⟩ (.slice a10 n10 c10)).setCell ⟨w9.heap.size, 2, none⟩ (.slice a11 n11 c11))) := Lib.hid (by
      have hsz := B9.out.size
      have h1 : Below w.heap.size w w10 := (B9.out.alloc hsz _).trans (b10'.mono (by omega))
      exact ((h1.setCell hsz _).setCell hsz _).setCell hsz _)
    clear k10 b10 b10' hni
    go_wp2_with fail
    obtain ⟨W, hW⟩ : ∃ W, (((w10.setCell ⟨w9.heap.size, 0, none⟩ (.bool sh)).setCell ⟨w9.heap.size, 1, none⟩ (.slice a10 n10 c10)).setCell ⟨w9.heap.size, 2, none⟩ (.slice a11 n11 c11)) = W := ⟨_, rfl⟩
    have hWs : w9.heap.size + 1 ≤ W.heap.size := by rw [← hW]; simp; omega
    have hthree := three_cells (a := .bool sh) (b := .slice a10 n10 c10) (c := .slice a11 n11 c11) m1 m2 m3
    rw [hW] at hthree
    obtain ⟨q1, q2, q3⟩ := hthree
    have HWB : Hid (Below w.heap.size w W) := Lib.hid (by rw [← hW]; exact B10.out)
    have HRW : Hid (NumR W (.agg #[.bool sh, .slice a10 n10 c10, .slice a11 n11 c11]) PPv ((10 ^ 0 : Nat) : Int) 30) := Lib.hid (by rw [← hW]; have h := K10.out; rw [show -((if false = true then -((dvalB (R.data.toList) : Nat) : Int) else ((dvalB (R.data.toList) : Nat) : Int))) = PPv by rw [← HPP.out]; simp] at h; exact h)
    clear m1 m2 m3 f1 f2 f3 hlt
    rw [hW]
    clear hW
    obtain ⟨rd, hrd⟩ : ∃ rd, rdV (decide (PPv * s < 0)) way (((PPv * s).natAbs : Nat) : Int) (((10 ^ 0 : Nat) : Int) * 1) = rd := ⟨_, rfl⟩
    obtain ⟨V, hV⟩ : ∃ V, sgnI (decide (PPv * s < 0)) rd = V := ⟨_, rfl⟩
    have HRD := Lib.hid hrd; have HV := Lib.hid hV
    clear hrd hV
    by_cases hok : rd ≤ 1000000000000000
    · have hc1 : (if 1000000000000000 < rd then 0 else sgnI (decide (PPv * s < 0)) rd) = V := by rw [if_neg (by omega)]; exact HV.out
      have hc2 : decide (rd ≤ 1000000000000000) = true := by simp only [decide_eq_true_eq]; exact hok
      have HC1 := Lib.hid hc1; have HC2 := Lib.hid hc2; have HOK := Lib.hid hok
      clear hc1 hc2 hok
      go_region_held3 (fun w' => w'.cell? ⟨w9.heap.size, 0, none⟩ = some (.bool sh) ∧ w'.cell? ⟨w9.heap.size, 1, none⟩ = some (.slice a10 n10 c10) ∧ w'.cell? ⟨w9.heap.size, 2, none⟩ = some (.slice a11 n11 c11))
        (first
          | (refine ⟨?_, ?_, ?_⟩ <;> (rw [b3.cell (by simp; omega)]; simp [*]; done))
          | (go_keep; done))
        (first
          | (go_at_call 38
             refine (int_any s (by omega) (by omega) _ ?g1).mono ?_
             (case g1 => exact HT.out.below (by repeat (first | exact HWB.out | apply below_drewN | apply Below.drew)) (Nat.le_refl _))
             rintro e w3 ⟨⟨r3, rfl, k3⟩, b3⟩
             have K5 := Lib.hid k3
             have BW3 : Hid (Below W.heap.size W w3) := Lib.hid (Below.trans (by repeat (first | exact Below.refl _ _ | apply below_drewN | apply Below.drew)) (b3.mono (by simp)))
             have hs3 : w9.heap.size + 1 ≤ w3.heap.size := by have := BW3.out.size; omega
             clear k3)
          | (go_at_call 37
             refine (times_num _ _ PPv ((10 ^ 0 : Nat) : Int) s 1 _ 30 30 ?g1 ?g2 (by omega)).mono ?_
             (case g1 => exact HRW.out.below (by repeat (first | exact BW3.out | apply below_drewN | apply Below.drew)) (Nat.le_refl _))
             (case g2 => exact K5.out.below (B := w3.heap.size) (by repeat (first | exact Below.refl _ _ | apply below_drewN | apply Below.drew)) (Nat.le_refl _))
             rintro e w5 ⟨⟨r5, rfl, k5⟩, b3⟩
             have K6 := Lib.hid k5
             have BW5 : Hid (Below W.heap.size W w5) := Lib.hid (Below.trans (by repeat (first | exact BW3.out | apply below_drewN | apply Below.drew)) (b3.mono (by first | exact BW3.out.size | (simp; exact BW3.out.size))))
             have hs5 : w9.heap.size + 1 ≤ w5.heap.size := by have := BW5.out.size; omega
             clear k5)
          | (go_at_call 36
             refine (roundn_num _ (PPv * s) (((10 ^ 0 : Nat) : Int) * 1) _ way 1000000000000000 60 ?g1 ?g2 ⟨w1, w2⟩ (by omega) (by omega) (by omega)).mono ?_
             (case g1 => exact HT.out.below (HWB.out.trans (by repeat (first | exact BW5.out.mono (by have := HWB.out.size; omega) | apply below_drewN | apply Below.drew))) (Nat.le_refl _))
             (case g2 => exact K6.out.below (B := w5.heap.size) (by repeat (first | exact Below.refl _ _ | apply below_drewN | apply Below.drew)) (Nat.le_refl _))
             rintro e w7 ⟨rfl, b3⟩
             rw [HRD.out, HC1.out, HC2.out]
             have BW7 : Hid (Below W.heap.size W w7) := Lib.hid (Below.trans (by repeat (first | exact BW5.out | apply below_drewN | apply Below.drew)) (b3.mono (by first | exact BW5.out.size | (simp; exact BW5.out.size))))
             have hs7 : w9.heap.size + 1 ≤ w7.heap.size := by have := BW7.out.size; omega))
      all_goals
        go_wp2_with fail
        go_ret2
        refine ⟨ret2_ii ?_ ?_, by repeat (first | exact HWB.out.trans (BW7.out.mono (by have := HWB.out.size; omega)) | apply below_drewN | apply Below.drew)⟩
        · have := HRC.out rd HRD.out; rw [HLL.out, ((this.1) HOK.out).2]; exact HV.out.symm
        · have := HRC.out rd HRD.out; rw [HLL.out, ((this.1) HOK.out).1]
    · have hc1 : (if 1000000000000000 < rd then 0 else sgnI (decide (PPv * s < 0)) rd) = 0 := by rw [if_pos (by omega)]
      have hc2 : decide (rd ≤ 1000000000000000) = false := by simp only [decide_eq_false_iff_not]; exact hok
      have HC1 := Lib.hid hc1; have HC2 := Lib.hid hc2; have HOK := Lib.hid hok
      clear hc1 hc2 hok
      go_region_held3 (fun w' => w'.cell? ⟨w9.heap.size, 0, none⟩ = some (.bool sh) ∧ w'.cell? ⟨w9.heap.size, 1, none⟩ = some (.slice a10 n10 c10) ∧ w'.cell? ⟨w9.heap.size, 2, none⟩ = some (.slice a11 n11 c11))
        (first
          | (refine ⟨?_, ?_, ?_⟩ <;> (rw [b3.cell (by simp; omega)]; simp [*]; done))
          | (go_keep; done))
        (first
          | (go_at_call 38
             refine (int_any s (by omega) (by omega) _ ?g1).mono ?_
             (case g1 => exact HT.out.below (by repeat (first | exact HWB.out | apply below_drewN | apply Below.drew)) (Nat.le_refl _))
             rintro e w3 ⟨⟨r3, rfl, k3⟩, b3⟩
             have K5 := Lib.hid k3
             have BW3 : Hid (Below W.heap.size W w3) := Lib.hid (Below.trans (by repeat (first | exact Below.refl _ _ | apply below_drewN | apply Below.drew)) (b3.mono (by simp)))
             have hs3 : w9.heap.size + 1 ≤ w3.heap.size := by have := BW3.out.size; omega
             clear k3)
          | (go_at_call 37
             refine (times_num _ _ PPv ((10 ^ 0 : Nat) : Int) s 1 _ 30 30 ?g1 ?g2 (by omega)).mono ?_
             (case g1 => exact HRW.out.below (by repeat (first | exact BW3.out | apply below_drewN | apply Below.drew)) (Nat.le_refl _))
             (case g2 => exact K5.out.below (B := w3.heap.size) (by repeat (first | exact Below.refl _ _ | apply below_drewN | apply Below.drew)) (Nat.le_refl _))
             rintro e w5 ⟨⟨r5, rfl, k5⟩, b3⟩
             have K6 := Lib.hid k5
             have BW5 : Hid (Below W.heap.size W w5) := Lib.hid (Below.trans (by repeat (first | exact BW3.out | apply below_drewN | apply Below.drew)) (b3.mono (by first | exact BW3.out.size | (simp; exact BW3.out.size))))
             have hs5 : w9.heap.size + 1 ≤ w5.heap.size := by have := BW5.out.size; omega
             clear k5)
          | (go_at_call 36
             refine (roundn_num _ (PPv * s) (((10 ^ 0 : Nat) : Int) * 1) _ way 1000000000000000 60 ?g1 ?g2 ⟨w1, w2⟩ (by omega) (by omega) (by omega)).mono ?_
             (case g1 => exact HT.out.below (HWB.out.trans (by repeat (first | exact BW5.out.mono (by have := HWB.out.size; omega) | apply below_drewN | apply Below.drew))) (Nat.le_refl _))
             (case g2 => exact K6.out.below (B := w5.heap.size) (by repeat (first | exact Below.refl _ _ | apply below_drewN | apply Below.drew)) (Nat.le_refl _))
             rintro e w7 ⟨rfl, b3⟩
             rw [HRD.out, HC1.out, HC2.out]
             have BW7 : Hid (Below W.heap.size W w7) := Lib.hid (Below.trans (by repeat (first | exact BW5.out | apply below_drewN | apply Below.drew)) (b3.mono (by first | exact BW5.out.size | (simp; exact BW5.out.size))))
             have hs7 : w9.heap.size + 1 ≤ w7.heap.size := by have := BW7.out.size; omega))
      all_goals
        go_wp2_with fail
        go_ret2
        refine ⟨ret2_ii ?_ ?_, by repeat (first | exact HWB.out.trans (BW7.out.mono (by have := HWB.out.size; omega)) | apply below_drewN | apply Below.drew)⟩
        · have := HRC.out rd HRD.out; rw [HLL.out, ((this.2) HOK.out).2]
        · have := HRC.out rd HRD.out; rw [HLL.out, ((this.2) HOK.out).1]


set_option maxRecDepth 100000 in
set_option maxHeartbeats 4000000 in
theorem rrd_11L (t : ByteArray) (s way : Int) (w : World) (hsz : t.size ≤ 9223372036854775807) (hs : isScaleN s) (hw : 1 ≤ way ∧ way ≤ 3) (hh : t.data.toList.head? = some 45) (hd : dropD (bodyD t.data.toList) ≠ []) (hlong : 30 < t.size) :
    Calls Tryz.prog 7 #[.string t, .int .i64 s, .int .i64 way] w fun e w' => e = .returned (.tuple #[.int .i64 0, .int .i64 10]) ∧ Below w.heap.size w w' := by
  obtain ⟨l, hll⟩ : ∃ l, t.data.toList = l := ⟨_, rfl⟩
  have htl := size_list t l hll
  rw [hll] at hh hd
  have hbl := bodyD_len l
  have hb : bodyD l = l.tail := by unfold bodyD; rw [if_pos hh]
  have hcons : l = 45 :: l.tail := by
    cases l with
    | nil => simp at hh
    | cons b r => simp at hh; rw [hh]; rfl
  obtain ⟨B, hB⟩ : ∃ B, bodyD l = B := ⟨_, rfl⟩
  have HBO := Lib.hid hB
  rw [hB] at hb hbl hd
  have htk := takeD_len B
  have hdr := dropD_len B
  have HS := Lib.hid hs; have HD := Lib.hid hd; have HH := Lib.hid hh; have HB := Lib.hid hb; have HLL := Lib.hid hll; have HTL := Lib.hid htl; have HBL := Lib.hid hbl; have HTK := Lib.hid htk; have HDR := Lib.hid hdr
  obtain ⟨w1, w2⟩ := hw
  obtain ⟨s1, s2⟩ := hs
  have HCONS := Lib.hid hcons
  clear hcons
  have hlg : decide (30 < t.size) = true := by simp only [decide_eq_true_eq]; omega
  have hlg' : decide (30 < (t.size : Int)) = true := by simp only [decide_eq_true_eq]; omega
  clear hd hh hb hll htl hbl htk hdr hB
  go_enter Tryz.func7, Tryz.ntmps7
  go_wp2_with fail
  refine (rscale_yes _ _ HS.out).mono ?_; rintro e w' ⟨rfl, rfl⟩
  go_wp2_with fail
  refine (rway_yes _ _ ⟨by omega, by omega⟩).mono ?_; rintro e w' ⟨rfl, rfl⟩
  go_wp2_with fail
  refine (trim_yes t l.tail _ (by rw [HLL.out]; exact HCONS.out) hsz).mono ?_; rintro e w' ⟨⟨R, rfl, hR⟩, rfl⟩
  rw [← HB.out] at hR
  have HR := Lib.hid hR
  clear hR
  go_wp2_with fail
  have hrsz : R.size ≤ 9223372036854775807 := by rw [size_list R _ HR.out]; have := HBL.out; have := HTL.out; omega
  refine (cutDot_yes R B _ HR.out HD.out hrsz).mono ?_; rintro e w3 ⟨⟨X, Y, rfl, hX, hY⟩, q3, hw3⟩
  have HX := Lib.hid hX; have HY := Lib.hid hY
  have HQ : Hid (Below w.heap.size w w3) := Lib.hid (by rw [hw3]; exact below_drewN (Below.refl _ _) _)
  clear hX hY hw3
  go_wp2_with fail
  go_ret2
  exact ⟨rfl, HQ.out⟩


set_option maxRecDepth 100000 in
set_option maxHeartbeats 4000000 in
theorem rrd_11N (t : ByteArray) (s way : Int) (w : World) (hsz : t.size ≤ 9223372036854775807) (hs : isScaleN s) (hw : 1 ≤ way ∧ way ≤ 3) (hh : t.data.toList.head? = some 45) (hd : dropD (bodyD t.data.toList) ≠ []) (hlong : t.size ≤ 30) (hnum : allDig (takeD (bodyD t.data.toList)) = false) :
    Calls Tryz.prog 7 #[.string t, .int .i64 s, .int .i64 way] w fun e w' => e = .returned (.tuple #[.int .i64 0, .int .i64 10]) ∧ Below w.heap.size w w' := by
  obtain ⟨l, hll⟩ : ∃ l, t.data.toList = l := ⟨_, rfl⟩
  have htl := size_list t l hll
  rw [hll] at hh hd hnum
  have hbl := bodyD_len l
  have hb : bodyD l = l.tail := by unfold bodyD; rw [if_pos hh]
  have hcons : l = 45 :: l.tail := by
    cases l with
    | nil => simp at hh
    | cons b r => simp at hh; rw [hh]; rfl
  obtain ⟨B, hB⟩ : ∃ B, bodyD l = B := ⟨_, rfl⟩
  have HBO := Lib.hid hB
  rw [hB] at hb hbl hd hnum
  have htk := takeD_len B
  have hdr := dropD_len B
  have HS := Lib.hid hs; have HD := Lib.hid hd; have HH := Lib.hid hh; have HB := Lib.hid hb; have HLL := Lib.hid hll; have HTL := Lib.hid htl; have HBL := Lib.hid hbl; have HTK := Lib.hid htk; have HDR := Lib.hid hdr
  obtain ⟨w1, w2⟩ := hw
  obtain ⟨s1, s2⟩ := hs
  have HCONS := Lib.hid hcons
  clear hcons
  have Hhnum := Lib.hid hnum
  clear hnum
  have hlg : decide (30 < t.size) = false := by simp only [decide_eq_false_iff_not]; omega
  have hlg' : decide (30 < (t.size : Int)) = false := by simp only [decide_eq_false_iff_not]; omega
  clear hd hh hb hll htl hbl htk hdr hB
  go_enter Tryz.func7, Tryz.ntmps7
  go_wp2_with fail
  refine (rscale_yes _ _ HS.out).mono ?_; rintro e w' ⟨rfl, rfl⟩
  go_wp2_with fail
  refine (rway_yes _ _ ⟨by omega, by omega⟩).mono ?_; rintro e w' ⟨rfl, rfl⟩
  go_wp2_with fail
  refine (trim_yes t l.tail _ (by rw [HLL.out]; exact HCONS.out) hsz).mono ?_; rintro e w' ⟨⟨R, rfl, hR⟩, rfl⟩
  rw [← HB.out] at hR
  have HR := Lib.hid hR
  clear hR
  go_wp2_with fail
  have hrsz : R.size ≤ 9223372036854775807 := by rw [size_list R _ HR.out]; have := HBL.out; have := HTL.out; omega
  refine (cutDot_yes R B _ HR.out HD.out hrsz).mono ?_; rintro e w3 ⟨⟨X, Y, rfl, hX, hY⟩, q3, hw3⟩
  have HX := Lib.hid hX; have HY := Lib.hid hY
  have HQ : Hid (Below w.heap.size w w3) := Lib.hid (by rw [hw3]; exact below_drewN (Below.refl _ _) _)
  clear hX hY hw3
  have hxs : X.size ≤ 1000000 := by rw [size_list X _ HX.out]; have := HTK.out; have := HBL.out; have := HTL.out; omega
  go_wp2_with fail
  refine (row_dr X false _ hxs (by rw [HX.out]; exact Hhnum.out)).mono ?_; rintro e w4 ⟨rfl, rfl⟩
  go_wp2_with fail
  go_ret2
  exact ⟨rfl, HQ.out⟩


set_option maxRecDepth 100000 in
set_option maxHeartbeats 4000000 in
theorem rrd_11Z (t : ByteArray) (s way : Int) (w : World) (hsz : t.size ≤ 9223372036854775807) (hs : isScaleN s) (hw : 1 ≤ way ∧ way ≤ 3) (hh : t.data.toList.head? = some 45) (hd : dropD (bodyD t.data.toList) ≠ []) (hlong : t.size ≤ 30) (hnum : allDig (takeD (bodyD t.data.toList)) = true) (hz : ¬ NumOk (takeD (bodyD t.data.toList))) :
    Calls Tryz.prog 7 #[.string t, .int .i64 s, .int .i64 way] w fun e w' => e = .returned (.tuple #[.int .i64 0, .int .i64 10]) ∧ Below w.heap.size w w' := by
  obtain ⟨l, hll⟩ : ∃ l, t.data.toList = l := ⟨_, rfl⟩
  have htl := size_list t l hll
  rw [hll] at hh hd hnum hz
  have hbl := bodyD_len l
  have hb : bodyD l = l.tail := by unfold bodyD; rw [if_pos hh]
  have hcons : l = 45 :: l.tail := by
    cases l with
    | nil => simp at hh
    | cons b r => simp at hh; rw [hh]; rfl
  obtain ⟨B, hB⟩ : ∃ B, bodyD l = B := ⟨_, rfl⟩
  have HBO := Lib.hid hB
  rw [hB] at hb hbl hd hnum hz
  have htk := takeD_len B
  have hdr := dropD_len B
  have HS := Lib.hid hs; have HD := Lib.hid hd; have HH := Lib.hid hh; have HB := Lib.hid hb; have HLL := Lib.hid hll; have HTL := Lib.hid htl; have HBL := Lib.hid hbl; have HTK := Lib.hid htk; have HDR := Lib.hid hdr
  obtain ⟨w1, w2⟩ := hw
  obtain ⟨s1, s2⟩ := hs
  have HCONS := Lib.hid hcons
  clear hcons
  have Hhnum := Lib.hid hnum
  have Hhz := Lib.hid hz
  clear hnum hz
  have hlg : decide (30 < t.size) = false := by simp only [decide_eq_false_iff_not]; omega
  have hlg' : decide (30 < (t.size : Int)) = false := by simp only [decide_eq_false_iff_not]; omega
  clear hd hh hb hll htl hbl htk hdr hB
  go_enter Tryz.func7, Tryz.ntmps7
  go_wp2_with fail
  refine (rscale_yes _ _ HS.out).mono ?_; rintro e w' ⟨rfl, rfl⟩
  go_wp2_with fail
  refine (rway_yes _ _ ⟨by omega, by omega⟩).mono ?_; rintro e w' ⟨rfl, rfl⟩
  go_wp2_with fail
  refine (trim_yes t l.tail _ (by rw [HLL.out]; exact HCONS.out) hsz).mono ?_; rintro e w' ⟨⟨R, rfl, hR⟩, rfl⟩
  rw [← HB.out] at hR
  have HR := Lib.hid hR
  clear hR
  go_wp2_with fail
  have hrsz : R.size ≤ 9223372036854775807 := by rw [size_list R _ HR.out]; have := HBL.out; have := HTL.out; omega
  refine (cutDot_yes R B _ HR.out HD.out hrsz).mono ?_; rintro e w3 ⟨⟨X, Y, rfl, hX, hY⟩, q3, hw3⟩
  have HX := Lib.hid hX; have HY := Lib.hid hY
  have HQ : Hid (Below w.heap.size w w3) := Lib.hid (by rw [hw3]; exact below_drewN (Below.refl _ _) _)
  clear hX hY hw3
  have hxs : X.size ≤ 1000000 := by rw [size_list X _ HX.out]; have := HTK.out; have := HBL.out; have := HTL.out; omega
  obtain ⟨zl, zh⟩ := num_head Hhnum.out Hhz.out
  have hx0 : 1 < X.size := by rw [size_list X _ HX.out]; exact zl
  have hx0' : decide (1 < X.size) = true := by simp only [decide_eq_true_eq]; exact hx0
  have hx0'' : decide (1 < (X.size : Int)) = true := by simp only [decide_eq_true_eq]; omega
  have hxp : 0 < X.size := by omega
  have hbyte : ((X[0].toNat : Int) == 48) = true := by
    have h1 : 0 < (takeD B).length := by omega
    have h2 := byte_at X _ HX.out 0 hxp h1
    have h3 : (takeD B)[0] = 48 := by
      rw [List.head?_eq_getElem?, List.getElem?_eq_getElem h1] at zh
      exact Option.some.inj zh
    rw [← h2, h3]; rfl
  clear zl zh
  go_wp2_with fail
  refine (row_dr X true _ hxs (by rw [HX.out]; exact Hhnum.out)).mono ?_; rintro e w4 ⟨rfl, rfl⟩
  go_wp2_with fail
  go_ret2
  exact ⟨rfl, HQ.out⟩


set_option maxRecDepth 100000 in
set_option maxHeartbeats 4000000 in
theorem rrd_11P (t : ByteArray) (s way : Int) (w : World) (hsz : t.size ≤ 9223372036854775807) (hs : isScaleN s) (hw : 1 ≤ way ∧ way ≤ 3) (hh : t.data.toList.head? = some 45) (hd : dropD (bodyD t.data.toList) ≠ []) (hlong : t.size ≤ 30) (hnum : NumOk (takeD (bodyD t.data.toList))) (hpart : allDig (dropD (bodyD t.data.toList)).tail = false) :
    Calls Tryz.prog 7 #[.string t, .int .i64 s, .int .i64 way] w fun e w' => e = .returned (.tuple #[.int .i64 0, .int .i64 10]) ∧ Below w.heap.size w w' := by
  obtain ⟨l, hll⟩ : ∃ l, t.data.toList = l := ⟨_, rfl⟩
  have htl := size_list t l hll
  rw [hll] at hh hd hnum hpart
  have hbl := bodyD_len l
  have hb : bodyD l = l.tail := by unfold bodyD; rw [if_pos hh]
  have hcons : l = 45 :: l.tail := by
    cases l with
    | nil => simp at hh
    | cons b r => simp at hh; rw [hh]; rfl
  obtain ⟨B, hB⟩ : ∃ B, bodyD l = B := ⟨_, rfl⟩
  have HBO := Lib.hid hB
  rw [hB] at hb hbl hd hnum hpart
  have htk := takeD_len B
  have hdr := dropD_len B
  have HS := Lib.hid hs; have HD := Lib.hid hd; have HH := Lib.hid hh; have HB := Lib.hid hb; have HLL := Lib.hid hll; have HTL := Lib.hid htl; have HBL := Lib.hid hbl; have HTK := Lib.hid htk; have HDR := Lib.hid hdr
  obtain ⟨w1, w2⟩ := hw
  obtain ⟨s1, s2⟩ := hs
  have HCONS := Lib.hid hcons
  clear hcons
  have Hhnum := Lib.hid hnum
  have Hhpart := Lib.hid hpart
  clear hnum hpart
  have hlg : decide (30 < t.size) = false := by simp only [decide_eq_false_iff_not]; omega
  have hlg' : decide (30 < (t.size : Int)) = false := by simp only [decide_eq_false_iff_not]; omega
  clear hd hh hb hll htl hbl htk hdr hB
  go_enter Tryz.func7, Tryz.ntmps7
  go_wp2_with fail
  refine (rscale_yes _ _ HS.out).mono ?_; rintro e w' ⟨rfl, rfl⟩
  go_wp2_with fail
  refine (rway_yes _ _ ⟨by omega, by omega⟩).mono ?_; rintro e w' ⟨rfl, rfl⟩
  go_wp2_with fail
  refine (trim_yes t l.tail _ (by rw [HLL.out]; exact HCONS.out) hsz).mono ?_; rintro e w' ⟨⟨R, rfl, hR⟩, rfl⟩
  rw [← HB.out] at hR
  have HR := Lib.hid hR
  clear hR
  go_wp2_with fail
  have hrsz : R.size ≤ 9223372036854775807 := by rw [size_list R _ HR.out]; have := HBL.out; have := HTL.out; omega
  refine (cutDot_yes R B _ HR.out HD.out hrsz).mono ?_; rintro e w3 ⟨⟨X, Y, rfl, hX, hY⟩, q3, hw3⟩
  have HX := Lib.hid hX; have HY := Lib.hid hY
  have HQ : Hid (Below w.heap.size w w3) := Lib.hid (by rw [hw3]; exact below_drewN (Below.refl _ _) _)
  clear hX hY hw3
  have hxs : X.size ≤ 1000000 := by rw [size_list X _ HX.out]; have := HTK.out; have := HBL.out; have := HTL.out; omega
  have hcase : (decide (1 < X.size) = false ∧ decide (1 < (X.size : Int)) = false) ∨ (decide (1 < X.size) = true ∧ decide (1 < (X.size : Int)) = true) ∧ ∃ (hxp : 0 < X.size), ((X[0].toNat : Int) == 48) = false := by
    have hsx := size_list X _ HX.out
    by_cases h1 : 1 < X.size
    · right
      refine ⟨⟨by simp only [decide_eq_true_eq]; exact h1, by simp only [decide_eq_true_eq]; omega⟩, by omega, ?_⟩
      rcases num_head_ok Hhnum.out with h2 | ⟨b, r, h2, h3⟩
      · omega
      · have h4 : 0 < (takeD B).length := by omega
        have h5 := byte_at X _ HX.out 0 (by omega) h4
        rw [← h5]
        simp only [h2, List.getElem_cons_zero]
        rw [beq_eq_false_iff_ne]
        intro hx
        exact h3 (UInt8.toNat.inj (by have h48 : (48 : UInt8).toNat = 48 := rfl; omega))
    · left
      exact ⟨by simp only [decide_eq_false_iff_not]; exact h1, by simp only [decide_eq_false_iff_not]; omega⟩
  have hys : Y.size ≤ 1000000 := by rw [size_list Y _ HY.out, List.length_tail]; have := HDR.out; have := HBL.out; have := HTL.out; omega
  go_wp2_with fail
  refine (row_dr X true _ hxs (by rw [HX.out]; exact Hhnum.out.1)).mono ?_; rintro e w4 ⟨rfl, rfl⟩
  rcases hcase with ⟨hc1, hc2⟩ | ⟨⟨hc1, hc2⟩, hxp, hc3⟩
  all_goals
    go_wp2_with fail
    refine (row_dr Y false _ hys (by rw [HY.out]; exact Hhpart.out)).mono ?_; rintro e w5 ⟨rfl, rfl⟩
    go_wp2_with fail
    go_ret2
    exact ⟨rfl, HQ.out⟩


set_option maxRecDepth 100000 in
set_option maxHeartbeats 4000000 in
theorem rrd_11Q (t : ByteArray) (s way : Int) (w : World) (hsz : t.size ≤ 9223372036854775807) (hs : isScaleN s) (hw : 1 ≤ way ∧ way ≤ 3) (hh : t.data.toList.head? = some 45) (hd : dropD (bodyD t.data.toList) ≠ []) (hlong : t.size ≤ 30) (hnum : NumOk (takeD (bodyD t.data.toList))) (hpart : allDig (dropD (bodyD t.data.toList)).tail = true) (hp9 : 9 < (dropD (bodyD t.data.toList)).tail.length) :
    Calls Tryz.prog 7 #[.string t, .int .i64 s, .int .i64 way] w fun e w' => e = .returned (.tuple #[.int .i64 0, .int .i64 10]) ∧ Below w.heap.size w w' := by
  obtain ⟨l, hll⟩ : ∃ l, t.data.toList = l := ⟨_, rfl⟩
  have htl := size_list t l hll
  rw [hll] at hh hd hnum hpart hp9
  have hbl := bodyD_len l
  have hb : bodyD l = l.tail := by unfold bodyD; rw [if_pos hh]
  have hcons : l = 45 :: l.tail := by
    cases l with
    | nil => simp at hh
    | cons b r => simp at hh; rw [hh]; rfl
  obtain ⟨B, hB⟩ : ∃ B, bodyD l = B := ⟨_, rfl⟩
  have HBO := Lib.hid hB
  rw [hB] at hb hbl hd hnum hpart hp9
  have htk := takeD_len B
  have hdr := dropD_len B
  have HS := Lib.hid hs; have HD := Lib.hid hd; have HH := Lib.hid hh; have HB := Lib.hid hb; have HLL := Lib.hid hll; have HTL := Lib.hid htl; have HBL := Lib.hid hbl; have HTK := Lib.hid htk; have HDR := Lib.hid hdr
  obtain ⟨w1, w2⟩ := hw
  obtain ⟨s1, s2⟩ := hs
  have HCONS := Lib.hid hcons
  clear hcons
  have Hhnum := Lib.hid hnum
  have Hhpart := Lib.hid hpart
  have Hhp9 := Lib.hid hp9
  clear hnum hpart hp9
  have hlg : decide (30 < t.size) = false := by simp only [decide_eq_false_iff_not]; omega
  have hlg' : decide (30 < (t.size : Int)) = false := by simp only [decide_eq_false_iff_not]; omega
  clear hd hh hb hll htl hbl htk hdr hB
  go_enter Tryz.func7, Tryz.ntmps7
  go_wp2_with fail
  refine (rscale_yes _ _ HS.out).mono ?_; rintro e w' ⟨rfl, rfl⟩
  go_wp2_with fail
  refine (rway_yes _ _ ⟨by omega, by omega⟩).mono ?_; rintro e w' ⟨rfl, rfl⟩
  go_wp2_with fail
  refine (trim_yes t l.tail _ (by rw [HLL.out]; exact HCONS.out) hsz).mono ?_; rintro e w' ⟨⟨R, rfl, hR⟩, rfl⟩
  rw [← HB.out] at hR
  have HR := Lib.hid hR
  clear hR
  go_wp2_with fail
  have hrsz : R.size ≤ 9223372036854775807 := by rw [size_list R _ HR.out]; have := HBL.out; have := HTL.out; omega
  refine (cutDot_yes R B _ HR.out HD.out hrsz).mono ?_; rintro e w3 ⟨⟨X, Y, rfl, hX, hY⟩, q3, hw3⟩
  have HX := Lib.hid hX; have HY := Lib.hid hY
  have HQ : Hid (Below w.heap.size w w3) := Lib.hid (by rw [hw3]; exact below_drewN (Below.refl _ _) _)
  clear hX hY hw3
  have hxs : X.size ≤ 1000000 := by rw [size_list X _ HX.out]; have := HTK.out; have := HBL.out; have := HTL.out; omega
  have hcase : (decide (1 < X.size) = false ∧ decide (1 < (X.size : Int)) = false) ∨ (decide (1 < X.size) = true ∧ decide (1 < (X.size : Int)) = true) ∧ ∃ (hxp : 0 < X.size), ((X[0].toNat : Int) == 48) = false := by
    have hsx := size_list X _ HX.out
    by_cases h1 : 1 < X.size
    · right
      refine ⟨⟨by simp only [decide_eq_true_eq]; exact h1, by simp only [decide_eq_true_eq]; omega⟩, by omega, ?_⟩
      rcases num_head_ok Hhnum.out with h2 | ⟨b, r, h2, h3⟩
      · omega
      · have h4 : 0 < (takeD B).length := by omega
        have h5 := byte_at X _ HX.out 0 (by omega) h4
        rw [← h5]
        simp only [h2, List.getElem_cons_zero]
        rw [beq_eq_false_iff_ne]
        intro hx
        exact h3 (UInt8.toNat.inj (by have h48 : (48 : UInt8).toNat = 48 := rfl; omega))
    · left
      exact ⟨by simp only [decide_eq_false_iff_not]; exact h1, by simp only [decide_eq_false_iff_not]; omega⟩
  have hys : Y.size ≤ 1000000 := by rw [size_list Y _ HY.out, List.length_tail]; have := HDR.out; have := HBL.out; have := HTL.out; omega
  have hy9 : decide (9 < Y.size) = true := by rw [size_list Y _ HY.out]; simp only [decide_eq_true_eq]; exact Hhp9.out
  have hy9' : decide (9 < (Y.size : Int)) = true := by rw [size_list Y _ HY.out]; simp only [decide_eq_true_eq]; have := Hhp9.out; omega
  go_wp2_with fail
  refine (row_dr X true _ hxs (by rw [HX.out]; exact Hhnum.out.1)).mono ?_; rintro e w4 ⟨rfl, rfl⟩
  rcases hcase with ⟨hc1, hc2⟩ | ⟨⟨hc1, hc2⟩, hxp, hc3⟩
  all_goals
    go_wp2_with fail
    refine (row_dr Y true _ hys (by rw [HY.out]; exact Hhpart.out)).mono ?_; rintro e w5 ⟨rfl, rfl⟩
    go_wp2_with fail
    go_ret2
    exact ⟨rfl, HQ.out⟩


set_option maxRecDepth 100000 in
set_option maxHeartbeats 8000000 in
theorem rrd_11G (t : ByteArray) (s way : Int) (w : World) (htab : Tab w) (hsz : t.size ≤ 9223372036854775807) (hs : isScaleN s) (hw : 1 ≤ way ∧ way ≤ 3) (hh : t.data.toList.head? = some 45) (hd : dropD (bodyD t.data.toList) ≠ []) (hlong : t.size ≤ 30) (hnum : NumOk (takeD (bodyD t.data.toList))) (hpart : allDig (dropD (bodyD t.data.toList)).tail = true) (hp9 : (dropD (bodyD t.data.toList)).tail.length ≤ 9) :
    Calls Tryz.prog 7 #[.string t, .int .i64 s, .int .i64 way] w fun e w' => e = .returned (.tuple #[.int .i64 (rcV t.data.toList s way), .int .i64 (rcF t.data.toList s way)]) ∧ Below w.heap.size w w' := by
  obtain ⟨l, hll⟩ : ∃ l, t.data.toList = l := ⟨_, rfl⟩
  have htl := size_list t l hll
  rw [hll] at hh hd hnum hpart hp9
  have hbl := bodyD_len l
  have hb : bodyD l = l.tail := by unfold bodyD; rw [if_pos hh]
  have hcons : l = 45 :: l.tail := by
    cases l with
    | nil => simp at hh
    | cons b r => simp at hh; rw [hh]; rfl
  have HDOK : Hid (DecOk l) := Lib.hid ⟨by omega, hnum, fun _ => ⟨hpart, hp9⟩⟩
  have HSGD : Hid (∀ x, sgD l x = if true = true then -x else x) := Lib.hid (fun x => by unfold sgD; rw [if_pos hh]; simp)
  have HBO0 := Lib.hid (rfl : bodyD l = bodyD l)
  obtain ⟨B, hB⟩ : ∃ B, bodyD l = B := ⟨_, rfl⟩
  have HBO := Lib.hid hB
  rw [hB] at hb hbl hd hnum hpart hp9
  have htk := takeD_len B
  have hdr := dropD_len B
  have HS := Lib.hid hs; have HD := Lib.hid hd; have HH := Lib.hid hh; have HB := Lib.hid hb; have HLL := Lib.hid hll; have HTL := Lib.hid htl; have HBL := Lib.hid hbl; have HTK := Lib.hid htk; have HDR := Lib.hid hdr
  obtain ⟨w1, w2⟩ := hw
  obtain ⟨s1, s2⟩ := hs
  have HT := Lib.hid htab
  clear htab
  have HCONS := Lib.hid hcons
  clear hcons
  have Hhnum := Lib.hid hnum
  have Hhpart := Lib.hid hpart
  have Hhp9 := Lib.hid hp9
  clear hnum hpart hp9
  have hlg : decide (30 < t.size) = false := by simp only [decide_eq_false_iff_not]; omega
  have hlg' : decide (30 < (t.size : Int)) = false := by simp only [decide_eq_false_iff_not]; omega
  clear hd hh hb hll htl hbl htk hdr hB
  go_enter Tryz.func7, Tryz.ntmps7
  go_wp2_with fail
  refine (rscale_yes _ _ HS.out).mono ?_; rintro e w' ⟨rfl, rfl⟩
  go_wp2_with fail
  refine (rway_yes _ _ ⟨by omega, by omega⟩).mono ?_; rintro e w' ⟨rfl, rfl⟩
  go_wp2_with fail
  refine (trim_yes t l.tail _ (by rw [HLL.out]; exact HCONS.out) hsz).mono ?_; rintro e w' ⟨⟨R, rfl, hR⟩, rfl⟩
  rw [← HB.out] at hR
  have HR := Lib.hid hR
  clear hR
  go_wp2_with fail
  have hrsz : R.size ≤ 9223372036854775807 := by rw [size_list R _ HR.out]; have := HBL.out; have := HTL.out; omega
  refine (cutDot_yes R B _ HR.out HD.out hrsz).mono ?_; rintro e w3 ⟨⟨X, Y, rfl, hX, hY⟩, q3, hw3⟩
  have HX := Lib.hid hX; have HY := Lib.hid hY
  have HQ : Hid (Below w.heap.size w w3) := Lib.hid (by rw [hw3]; exact below_drewN (Below.refl _ _) _)
  clear hX hY hw3
  have hxs : X.size ≤ 1000000 := by rw [size_list X _ HX.out]; have := HTK.out; have := HBL.out; have := HTL.out; omega
  have hcase : (decide (1 < X.size) = false ∧ decide (1 < (X.size : Int)) = false) ∨ (decide (1 < X.size) = true ∧ decide (1 < (X.size : Int)) = true) ∧ ∃ (hxp : 0 < X.size), ((X[0].toNat : Int) == 48) = false := by
    have hsx := size_list X _ HX.out
    by_cases h1 : 1 < X.size
    · right
      refine ⟨⟨by simp only [decide_eq_true_eq]; exact h1, by simp only [decide_eq_true_eq]; omega⟩, by omega, ?_⟩
      rcases num_head_ok Hhnum.out with h2 | ⟨b, r, h2, h3⟩
      · omega
      · have h4 : 0 < (takeD B).length := by omega
        have h5 := byte_at X _ HX.out 0 (by omega) h4
        rw [← h5]
        simp only [h2, List.getElem_cons_zero]
        rw [beq_eq_false_iff_ne]
        intro hx
        exact h3 (UInt8.toNat.inj (by have h48 : (48 : UInt8).toNat = 48 := rfl; omega))
    · left
      exact ⟨by simp only [decide_eq_false_iff_not]; exact h1, by simp only [decide_eq_false_iff_not]; omega⟩
  have hys : Y.size ≤ 1000000 := by rw [size_list Y _ HY.out, List.length_tail]; have := HDR.out; have := HBL.out; have := HTL.out; omega
  have hy9 : decide (9 < Y.size) = false := by rw [size_list Y _ HY.out]; simp only [decide_eq_false_iff_not]; have := Hhp9.out; omega
  have hy9' : decide (9 < (Y.size : Int)) = false := by rw [size_list Y _ HY.out]; simp only [decide_eq_false_iff_not]; have := Hhp9.out; omega
  have hnes : R.toList ≠ t.toList := by
    rw [ByteArray.toList_eq, ByteArray.toList_eq, HR.out, HLL.out, HB.out]
    intro hx
    have h1 := congrArg List.length hx
    have h2 := congrArg List.length HCONS.out
    simp only [List.length_cons, List.length_tail] at h1 h2
    omega
  have hnes1 : (R.toList == t.toList) = false := by rw [beq_eq_false_iff_ne]; exact hnes
  have hnes2 : (R.toList != t.toList) = true := by rw [bne_iff_ne]; exact hnes
  clear hnes
  have hwd : DigB X.data.toList := by rw [HX.out]; exact ((allDig_iff _).1 Hhnum.out.1).1
  have hpd : DigB Y.data.toList := by rw [HY.out]; exact ((allDig_iff _).1 Hhpart.out).1
  have hxi : (X.size : Int) ≤ 8388608 := by omega
  have hyi : (Y.size : Int) ≤ 8388608 := by omega
  have hx30 : X.size ≤ 30 := by rw [size_list X _ HX.out]; have := HTK.out; have := HBL.out; have := HTL.out; omega
  have hm9 : Y.size ≤ 9 := by rw [size_list Y _ HY.out]; exact Hhp9.out
  have HCL : Hid ((X ++ Y).data.toList = X.data.toList ++ Y.data.toList) := Lib.hid (cat_list X Y)
  have HCD : Hid (DigB (X.data.toList ++ Y.data.toList)) := Lib.hid (hwd.append hpd)
  have HCS : Hid ((X.data.toList ++ Y.data.toList).length ≤ 100) := Lib.hid (by rw [List.length_append, ← size_list X _ rfl, ← size_list Y _ rfl]; omega)
  have HUP : Hid ((0 : Int) < ((10 ^ Y.size : Nat) : Int)) := Lib.hid (by have := pow9 Y.size hm9; omega)
  clear hwd hpd
  have hrc : (∀ rd, rdV (decide ((if true = true then -((dvalB (X.data.toList ++ Y.data.toList) : Nat) : Int) else ((dvalB (X.data.toList ++ Y.data.toList) : Nat) : Int)) * s < 0)) way ((((if true = true then -((dvalB (X.data.toList ++ Y.data.toList) : Nat) : Int) else ((dvalB (X.data.toList ++ Y.data.toList) : Nat) : Int)) * s).natAbs : Nat) : Int) (((10 ^ Y.size : Nat) : Int) * 1) = rd → (rd ≤ 1000000000000000 → rcF l s way = 0 ∧ rcV l s way = sgnI (decide ((if true = true then -((dvalB (X.data.toList ++ Y.data.toList) : Nat) : Int) else ((dvalB (X.data.toList ++ Y.data.toList) : Nat) : Int)) * s < 0)) rd) ∧ (¬ rd ≤ 1000000000000000 → rcF l s way = 1 ∧ rcV l s way = 0)) := (by
    intro rd hrd
    have hbo : bodyD l = B := HBO.out
    exact rc_of l s way true HS.out ⟨w1, w2⟩ HDOK.out HSGD.out (takeD B) (dropD B).tail (by rw [hbo]) (by rw [hbo]) ((allDig_iff _).1 Hhpart.out).1 (X.data.toList ++ Y.data.toList) Y.size (by rw [← HY.out]; exact size_list Y _ rfl) (by rw [dvalB_append, HX.out, HY.out]) rd hrd)
  obtain ⟨PPv, hPP⟩ : ∃ PPv : Int, (if true = true then -((dvalB (X.data.toList ++ Y.data.toList) : Nat) : Int) else ((dvalB (X.data.toList ++ Y.data.toList) : Nat) : Int)) = PPv := ⟨_, rfl⟩
  rw [hPP] at hrc
  have HPP := Lib.hid hPP; have HRC := Lib.hid hrc
  clear hPP hrc
  go_wp2_with fail
  refine (row_dr X true _ hxs (by rw [HX.out]; exact Hhnum.out.1)).mono ?_; rintro e w4 ⟨rfl, rfl⟩
  rcases hcase with ⟨hc1, hc2⟩ | ⟨⟨hc1, hc2⟩, hxp, hc3⟩
  all_goals
    go_wp2_with fail
    refine (row_dr Y true _ hys (by rw [HY.out]; exact Hhpart.out)).mono ?_; rintro e w5 ⟨rfl, rfl⟩
    go_wp2_with fail
    obtain ⟨CC, hCC⟩ : ∃ C : ByteArray, (X ++ Y) = C := ⟨_, rfl⟩
    have hcl := HCL.out
    rw [hCC] at hcl ⊢
    have HCC := Lib.hid hcl
    have hccs : CC.size ≤ 100 := by rw [size_list CC _ hcl]; exact HCS.out
    clear hCC hcl
    refine (limbs_any CC (by rw [HCC.out]; exact HCD.out) hccs _).mono ?_
    rintro e w6 ⟨⟨r6, rfl, xs, g1, g2, g3, g4⟩, b6⟩
    rw [HCC.out] at g3
    have B6 := Lib.hid (HQ.out.trans (b6.mono HQ.out.size))
    have G1 := Lib.hid g1; have G2 := Lib.hid g2; have G3 := Lib.hid g3; have G4 := Lib.hid g4
    clear g1 g2 g3 g4 b6
    go_wp2_with fail
    refine (Tryz.strings_Repeat ⟨#[48]⟩ Y.size _ (by omega) (by have : (⟨#[48]⟩ : ByteArray).size = 1 := rfl; rw [this]; omega)).mono ?_
    rintro e w7 ⟨rfl, b7⟩
    have hrl : Lib.repeatL (⟨#[48]⟩ : ByteArray).data.toList Y.size = List.replicate Y.size 48 := repeatL_zero Y.size
    rw [hrl]
    obtain ⟨Zr, hZr⟩ : ∃ Z : ByteArray, (⟨(List.replicate Y.size 48).toArray⟩ : ByteArray) = Z := ⟨_, rfl⟩
    have hZl : Zr.data.toList = List.replicate Y.size 48 := by rw [← hZr]
    have hZs : (Zr.size : Int) ≤ 8388608 := by rw [size_list Zr _ hZl, List.length_replicate]; omega
    rw [hZr]
    have B7 := Lib.hid (B6.out.trans (b7.mono B6.out.size))
    have G1b := Lib.hid (G1.out.below b7 (Nat.le_refl _))
    have k49 : ((⟨#[49]⟩ : ByteArray).size : Int) ≤ 8388608 := by decide
    have HOL : Hid ((⟨#[49]⟩ ++ Zr : ByteArray).data.toList = 49 :: List.replicate Y.size 48) := Lib.hid (by rw [cat_list, hZl]; rfl)
    clear hrl hZr hZl b7
    go_wp2_with fail
    obtain ⟨O, hO⟩ : ∃ O : ByteArray, (⟨#[49]⟩ : ByteArray) ++ Zr = O := ⟨_, rfl⟩
    have hol := HOL.out
    rw [hO] at hol ⊢
    have HOO := Lib.hid hol
    have hos : O.size ≤ 100 := by rw [size_list O _ hol, List.length_cons, List.length_replicate]; omega
    clear hO hol HOL
    refine (limbs_any O (by rw [HOO.out]; exact one_dig _) hos _).mono ?_
    rintro e w8 ⟨⟨r8, rfl, ys, g1, g2, g3, g4⟩, b8⟩
    rw [HOO.out, one_dval] at g3
    have B8 := Lib.hid (B7.out.trans (b8.mono B7.out.size))
    have G1c := Lib.hid (G1b.out.below b8 (Nat.le_refl _))
    have K1 := Lib.hid g1; have K2 := Lib.hid g2; have K3 := Lib.hid g3; have K4 := Lib.hid g4
    clear g1 g2 g3 g4 b8
    go_wp2_with fail
    refine (lowest_num false _ _ xs ys _ 30 G1c.out K1.out G2.out K2.out (by rw [K3.out]; exact HUP.out) G4.out K4.out (by omega)).mono ?_
    rintro e w9 ⟨⟨r9, rfl, hr⟩, b9⟩
    rw [G3.out, K3.out] at hr
    have B9 := Lib.hid (B8.out.trans (b9.mono B8.out.size))
    obtain ⟨sg, a8, n8, c8, a9, n9, c9, rfl⟩ := hr.shape2
    have HR9 := Lib.hid hr
    clear hr b9
    go_wp2_with fail
    have HRA : Hid (NumR (w9.alloc (.cells #[.bool sg, .slice a8 n8 c8, .slice a9 n9 c9] 38)) (.agg #[.bool sg, .slice a8 n8 c8, .slice a9 n9 c9]) (if false = true then -((dvalB (X.data.toList ++ Y.data.toList) : Nat) : Int) else ((dvalB (X.data.toList ++ Y.data.toList) : Nat) : Int)) ((10 ^ Y.size : Nat) : Int) 30) := Lib.hid (HR9.out.below ((Below.refl w9.heap.size w9).alloc (Nat.le_refl _) _) (Nat.le_refl _))
    refine (minus_num _ (if false = true then -((dvalB (X.data.toList ++ Y.data.toList) : Nat) : Int) else ((dvalB (X.data.toList ++ Y.data.toList) : Nat) : Int)) ((10 ^ Y.size : Nat) : Int) _ 30 HRA.out).mono ?_
    rintro e w10 ⟨⟨r10, rfl, k10⟩, b10⟩
    obtain ⟨sh, a10, n10, c10, a11, n11, c11, rfl⟩ := k10.shape2
    have b10' : Below (w9.heap.size + 1) (w9.alloc (.cells #[.bool sg, .slice a8 n8 c8, .slice a9 n9 c9] 38)) w10 := by simpa using b10
    obtain ⟨m1, m2, m3, f1, f2, f3, hni, hlt⟩ := num_cells2 b10'
    have K10 := Lib.hid (k10.stored2 hni)
    have B10 : Hid (Below w.heap.size w (((w10.setCell ⟨w9.heap.size, 0, none⟩ (.bool sh)).setCell ⟨w9.heap.size, 1, none⟩ (.slice a10 n10 c10)).setCell ⟨w9.heap.size, 2, none⟩ (.slice a11 n11 c11))) := Lib.hid (by
      have hsz := B9.out.size
      have h1 : Below w.heap.size w w10 := (B9.out.alloc hsz _).trans (b10'.mono (by omega))
      exact ((h1.setCell hsz _).setCell hsz _).setCell hsz _)
    clear k10 b10 b10' hni
    go_wp2_with fail
    obtain ⟨W, hW⟩ : ∃ W, (((w10.setCell ⟨w9.heap.size, 0, none⟩ (.bool sh)).setCell ⟨w9.heap.size, 1, none⟩ (.slice a10 n10 c10)).setCell ⟨w9.heap.size, 2, none⟩ (.slice a11 n11 c11)) = W := ⟨_, rfl⟩
    have hWs : w9.heap.size + 1 ≤ W.heap.size := by rw [← hW]; simp; omega
    have hthree := three_cells (a := .bool sh) (b := .slice a10 n10 c10) (c := .slice a11 n11 c11) m1 m2 m3
    rw [hW] at hthree
    obtain ⟨q1, q2, q3⟩ := hthree
    have HWB : Hid (Below w.heap.size w W) := Lib.hid (by rw [← hW]; exact B10.out)
    have HRW : Hid (NumR W (.agg #[.bool sh, .slice a10 n10 c10, .slice a11 n11 c11]) PPv ((10 ^ Y.size : Nat) : Int) 30) := Lib.hid (by rw [← hW]; have h := K10.out; rw [show -((if false = true then -((dvalB (X.data.toList ++ Y.data.toList) : Nat) : Int) else ((dvalB (X.data.toList ++ Y.data.toList) : Nat) : Int))) = PPv by rw [← HPP.out]; simp] at h; exact h)
    clear m1 m2 m3 f1 f2 f3 hlt
    rw [hW]
    clear hW
    obtain ⟨rd, hrd⟩ : ∃ rd, rdV (decide (PPv * s < 0)) way (((PPv * s).natAbs : Nat) : Int) (((10 ^ Y.size : Nat) : Int) * 1) = rd := ⟨_, rfl⟩
    obtain ⟨V, hV⟩ : ∃ V, sgnI (decide (PPv * s < 0)) rd = V := ⟨_, rfl⟩
    have HRD := Lib.hid hrd; have HV := Lib.hid hV
    clear hrd hV
    by_cases hok : rd ≤ 1000000000000000
    · have hc1 : (if 1000000000000000 < rd then 0 else sgnI (decide (PPv * s < 0)) rd) = V := by rw [if_neg (by omega)]; exact HV.out
      have hc2 : decide (rd ≤ 1000000000000000) = true := by simp only [decide_eq_true_eq]; exact hok
      have HC1 := Lib.hid hc1; have HC2 := Lib.hid hc2; have HOK := Lib.hid hok
      clear hc1 hc2 hok
      go_region_held3 (fun w' => w'.cell? ⟨w9.heap.size, 0, none⟩ = some (.bool sh) ∧ w'.cell? ⟨w9.heap.size, 1, none⟩ = some (.slice a10 n10 c10) ∧ w'.cell? ⟨w9.heap.size, 2, none⟩ = some (.slice a11 n11 c11))
        (first
          | (refine ⟨?_, ?_, ?_⟩ <;> (rw [b3.cell (by simp; omega)]; simp [*]; done))
          | (go_keep; done))
        (first
          | (go_at_call 38
             refine (int_any s (by omega) (by omega) _ ?g1).mono ?_
             (case g1 => exact HT.out.below (by repeat (first | exact HWB.out | apply below_drewN | apply Below.drew)) (Nat.le_refl _))
             rintro e w3 ⟨⟨r3, rfl, k3⟩, b3⟩
             have K5 := Lib.hid k3
             have BW3 : Hid (Below W.heap.size W w3) := Lib.hid (Below.trans (by repeat (first | exact Below.refl _ _ | apply below_drewN | apply Below.drew)) (b3.mono (by simp)))
             have hs3 : w9.heap.size + 1 ≤ w3.heap.size := by have := BW3.out.size; omega
             clear k3)
          | (go_at_call 37
             refine (times_num _ _ PPv ((10 ^ Y.size : Nat) : Int) s 1 _ 30 30 ?g1 ?g2 (by omega)).mono ?_
             (case g1 => exact HRW.out.below (by repeat (first | exact BW3.out | apply below_drewN | apply Below.drew)) (Nat.le_refl _))
             (case g2 => exact K5.out.below (B := w3.heap.size) (by repeat (first | exact Below.refl _ _ | apply below_drewN | apply Below.drew)) (Nat.le_refl _))
             rintro e w5 ⟨⟨r5, rfl, k5⟩, b3⟩
             have K6 := Lib.hid k5
             have BW5 : Hid (Below W.heap.size W w5) := Lib.hid (Below.trans (by repeat (first | exact BW3.out | apply below_drewN | apply Below.drew)) (b3.mono (by first | exact BW3.out.size | (simp; exact BW3.out.size))))
             have hs5 : w9.heap.size + 1 ≤ w5.heap.size := by have := BW5.out.size; omega
             clear k5)
          | (go_at_call 36
             refine (roundn_num _ (PPv * s) (((10 ^ Y.size : Nat) : Int) * 1) _ way 1000000000000000 60 ?g1 ?g2 ⟨w1, w2⟩ (by omega) (by omega) (by omega)).mono ?_
             (case g1 => exact HT.out.below (HWB.out.trans (by repeat (first | exact BW5.out.mono (by have := HWB.out.size; omega) | apply below_drewN | apply Below.drew))) (Nat.le_refl _))
             (case g2 => exact K6.out.below (B := w5.heap.size) (by repeat (first | exact Below.refl _ _ | apply below_drewN | apply Below.drew)) (Nat.le_refl _))
             rintro e w7 ⟨rfl, b3⟩
             rw [HRD.out, HC1.out, HC2.out]
             have BW7 : Hid (Below W.heap.size W w7) := Lib.hid (Below.trans (by repeat (first | exact BW5.out | apply below_drewN | apply Below.drew)) (b3.mono (by first | exact BW5.out.size | (simp; exact BW5.out.size))))
             have hs7 : w9.heap.size + 1 ≤ w7.heap.size := by have := BW7.out.size; omega))
      all_goals
        go_wp2_with fail
        go_ret2
        refine ⟨ret2_ii ?_ ?_, by repeat (first | exact HWB.out.trans (BW7.out.mono (by have := HWB.out.size; omega)) | apply below_drewN | apply Below.drew)⟩
        · have := HRC.out rd HRD.out; rw [HLL.out, ((this.1) HOK.out).2]; exact HV.out.symm
        · have := HRC.out rd HRD.out; rw [HLL.out, ((this.1) HOK.out).1]
    · have hc1 : (if 1000000000000000 < rd then 0 else sgnI (decide (PPv * s < 0)) rd) = 0 := by rw [if_pos (by omega)]
      have hc2 : decide (rd ≤ 1000000000000000) = false := by simp only [decide_eq_false_iff_not]; exact hok
      have HC1 := Lib.hid hc1; have HC2 := Lib.hid hc2; have HOK := Lib.hid hok
      clear hc1 hc2 hok
      go_region_held3 (fun w' => w'.cell? ⟨w9.heap.size, 0, none⟩ = some (.bool sh) ∧ w'.cell? ⟨w9.heap.size, 1, none⟩ = some (.slice a10 n10 c10) ∧ w'.cell? ⟨w9.heap.size, 2, none⟩ = some (.slice a11 n11 c11))
        (first
          | (refine ⟨?_, ?_, ?_⟩ <;> (rw [b3.cell (by simp; omega)]; simp [*]; done))
          | (go_keep; done))
        (first
          | (go_at_call 38
             refine (int_any s (by omega) (by omega) _ ?g1).mono ?_
             (case g1 => exact HT.out.below (by repeat (first | exact HWB.out | apply below_drewN | apply Below.drew)) (Nat.le_refl _))
             rintro e w3 ⟨⟨r3, rfl, k3⟩, b3⟩
             have K5 := Lib.hid k3
             have BW3 : Hid (Below W.heap.size W w3) := Lib.hid (Below.trans (by repeat (first | exact Below.refl _ _ | apply below_drewN | apply Below.drew)) (b3.mono (by simp)))
             have hs3 : w9.heap.size + 1 ≤ w3.heap.size := by have := BW3.out.size; omega
             clear k3)
          | (go_at_call 37
             refine (times_num _ _ PPv ((10 ^ Y.size : Nat) : Int) s 1 _ 30 30 ?g1 ?g2 (by omega)).mono ?_
             (case g1 => exact HRW.out.below (by repeat (first | exact BW3.out | apply below_drewN | apply Below.drew)) (Nat.le_refl _))
             (case g2 => exact K5.out.below (B := w3.heap.size) (by repeat (first | exact Below.refl _ _ | apply below_drewN | apply Below.drew)) (Nat.le_refl _))
             rintro e w5 ⟨⟨r5, rfl, k5⟩, b3⟩
             have K6 := Lib.hid k5
             have BW5 : Hid (Below W.heap.size W w5) := Lib.hid (Below.trans (by repeat (first | exact BW3.out | apply below_drewN | apply Below.drew)) (b3.mono (by first | exact BW3.out.size | (simp; exact BW3.out.size))))
             have hs5 : w9.heap.size + 1 ≤ w5.heap.size := by have := BW5.out.size; omega
             clear k5)
          | (go_at_call 36
             refine (roundn_num _ (PPv * s) (((10 ^ Y.size : Nat) : Int) * 1) _ way 1000000000000000 60 ?g1 ?g2 ⟨w1, w2⟩ (by omega) (by omega) (by omega)).mono ?_
             (case g1 => exact HT.out.below (HWB.out.trans (by repeat (first | exact BW5.out.mono (by have := HWB.out.size; omega) | apply below_drewN | apply Below.drew))) (Nat.le_refl _))
             (case g2 => exact K6.out.below (B := w5.heap.size) (by repeat (first | exact Below.refl _ _ | apply below_drewN | apply Below.drew)) (Nat.le_refl _))
             rintro e w7 ⟨rfl, b3⟩
             rw [HRD.out, HC1.out, HC2.out]
             have BW7 : Hid (Below W.heap.size W w7) := Lib.hid (Below.trans (by repeat (first | exact BW5.out | apply below_drewN | apply Below.drew)) (b3.mono (by first | exact BW5.out.size | (simp; exact BW5.out.size))))
             have hs7 : w9.heap.size + 1 ≤ w7.heap.size := by have := BW7.out.size; omega))
      all_goals
        go_wp2_with fail
        go_ret2
        refine ⟨ret2_ii ?_ ?_, by repeat (first | exact HWB.out.trans (BW7.out.mono (by have := HWB.out.size; omega)) | apply below_drewN | apply Below.drew)⟩
        · have := HRC.out rd HRD.out; rw [HLL.out, ((this.2) HOK.out).2]
        · have := HRC.out rd HRD.out; rw [HLL.out, ((this.2) HOK.out).1]

theorem rreadDec_any (t : ByteArray) (s way : Int) (w : World) (htab : Tab w) (hsz : t.size ≤ 9223372036854775807) :
    Calls Tryz.prog 7 #[.string t, .int .i64 s, .int .i64 way] w fun e w' => e = .returned (.tuple #[.int .i64 (rcV t.data.toList s way), .int .i64 (rcF t.data.toList s way)]) ∧ Below w.heap.size w w' := by
  have htl := size_list t _ rfl
  by_cases hs : isScaleN s
  · by_cases hw : 1 ≤ way ∧ way ≤ 3
    · by_cases hok : DecOk t.data.toList
      · obtain ⟨ok1, ok2, ok3⟩ := hok
        by_cases hh : t.data.toList.head? = some 45 <;> by_cases hd : dropD (bodyD t.data.toList) = []
        · exact rrd_10G t s way w htab hsz hs hw hh hd (by omega) ok2
        · exact rrd_11G t s way w htab hsz hs hw hh hd (by omega) ok2 (ok3 hd).1 (ok3 hd).2
        · exact rrd_00G t s way w htab hsz hs hw hh hd (by omega) ok2
        · exact rrd_01G t s way w htab hsz hs hw hh hd (by omega) ok2 (ok3 hd).1 (ok3 hd).2
      · have e0 := rcF_form hs hw hok
        have e1 : rcV t.data.toList s way = 0 := by unfold rcV; rw [e0]; rfl
        rw [e0, e1]
        by_cases h30 : t.size ≤ 30
        · by_cases hnum : NumOk (takeD (bodyD t.data.toList))
          · by_cases hd : dropD (bodyD t.data.toList) = []
            · exact absurd ⟨by omega, hnum, fun hx => absurd hd hx⟩ hok
            · cases hpart : allDig (dropD (bodyD t.data.toList)).tail
              · by_cases hh : t.data.toList.head? = some 45
                · exact rrd_11P t s way w hsz hs hw hh hd h30 hnum hpart
                · exact rrd_01P t s way w hsz hs hw hh hd h30 hnum hpart
              · have hp9 : 9 < (dropD (bodyD t.data.toList)).tail.length := by
                  apply Decidable.byContradiction; intro hx
                  exact hok ⟨by omega, hnum, fun _ => ⟨hpart, by omega⟩⟩
                by_cases hh : t.data.toList.head? = some 45
                · exact rrd_11Q t s way w hsz hs hw hh hd h30 hnum hpart hp9
                · exact rrd_01Q t s way w hsz hs hw hh hd h30 hnum hpart hp9
          · cases hdig : allDig (takeD (bodyD t.data.toList))
            · by_cases hh : t.data.toList.head? = some 45 <;> by_cases hd : dropD (bodyD t.data.toList) = []
              · exact rrd_10N t s way w hsz hs hw hh hd h30 hdig
              · exact rrd_11N t s way w hsz hs hw hh hd h30 hdig
              · exact rrd_00N t s way w hsz hs hw hh hd h30 hdig
              · exact rrd_01N t s way w hsz hs hw hh hd h30 hdig
            · by_cases hh : t.data.toList.head? = some 45 <;> by_cases hd : dropD (bodyD t.data.toList) = []
              · exact rrd_10Z t s way w hsz hs hw hh hd h30 hdig hnum
              · exact rrd_11Z t s way w hsz hs hw hh hd h30 hdig hnum
              · exact rrd_00Z t s way w hsz hs hw hh hd h30 hdig hnum
              · exact rrd_01Z t s way w hsz hs hw hh hd h30 hdig hnum
        · by_cases hh : t.data.toList.head? = some 45 <;> by_cases hd : dropD (bodyD t.data.toList) = []
          · exact rrd_10L t s way w hsz hs hw hh hd (by omega)
          · exact rrd_11L t s way w hsz hs hw hh hd (by omega)
          · exact rrd_00L t s way w hsz hs hw hh hd (by omega)
          · exact rrd_01L t s way w hsz hs hw hh hd (by omega)
    · have e0 := rcF_way (l := t.data.toList) hs hw
      have e1 : rcV t.data.toList s way = 0 := by unfold rcV; rw [e0]; rfl
      rw [e0, e1]
      have HS := Lib.hid hs; have HW := Lib.hid hw
      clear hs hw e0 e1 htl
      go_enter Tryz.func7, Tryz.ntmps7
      go_wp2_with fail
      refine (rscale_yes _ _ HS.out).mono ?_; rintro e w' ⟨rfl, rfl⟩
      go_wp2_with fail
      refine (rway_no _ _ HW.out).mono ?_; rintro e w' ⟨rfl, rfl⟩
      go_wp2_with fail
      go_ret2
      exact ⟨rfl, Below.refl _ _⟩
  · have e0 := rcF_scale (l := t.data.toList) (way := way) hs
    have e1 : rcV t.data.toList s way = 0 := by unfold rcV; rw [e0]; rfl
    rw [e0, e1]
    have HS := Lib.hid hs
    clear hs e0 e1 htl
    go_enter Tryz.func7, Tryz.ntmps7
    go_wp2_with fail
    refine (rscale_no _ _ HS.out).mono ?_; rintro e w' ⟨rfl, rfl⟩
    go_wp2_with fail
    go_ret2
    exact ⟨rfl, Below.refl _ _⟩

set_option maxRecDepth 100000 in
set_option maxHeartbeats 4000000 in
theorem decsLaw_any (n s k : Int) (t : ByteArray) (way : Int) (w : World) (htab : Tab w) (hs : t.size ≤ maxLen) :
    Calls Tryz.prog 3 #[.int .i64 n, .int .i64 s, .int .i64 k, .string t, .int .i64 way] w fun e w' => e = .returned (.bool true) ∧ Below w.heap.size w w' := by
  replace hs : t.size ≤ 9223372036854775807 := by unfold maxLen at hs; omega
  have HT := Lib.hid htab
  obtain ⟨V, hV⟩ : ∃ V, rcV t.data.toList s way = V := ⟨_, rfl⟩
  obtain ⟨F, hF⟩ : ∃ F, rcF t.data.toList s way = F := ⟨_, rfl⟩
  have HV := Lib.hid hV; have HF := Lib.hid hF
  clear htab hV hF
  by_cases h : isTimeN n ∧ isScaleN s ∧ 0 ≤ k ∧ k ≤ 9
  · obtain ⟨h1, h2, h3, h4⟩ := h
    obtain ⟨j, hj⟩ : ∃ j : Nat, k = (j : Int) := ⟨k.toNat, by omega⟩
    subst hj
    obtain ⟨W, P, hdp⟩ := decP_ex n s j
    have H1 := Lib.hid h1; have H2 := Lib.hid h2; have HDP := Lib.hid hdp
    have hj9 : j ≤ 9 := by omega
    clear h1 h2 hdp
    go_enter Tryz.func3, Tryz.ntmps3
    go_wp2_with fail
    refine (decimal_ok n s W P j _ HT.out H1.out H2.out hj9 HDP.out).mono ?_; rintro e w1 ⟨⟨S, rfl, hS⟩, b⟩
    have HS := Lib.hid hS; have B1 := Lib.hid b; clear hS b
    go_wp2_with fail
    refine (rdecimal_ok n s W P j _ (HT.out.below B1.out (Nat.le_refl _)) H1.out H2.out hj9 HDP.out).mono ?_; rintro e w2 ⟨⟨Z, rfl, hZ⟩, b⟩
    have B2 := Lib.hid (B1.out.trans (b.mono B1.out.size))
    obtain rfl : Z = S := same_text _ _ (by rw [hZ, HS.out])
    clear b hZ
    go_wp2_with fail
    refine (readDec_any t s way _ hs).mono ?_; rintro e w3 ⟨rfl, q, hw⟩
    rw [HV.out, HF.out]
    have B3 : Hid (Below w.heap.size w w3) := Lib.hid (by rw [hw]; exact below_drewN B2.out _)
    clear hw
    go_wp2_with fail
    refine (rreadDec_any t s way _ (HT.out.below B3.out (Nat.le_refl _)) hs).mono ?_; rintro e w4 ⟨rfl, b⟩
    rw [HV.out, HF.out]
    have B4 := Lib.hid (B3.out.trans (b.mono B3.out.size)); clear b
    go_wp2_with fail
    refine (awake_any _).mono ?_; rintro e w5 ⟨rfl, k5, rfl⟩
    go_wp2_with fail
    go_ret
    exact ⟨rfl, below_drewN B4.out _⟩
  · have HB := Lib.hid h
    have B2 : Hid (Below w.heap.size w w) := Lib.hid (Below.refl _ _)
    clear h
    go_enter Tryz.func3, Tryz.ntmps3
    go_wp2_with fail
    refine (decimal_bad n s k _ HB.out).mono ?_; rintro e w1 ⟨rfl, rfl⟩
    go_wp2_with fail
    refine (rdecimal_bad n s k _ HB.out).mono ?_; rintro e w1 ⟨rfl, rfl⟩
    go_wp2_with fail
    refine (readDec_any t s way _ hs).mono ?_; rintro e w3 ⟨rfl, q, hw⟩
    rw [HV.out, HF.out]
    have B3 : Hid (Below w.heap.size w w3) := Lib.hid (by rw [hw]; exact below_drewN B2.out _)
    clear hw
    go_wp2_with fail
    refine (rreadDec_any t s way _ (HT.out.below B3.out (Nat.le_refl _)) hs).mono ?_; rintro e w4 ⟨rfl, b⟩
    rw [HV.out, HF.out]
    have B4 := Lib.hid (B3.out.trans (b.mono B3.out.size)); clear b
    go_wp2_with fail
    refine (awake_any _).mono ?_; rintro e w5 ⟨rfl, k5, rfl⟩
    go_wp2_with fail
    go_ret
    exact ⟨rfl, below_drewN B4.out _⟩

end Go.Proofs.YtppaklifacadpaaGreatDoor
