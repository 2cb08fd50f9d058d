/- ReadDecimal of the program. -/
import Derived.Test.YtppaklifacadpaaGreatDoorDecimal
namespace Go.Proofs.YtppaklifacadpaaGreatDoor
set_option linter.unusedVariables false
set_option linter.unusedSimpArgs false
open Go.RowKit

theorem numV_bd (l : List UInt8) : 0 ≤ numV l ∧ numV l ≤ 1000000000000001 := by unfold numV; omega
theorem part2_bd (x s U way : Int) (h : (x.natAbs : Int) < U) (s1 : 1 ≤ s) (hU : 1 ≤ U) : -(s + 1) ≤ portQ x s U way ∧ portQ x s U way ≤ s + 1 := by
  have ha0 : 0 ≤ (x.natAbs : Int) := by omega
  generalize hxa : (x.natAbs : Int) = a at *
  have hm : a * s ≤ (U - 1) * s := Int.mul_le_mul_of_nonneg_right (by omega) (by omega)
  have hp : 0 ≤ a * s := Int.mul_nonneg ha0 (by omega)
  have hq0 : 0 ≤ a * s / U := Int.ediv_nonneg hp (by omega)
  have hq1 : a * s / U < s := by
    rw [Int.ediv_lt_iff_lt_mul (by omega)]
    rw [Int.sub_mul] at hm
    rw [Int.mul_comm s U]
    omega
  unfold portQ
  simp only [hxa]
  generalize a * s / U = q at *
  split <;> split <;> first | omega | (split <;> omega)

/-- The part of a text behind its sign. -/
def bodyD (l : List UInt8) : List UInt8 := if l.head? = some 45 then l.tail else l
def sgD (l : List UInt8) (x : Int) : Int := if l.head? = some 45 then -x else x
/-- It is a decimal. -/
def DecOk (l : List UInt8) : Prop := l.length ≤ 30 ∧ NumOk (takeD (bodyD l)) ∧ (dropD (bodyD l) ≠ [] → allDig (dropD (bodyD l)).tail = true ∧ (dropD (bodyD l)).tail.length ≤ 9)
/-- Its ticks. -/
def decQ (l : List UInt8) (s way : Int) : Int :=
  portQ (sgD l (numV (takeD (bodyD l)))) s 1 way + portQ (sgD l (numV (dropD (bodyD l)).tail)) s ((10 ^ (dropD (bodyD l)).tail.length : Nat) : Int) way

theorem takeD_len (l : List UInt8) : (takeD l).length ≤ l.length := by
  have := congrArg List.length (split_dot l); rw [List.length_append] at this; omega
theorem dropD_len (l : List UInt8) : (dropD l).length ≤ l.length := by
  have := congrArg List.length (split_dot l); rw [List.length_append] at this; omega
theorem bodyD_len (l : List UInt8) : (bodyD l).length ≤ l.length := by
  unfold bodyD; split
  · rw [List.length_tail]; omega
  · omega


set_option maxRecDepth 100000 in
set_option maxHeartbeats 4000000 in
theorem rdec_00L (t : ByteArray) (s way : Int) (w : World) (hsz : t.size ≤ 9223372036854775807) (hs : isScaleN s) (hw : 1 ≤ way ∧ way ≤ 3) (hh : t.data.toList.head? ≠ some 45) (hd : dropD (bodyD t.data.toList) = []) (hlong : 30 < t.size) :
    Calls Tryz.prog 6 #[.string t, .int .i64 s, .int .i64 way] w fun e w' => e = .returned (.tuple #[.int .i64 0, .int .i64 10]) ∧ ∃ q, w' = w.drewN q := by
  obtain ⟨l, hll⟩ : ∃ l, t.data.toList = l := ⟨_, rfl⟩
  have htl := size_list t l hll
  rw [hll] at hh hd
  have hbl := bodyD_len l
  have hb : bodyD l = l := by unfold bodyD; rw [if_neg hh]
  obtain ⟨B, hB⟩ : ∃ B, bodyD l = B := ⟨_, rfl⟩
  rw [hB] at hb hbl hd
  have htk := takeD_len B
  have hdr := dropD_len B
  have HS := Lib.hid hs; have HD := Lib.hid hd; have HH := Lib.hid hh; have HB := Lib.hid hb; have HLL := Lib.hid hll; have HTL := Lib.hid htl; have HBL := Lib.hid hbl; have HTK := Lib.hid htk; have HDR := Lib.hid hdr
  obtain ⟨w1, w2⟩ := hw
  obtain ⟨s1, s2⟩ := hs
  have hlg : decide (30 < t.size) = true := by simp only [decide_eq_true_eq]; omega
  have hlg' : decide (30 < (t.size : Int)) = true := by simp only [decide_eq_true_eq]; omega
  clear hd hh hb hll htl hbl htk hdr hB
  go_enter Tryz.func6, Tryz.ntmps6
  go_wp2_with fail
  refine (isScale_yes _ _ HS.out).mono ?_; rintro e w' ⟨rfl, rfl⟩
  go_wp2_with fail
  refine (isWay_yes _ _ ⟨by omega, by omega⟩).mono ?_; rintro e w' ⟨rfl, rfl⟩
  go_wp2_with fail
  refine (cutPrefix_no t _ (by rw [HLL.out]; exact HH.out)).mono ?_; rintro e w' ⟨rfl, rfl⟩
  have HR : Hid (t.data.toList = B) := Lib.hid (by rw [HLL.out]; exact HB.out.symm)
  go_wp2_with fail
  have hdd : dropD t.data.toList = [] := by rw [HR.out]; exact HD.out
  have htd : takeD B = B := by have := split_dot B; rw [HD.out, List.append_nil] at this; exact this
  have HDD := Lib.hid hdd; have HTD := Lib.hid htd
  clear hdd htd
  refine (cutDot_no t _ HDD.out).mono ?_; rintro e w3 ⟨rfl, rfl⟩
  have HX : Hid (t.data.toList = takeD B) := Lib.hid (by rw [HR.out]; exact HTD.out.symm)
  have HQ : Hid (∃ q, w = w.drewN q) := Lib.hid ⟨0, rfl⟩
  go_wp2_with fail
  go_ret2
  exact ⟨rfl, HQ.out⟩

set_option maxRecDepth 100000 in
set_option maxHeartbeats 4000000 in
theorem rdec_00N (t : ByteArray) (s way : Int) (w : World) (hsz : t.size ≤ 9223372036854775807) (hs : isScaleN s) (hw : 1 ≤ way ∧ way ≤ 3) (hh : t.data.toList.head? ≠ some 45) (hd : dropD (bodyD t.data.toList) = []) (hlong : t.size ≤ 30) (hnum : ¬ NumOk (takeD (bodyD t.data.toList))) :
    Calls Tryz.prog 6 #[.string t, .int .i64 s, .int .i64 way] w fun e w' => e = .returned (.tuple #[.int .i64 0, .int .i64 10]) ∧ ∃ q, w' = w.drewN q := by
  obtain ⟨l, hll⟩ : ∃ l, t.data.toList = l := ⟨_, rfl⟩
  have htl := size_list t l hll
  rw [hll] at hh hd hnum
  have hbl := bodyD_len l
  have hb : bodyD l = l := by unfold bodyD; rw [if_neg hh]
  obtain ⟨B, hB⟩ : ∃ B, bodyD l = B := ⟨_, rfl⟩
  rw [hB] at hb hbl hd hnum
  have htk := takeD_len B
  have hdr := dropD_len B
  have HS := Lib.hid hs; have HD := Lib.hid hd; have HH := Lib.hid hh; have HB := Lib.hid hb; have HLL := Lib.hid hll; have HTL := Lib.hid htl; have HBL := Lib.hid hbl; have HTK := Lib.hid htk; have HDR := Lib.hid hdr
  obtain ⟨w1, w2⟩ := hw
  obtain ⟨s1, s2⟩ := hs
  have HN := Lib.hid hnum
  clear hnum
  have hlg : decide (30 < t.size) = false := by simp only [decide_eq_false_iff_not]; omega
  have hlg' : decide (30 < (t.size : Int)) = false := by simp only [decide_eq_false_iff_not]; omega
  clear hd hh hb hll htl hbl htk hdr hB
  go_enter Tryz.func6, Tryz.ntmps6
  go_wp2_with fail
  refine (isScale_yes _ _ HS.out).mono ?_; rintro e w' ⟨rfl, rfl⟩
  go_wp2_with fail
  refine (isWay_yes _ _ ⟨by omega, by omega⟩).mono ?_; rintro e w' ⟨rfl, rfl⟩
  go_wp2_with fail
  refine (cutPrefix_no t _ (by rw [HLL.out]; exact HH.out)).mono ?_; rintro e w' ⟨rfl, rfl⟩
  have HR : Hid (t.data.toList = B) := Lib.hid (by rw [HLL.out]; exact HB.out.symm)
  go_wp2_with fail
  have hdd : dropD t.data.toList = [] := by rw [HR.out]; exact HD.out
  have htd : takeD B = B := by have := split_dot B; rw [HD.out, List.append_nil] at this; exact this
  have HDD := Lib.hid hdd; have HTD := Lib.hid htd
  clear hdd htd
  refine (cutDot_no t _ HDD.out).mono ?_; rintro e w3 ⟨rfl, rfl⟩
  have HX : Hid (t.data.toList = takeD B) := Lib.hid (by rw [HR.out]; exact HTD.out.symm)
  have HQ : Hid (∃ q, w = w.drewN q) := Lib.hid ⟨0, rfl⟩
  have hxs : t.size ≤ 1000000 := by rw [size_list t _ HX.out]; have := HTK.out; have := HBL.out; have := HTL.out; omega
  go_wp2_with fail
  refine (isNumber_any t _ False hxs ⟨False.elim, fun hx => HN.out (by rw [← HX.out]; exact hx)⟩).mono ?_; rintro e w4 ⟨rfl, hq4⟩
  have HQ4 : Hid (∃ q, w4 = w.drewN q) := Lib.hid (by obtain ⟨q, rfl⟩ := hq4; exact drewN_ex HQ.out q)
  clear hq4
  go_wp2_with fail
  go_ret2
  exact ⟨rfl, HQ4.out⟩

set_option maxRecDepth 100000 in
set_option maxHeartbeats 4000000 in
theorem rdec_00T (t : ByteArray) (s way : Int) (w : World) (hsz : t.size ≤ 9223372036854775807) (hs : isScaleN s) (hw : 1 ≤ way ∧ way ≤ 3) (hh : t.data.toList.head? ≠ some 45) (hd : dropD (bodyD t.data.toList) = []) (hlong : t.size ≤ 30) (hnum : NumOk (takeD (bodyD t.data.toList))) (T : Int) (hT : decQ t.data.toList s way = T) (hit : isTimeN T) :
    Calls Tryz.prog 6 #[.string t, .int .i64 s, .int .i64 way] w fun e w' => e = .returned (.tuple #[.int .i64 T, .int .i64 0]) ∧ ∃ q, w' = w.drewN q := by
  obtain ⟨l, hll⟩ : ∃ l, t.data.toList = l := ⟨_, rfl⟩
  have htl := size_list t l hll
  rw [hll] at hh hd hnum hT
  have hbl := bodyD_len l
  unfold decQ at hT
  have hb : bodyD l = l := by unfold bodyD; rw [if_neg hh]
  rw [show ∀ x, sgD l x = x from fun x => by unfold sgD; rw [if_neg hh], show ∀ x, sgD l x = x from fun x => by unfold sgD; rw [if_neg hh]] at hT
  obtain ⟨B, hB⟩ : ∃ B, bodyD l = B := ⟨_, rfl⟩
  rw [hB] at hb hbl hd hnum hT
  have htk := takeD_len B
  have hdr := dropD_len B
  have HS := Lib.hid hs; have HD := Lib.hid hd; have HH := Lib.hid hh; have HB := Lib.hid hb; have HLL := Lib.hid hll; have HTL := Lib.hid htl; have HBL := Lib.hid hbl; have HTK := Lib.hid htk; have HDR := Lib.hid hdr
  obtain ⟨w1, w2⟩ := hw
  obtain ⟨s1, s2⟩ := hs
  have HN := Lib.hid hnum
  clear hnum
  have HT := Lib.hid hT; have HIT := Lib.hid hit
  clear hT hit
  have hlg : decide (30 < t.size) = false := by simp only [decide_eq_false_iff_not]; omega
  have hlg' : decide (30 < (t.size : Int)) = false := by simp only [decide_eq_false_iff_not]; omega
  clear hd hh hb hll htl hbl htk hdr hB
  go_enter Tryz.func6, Tryz.ntmps6
  go_wp2_with fail
  refine (isScale_yes _ _ HS.out).mono ?_; rintro e w' ⟨rfl, rfl⟩
  go_wp2_with fail
  refine (isWay_yes _ _ ⟨by omega, by omega⟩).mono ?_; rintro e w' ⟨rfl, rfl⟩
  go_wp2_with fail
  refine (cutPrefix_no t _ (by rw [HLL.out]; exact HH.out)).mono ?_; rintro e w' ⟨rfl, rfl⟩
  have HR : Hid (t.data.toList = B) := Lib.hid (by rw [HLL.out]; exact HB.out.symm)
  go_wp2_with fail
  have hdd : dropD t.data.toList = [] := by rw [HR.out]; exact HD.out
  have htd : takeD B = B := by have := split_dot B; rw [HD.out, List.append_nil] at this; exact this
  have HDD := Lib.hid hdd; have HTD := Lib.hid htd
  clear hdd htd
  refine (cutDot_no t _ HDD.out).mono ?_; rintro e w3 ⟨rfl, rfl⟩
  have HX : Hid (t.data.toList = takeD B) := Lib.hid (by rw [HR.out]; exact HTD.out.symm)
  have HQ : Hid (∃ q, w = w.drewN q) := Lib.hid ⟨0, rfl⟩
  have hxs : t.size ≤ 1000000 := by rw [size_list t _ HX.out]; have := HTK.out; have := HBL.out; have := HTL.out; omega
  go_wp2_with fail
  refine (isNumber_any t _ True hxs ⟨fun _ => by rw [HX.out]; exact HN.out, fun _ => trivial⟩).mono ?_; rintro e w4 ⟨rfl, hq4⟩
  have HQ4 : Hid (∃ q, w4 = w.drewN q) := Lib.hid (by obtain ⟨q, rfl⟩ := hq4; exact drewN_ex HQ.out q)
  clear hq4
  go_wp2_with fail
  have HQ5 := HQ4
  have hdx : DigB t.data.toList := by rw [HX.out]; exact ((allDig_iff _).1 HN.out.1).1
  have HDX := Lib.hid hdx
  clear hdx
  obtain ⟨NX, hNX⟩ : ∃ x, numV t.data.toList = x := ⟨_, rfl⟩
  have hnb := numV_bd t.data.toList
  rw [hNX] at hnb
  obtain ⟨nx0, nx1⟩ := hnb
  have HNX := Lib.hid hNX
  clear hNX
  refine (number_any t _ hxs HDX.out).mono ?_; rintro e w6 ⟨rfl, rfl⟩
  rw [HNX.out]
  go_wp2_with fail
  refine (signed_no _ _).mono ?_; rintro e w' ⟨rfl, rfl⟩
  go_wp2_with fail
  refine (portion_any _ _ _ _ _ (by omega) (by omega) (by omega) (by omega) (by omega) (by omega)).mono ?_; rintro e w7 ⟨rfl, hq7⟩
  have HQ7 : Hid (∃ q, w7 = w.drewN q) := Lib.hid (by obtain ⟨q, rfl⟩ := hq7; exact drewN_ex HQ5.out q)
  clear hq7
  have hp1 := portQ_bd (NX) s 1 way (by omega) (by omega)
  obtain ⟨P1, hP1⟩ : ∃ x, portQ (NX) s 1 way = x := ⟨_, rfl⟩
  rw [hP1] at hp1 ⊢
  obtain ⟨p10, p11⟩ := hp1
  have HP1 := Lib.hid hP1
  clear hP1
  go_wp2_with fail
  obtain ⟨NY, hNY⟩ : ∃ x : Int, numV (⟨#[]⟩ : ByteArray).data.toList = x := ⟨_, rfl⟩
  have hNY0 : NY = 0 := by rw [← hNY]; rfl
  have hyu : NY < ((10 ^ 0 : Nat) : Int) := by rw [hNY0]; decide
  have ny0 : 0 ≤ NY := by omega
  have ny1 : NY ≤ 1000000000000001 := by omega
  have HNY := Lib.hid hNY; have HYU := Lib.hid hyu
  clear hNY hyu hNY0
  refine (number_any ⟨#[]⟩ _ (by decide) (fun b h => by simp at h)).mono ?_; rintro e w8 ⟨rfl, rfl⟩
  rw [HNY.out]
  go_wp2_with fail
  refine (signed_no _ _).mono ?_; rintro e w' ⟨rfl, rfl⟩
  go_wp2_with fail
  refine (power_any 0 _ (by omega)).mono ?_; rintro e w9 ⟨rfl, rfl⟩
  obtain ⟨U, hU⟩ : ∃ U, ((10 ^ 0 : Nat) : Int) = U := ⟨_, rfl⟩
  have hub := pow9 0 (by omega)
  rw [hU] at hub ⊢
  obtain ⟨ub0, ub1⟩ := hub
  have HU := Lib.hid hU
  clear hU
  go_wp2_with fail
  refine (portion_any _ _ _ _ _ (by omega) (by omega) (by omega) (by omega) (by omega) (by omega)).mono ?_; rintro e w10 ⟨rfl, hq10⟩
  have HQ10 : Hid (∃ q, w10 = w.drewN q) := Lib.hid (by obtain ⟨q, rfl⟩ := hq10; exact drewN_ex HQ7.out q)
  clear hq10
  have hlt : ((NY).natAbs : Int) < U := by have := HYU.out; have := HU.out; omega
  have hp2 := part2_bd (NY) s U way hlt (by omega) (by omega)
  obtain ⟨P2, hP2⟩ : ∃ x, portQ (NY) s U way = x := ⟨_, rfl⟩
  rw [hP2] at hp2 ⊢
  obtain ⟨p20, p21⟩ := hp2
  have hsum : P1 + P2 = T := by
    rw [← HT.out, ← HP1.out, ← hP2, ← HNX.out, ← HNY.out, ← HU.out, HX.out, HD.out]; rfl
  have hwr : IntKind.i64.wrap (P1 + P2) = T := by rw [hsum]; rw [← hsum]; exact IntWalk.i64_in _ ⟨by omega, by omega⟩
  have HIT2 := HIT
  clear hP2 hsum hlt
  go_wp2_with fail
  refine (isTime_yes _ _ HIT.out).mono ?_; rintro e w11 ⟨rfl, rfl⟩
  go_wp2_with fail
  go_ret2
  exact ⟨rfl, HQ10.out⟩

set_option maxRecDepth 100000 in
set_option maxHeartbeats 4000000 in
theorem rdec_00R (t : ByteArray) (s way : Int) (w : World) (hsz : t.size ≤ 9223372036854775807) (hs : isScaleN s) (hw : 1 ≤ way ∧ way ≤ 3) (hh : t.data.toList.head? ≠ some 45) (hd : dropD (bodyD t.data.toList) = []) (hlong : t.size ≤ 30) (hnum : NumOk (takeD (bodyD t.data.toList))) (T : Int) (hT : decQ t.data.toList s way = T) (hit : ¬ isTimeN T) :
    Calls Tryz.prog 6 #[.string t, .int .i64 s, .int .i64 way] w fun e w' => e = .returned (.tuple #[.int .i64 0, .int .i64 1]) ∧ ∃ q, w' = w.drewN q := by
  obtain ⟨l, hll⟩ : ∃ l, t.data.toList = l := ⟨_, rfl⟩
  have htl := size_list t l hll
  rw [hll] at hh hd hnum hT
  have hbl := bodyD_len l
  unfold decQ at hT
  have hb : bodyD l = l := by unfold bodyD; rw [if_neg hh]
  rw [show ∀ x, sgD l x = x from fun x => by unfold sgD; rw [if_neg hh], show ∀ x, sgD l x = x from fun x => by unfold sgD; rw [if_neg hh]] at hT
  obtain ⟨B, hB⟩ : ∃ B, bodyD l = B := ⟨_, rfl⟩
  rw [hB] at hb hbl hd hnum hT
  have htk := takeD_len B
  have hdr := dropD_len B
  have HS := Lib.hid hs; have HD := Lib.hid hd; have HH := Lib.hid hh; have HB := Lib.hid hb; have HLL := Lib.hid hll; have HTL := Lib.hid htl; have HBL := Lib.hid hbl; have HTK := Lib.hid htk; have HDR := Lib.hid hdr
  obtain ⟨w1, w2⟩ := hw
  obtain ⟨s1, s2⟩ := hs
  have HN := Lib.hid hnum
  clear hnum
  have HT := Lib.hid hT; have HIT := Lib.hid hit
  clear hT hit
  have hlg : decide (30 < t.size) = false := by simp only [decide_eq_false_iff_not]; omega
  have hlg' : decide (30 < (t.size : Int)) = false := by simp only [decide_eq_false_iff_not]; omega
  clear hd hh hb hll htl hbl htk hdr hB
  go_enter Tryz.func6, Tryz.ntmps6
  go_wp2_with fail
  refine (isScale_yes _ _ HS.out).mono ?_; rintro e w' ⟨rfl, rfl⟩
  go_wp2_with fail
  refine (isWay_yes _ _ ⟨by omega, by omega⟩).mono ?_; rintro e w' ⟨rfl, rfl⟩
  go_wp2_with fail
  refine (cutPrefix_no t _ (by rw [HLL.out]; exact HH.out)).mono ?_; rintro e w' ⟨rfl, rfl⟩
  have HR : Hid (t.data.toList = B) := Lib.hid (by rw [HLL.out]; exact HB.out.symm)
  go_wp2_with fail
  have hdd : dropD t.data.toList = [] := by rw [HR.out]; exact HD.out
  have htd : takeD B = B := by have := split_dot B; rw [HD.out, List.append_nil] at this; exact this
  have HDD := Lib.hid hdd; have HTD := Lib.hid htd
  clear hdd htd
  refine (cutDot_no t _ HDD.out).mono ?_; rintro e w3 ⟨rfl, rfl⟩
  have HX : Hid (t.data.toList = takeD B) := Lib.hid (by rw [HR.out]; exact HTD.out.symm)
  have HQ : Hid (∃ q, w = w.drewN q) := Lib.hid ⟨0, rfl⟩
  have hxs : t.size ≤ 1000000 := by rw [size_list t _ HX.out]; have := HTK.out; have := HBL.out; have := HTL.out; omega
  go_wp2_with fail
  refine (isNumber_any t _ True hxs ⟨fun _ => by rw [HX.out]; exact HN.out, fun _ => trivial⟩).mono ?_; rintro e w4 ⟨rfl, hq4⟩
  have HQ4 : Hid (∃ q, w4 = w.drewN q) := Lib.hid (by obtain ⟨q, rfl⟩ := hq4; exact drewN_ex HQ.out q)
  clear hq4
  go_wp2_with fail
  have HQ5 := HQ4
  have hdx : DigB t.data.toList := by rw [HX.out]; exact ((allDig_iff _).1 HN.out.1).1
  have HDX := Lib.hid hdx
  clear hdx
  obtain ⟨NX, hNX⟩ : ∃ x, numV t.data.toList = x := ⟨_, rfl⟩
  have hnb := numV_bd t.data.toList
  rw [hNX] at hnb
  obtain ⟨nx0, nx1⟩ := hnb
  have HNX := Lib.hid hNX
  clear hNX
  refine (number_any t _ hxs HDX.out).mono ?_; rintro e w6 ⟨rfl, rfl⟩
  rw [HNX.out]
  go_wp2_with fail
  refine (signed_no _ _).mono ?_; rintro e w' ⟨rfl, rfl⟩
  go_wp2_with fail
  refine (portion_any _ _ _ _ _ (by omega) (by omega) (by omega) (by omega) (by omega) (by omega)).mono ?_; rintro e w7 ⟨rfl, hq7⟩
  have HQ7 : Hid (∃ q, w7 = w.drewN q) := Lib.hid (by obtain ⟨q, rfl⟩ := hq7; exact drewN_ex HQ5.out q)
  clear hq7
  have hp1 := portQ_bd (NX) s 1 way (by omega) (by omega)
  obtain ⟨P1, hP1⟩ : ∃ x, portQ (NX) s 1 way = x := ⟨_, rfl⟩
  rw [hP1] at hp1 ⊢
  obtain ⟨p10, p11⟩ := hp1
  have HP1 := Lib.hid hP1
  clear hP1
  go_wp2_with fail
  obtain ⟨NY, hNY⟩ : ∃ x : Int, numV (⟨#[]⟩ : ByteArray).data.toList = x := ⟨_, rfl⟩
  have hNY0 : NY = 0 := by rw [← hNY]; rfl
  have hyu : NY < ((10 ^ 0 : Nat) : Int) := by rw [hNY0]; decide
  have ny0 : 0 ≤ NY := by omega
  have ny1 : NY ≤ 1000000000000001 := by omega
  have HNY := Lib.hid hNY; have HYU := Lib.hid hyu
  clear hNY hyu hNY0
  refine (number_any ⟨#[]⟩ _ (by decide) (fun b h => by simp at h)).mono ?_; rintro e w8 ⟨rfl, rfl⟩
  rw [HNY.out]
  go_wp2_with fail
  refine (signed_no _ _).mono ?_; rintro e w' ⟨rfl, rfl⟩
  go_wp2_with fail
  refine (power_any 0 _ (by omega)).mono ?_; rintro e w9 ⟨rfl, rfl⟩
  obtain ⟨U, hU⟩ : ∃ U, ((10 ^ 0 : Nat) : Int) = U := ⟨_, rfl⟩
  have hub := pow9 0 (by omega)
  rw [hU] at hub ⊢
  obtain ⟨ub0, ub1⟩ := hub
  have HU := Lib.hid hU
  clear hU
  go_wp2_with fail
  refine (portion_any _ _ _ _ _ (by omega) (by omega) (by omega) (by omega) (by omega) (by omega)).mono ?_; rintro e w10 ⟨rfl, hq10⟩
  have HQ10 : Hid (∃ q, w10 = w.drewN q) := Lib.hid (by obtain ⟨q, rfl⟩ := hq10; exact drewN_ex HQ7.out q)
  clear hq10
  have hlt : ((NY).natAbs : Int) < U := by have := HYU.out; have := HU.out; omega
  have hp2 := part2_bd (NY) s U way hlt (by omega) (by omega)
  obtain ⟨P2, hP2⟩ : ∃ x, portQ (NY) s U way = x := ⟨_, rfl⟩
  rw [hP2] at hp2 ⊢
  obtain ⟨p20, p21⟩ := hp2
  have hsum : P1 + P2 = T := by
    rw [← HT.out, ← HP1.out, ← hP2, ← HNX.out, ← HNY.out, ← HU.out, HX.out, HD.out]; rfl
  have hwr : IntKind.i64.wrap (P1 + P2) = T := by rw [hsum]; rw [← hsum]; exact IntWalk.i64_in _ ⟨by omega, by omega⟩
  have HIT2 := HIT
  clear hP2 hsum hlt
  go_wp2_with fail
  refine (isTime_no _ _ HIT.out).mono ?_; rintro e w11 ⟨rfl, rfl⟩
  go_wp2_with fail
  go_ret2
  exact ⟨rfl, HQ10.out⟩

set_option maxRecDepth 100000 in
set_option maxHeartbeats 4000000 in
theorem rdec_01L (t : ByteArray) (s way : Int) (w : World) (hsz : t.size ≤ 9223372036854775807) (hs : isScaleN s) (hw : 1 ≤ way ∧ way ≤ 3) (hh : t.data.toList.head? ≠ some 45) (hd : dropD (bodyD t.data.toList) ≠ []) (hlong : 30 < t.size) :
    Calls Tryz.prog 6 #[.string t, .int .i64 s, .int .i64 way] w fun e w' => e = .returned (.tuple #[.int .i64 0, .int .i64 10]) ∧ ∃ q, w' = w.drewN q := by
  obtain ⟨l, hll⟩ : ∃ l, t.data.toList = l := ⟨_, rfl⟩
  have htl := size_list t l hll
  rw [hll] at hh hd
  have hbl := bodyD_len l
  have hb : bodyD l = l := by unfold bodyD; rw [if_neg hh]
  obtain ⟨B, hB⟩ : ∃ B, bodyD l = B := ⟨_, rfl⟩
  rw [hB] at hb hbl hd
  have htk := takeD_len B
  have hdr := dropD_len B
  have HS := Lib.hid hs; have HD := Lib.hid hd; have HH := Lib.hid hh; have HB := Lib.hid hb; have HLL := Lib.hid hll; have HTL := Lib.hid htl; have HBL := Lib.hid hbl; have HTK := Lib.hid htk; have HDR := Lib.hid hdr
  obtain ⟨w1, w2⟩ := hw
  obtain ⟨s1, s2⟩ := hs
  have hlg : decide (30 < t.size) = true := by simp only [decide_eq_true_eq]; omega
  have hlg' : decide (30 < (t.size : Int)) = true := by simp only [decide_eq_true_eq]; omega
  clear hd hh hb hll htl hbl htk hdr hB
  go_enter Tryz.func6, Tryz.ntmps6
  go_wp2_with fail
  refine (isScale_yes _ _ HS.out).mono ?_; rintro e w' ⟨rfl, rfl⟩
  go_wp2_with fail
  refine (isWay_yes _ _ ⟨by omega, by omega⟩).mono ?_; rintro e w' ⟨rfl, rfl⟩
  go_wp2_with fail
  refine (cutPrefix_no t _ (by rw [HLL.out]; exact HH.out)).mono ?_; rintro e w' ⟨rfl, rfl⟩
  have HR : Hid (t.data.toList = B) := Lib.hid (by rw [HLL.out]; exact HB.out.symm)
  go_wp2_with fail
  refine (cutDot_yes t B _ HR.out HD.out hsz).mono ?_; rintro e w3 ⟨⟨X, Y, rfl, hX, hY⟩, q3, hw3⟩
  have HX := Lib.hid hX; have HY := Lib.hid hY
  have HQ : Hid (∃ q, w3 = w.drewN q) := Lib.hid ⟨q3, hw3⟩
  clear hX hY hw3
  go_wp2_with fail
  go_ret2
  exact ⟨rfl, HQ.out⟩

set_option maxRecDepth 100000 in
set_option maxHeartbeats 4000000 in
theorem rdec_01N (t : ByteArray) (s way : Int) (w : World) (hsz : t.size ≤ 9223372036854775807) (hs : isScaleN s) (hw : 1 ≤ way ∧ way ≤ 3) (hh : t.data.toList.head? ≠ some 45) (hd : dropD (bodyD t.data.toList) ≠ []) (hlong : t.size ≤ 30) (hnum : ¬ NumOk (takeD (bodyD t.data.toList))) :
    Calls Tryz.prog 6 #[.string t, .int .i64 s, .int .i64 way] w fun e w' => e = .returned (.tuple #[.int .i64 0, .int .i64 10]) ∧ ∃ q, w' = w.drewN q := by
  obtain ⟨l, hll⟩ : ∃ l, t.data.toList = l := ⟨_, rfl⟩
  have htl := size_list t l hll
  rw [hll] at hh hd hnum
  have hbl := bodyD_len l
  have hb : bodyD l = l := by unfold bodyD; rw [if_neg hh]
  obtain ⟨B, hB⟩ : ∃ B, bodyD l = B := ⟨_, rfl⟩
  rw [hB] at hb hbl hd hnum
  have htk := takeD_len B
  have hdr := dropD_len B
  have HS := Lib.hid hs; have HD := Lib.hid hd; have HH := Lib.hid hh; have HB := Lib.hid hb; have HLL := Lib.hid hll; have HTL := Lib.hid htl; have HBL := Lib.hid hbl; have HTK := Lib.hid htk; have HDR := Lib.hid hdr
  obtain ⟨w1, w2⟩ := hw
  obtain ⟨s1, s2⟩ := hs
  have HN := Lib.hid hnum
  clear hnum
  have hlg : decide (30 < t.size) = false := by simp only [decide_eq_false_iff_not]; omega
  have hlg' : decide (30 < (t.size : Int)) = false := by simp only [decide_eq_false_iff_not]; omega
  clear hd hh hb hll htl hbl htk hdr hB
  go_enter Tryz.func6, Tryz.ntmps6
  go_wp2_with fail
  refine (isScale_yes _ _ HS.out).mono ?_; rintro e w' ⟨rfl, rfl⟩
  go_wp2_with fail
  refine (isWay_yes _ _ ⟨by omega, by omega⟩).mono ?_; rintro e w' ⟨rfl, rfl⟩
  go_wp2_with fail
  refine (cutPrefix_no t _ (by rw [HLL.out]; exact HH.out)).mono ?_; rintro e w' ⟨rfl, rfl⟩
  have HR : Hid (t.data.toList = B) := Lib.hid (by rw [HLL.out]; exact HB.out.symm)
  go_wp2_with fail
  refine (cutDot_yes t B _ HR.out HD.out hsz).mono ?_; rintro e w3 ⟨⟨X, Y, rfl, hX, hY⟩, q3, hw3⟩
  have HX := Lib.hid hX; have HY := Lib.hid hY
  have HQ : Hid (∃ q, w3 = w.drewN q) := Lib.hid ⟨q3, hw3⟩
  clear hX hY hw3
  have hxs : X.size ≤ 1000000 := by rw [size_list X _ HX.out]; have := HTK.out; have := HBL.out; have := HTL.out; omega
  go_wp2_with fail
  refine (isNumber_any X _ False hxs ⟨False.elim, fun hx => HN.out (by rw [← HX.out]; exact hx)⟩).mono ?_; rintro e w4 ⟨rfl, hq4⟩
  have HQ4 : Hid (∃ q, w4 = w.drewN q) := Lib.hid (by obtain ⟨q, rfl⟩ := hq4; exact drewN_ex HQ.out q)
  clear hq4
  go_wp2_with fail
  go_ret2
  exact ⟨rfl, HQ4.out⟩

set_option maxRecDepth 100000 in
set_option maxHeartbeats 4000000 in
theorem rdec_01P (t : ByteArray) (s way : Int) (w : World) (hsz : t.size ≤ 9223372036854775807) (hs : isScaleN s) (hw : 1 ≤ way ∧ way ≤ 3) (hh : t.data.toList.head? ≠ some 45) (hd : dropD (bodyD t.data.toList) ≠ []) (hlong : t.size ≤ 30) (hnum : NumOk (takeD (bodyD t.data.toList))) (hpart : ¬ (allDig (dropD (bodyD t.data.toList)).tail = true ∧ (dropD (bodyD t.data.toList)).tail.length ≤ 9)) :
    Calls Tryz.prog 6 #[.string t, .int .i64 s, .int .i64 way] w fun e w' => e = .returned (.tuple #[.int .i64 0, .int .i64 10]) ∧ ∃ q, w' = w.drewN q := by
  obtain ⟨l, hll⟩ : ∃ l, t.data.toList = l := ⟨_, rfl⟩
  have htl := size_list t l hll
  rw [hll] at hh hd hnum hpart
  have hbl := bodyD_len l
  have hb : bodyD l = l := by unfold bodyD; rw [if_neg hh]
  obtain ⟨B, hB⟩ : ∃ B, bodyD l = B := ⟨_, rfl⟩
  rw [hB] at hb hbl hd hnum hpart
  have htk := takeD_len B
  have hdr := dropD_len B
  have HS := Lib.hid hs; have HD := Lib.hid hd; have HH := Lib.hid hh; have HB := Lib.hid hb; have HLL := Lib.hid hll; have HTL := Lib.hid htl; have HBL := Lib.hid hbl; have HTK := Lib.hid htk; have HDR := Lib.hid hdr
  obtain ⟨w1, w2⟩ := hw
  obtain ⟨s1, s2⟩ := hs
  have HN := Lib.hid hnum
  clear hnum
  have HP := Lib.hid hpart
  clear hpart
  have hlg : decide (30 < t.size) = false := by simp only [decide_eq_false_iff_not]; omega
  have hlg' : decide (30 < (t.size : Int)) = false := by simp only [decide_eq_false_iff_not]; omega
  clear hd hh hb hll htl hbl htk hdr hB
  go_enter Tryz.func6, Tryz.ntmps6
  go_wp2_with fail
  refine (isScale_yes _ _ HS.out).mono ?_; rintro e w' ⟨rfl, rfl⟩
  go_wp2_with fail
  refine (isWay_yes _ _ ⟨by omega, by omega⟩).mono ?_; rintro e w' ⟨rfl, rfl⟩
  go_wp2_with fail
  refine (cutPrefix_no t _ (by rw [HLL.out]; exact HH.out)).mono ?_; rintro e w' ⟨rfl, rfl⟩
  have HR : Hid (t.data.toList = B) := Lib.hid (by rw [HLL.out]; exact HB.out.symm)
  go_wp2_with fail
  refine (cutDot_yes t B _ HR.out HD.out hsz).mono ?_; rintro e w3 ⟨⟨X, Y, rfl, hX, hY⟩, q3, hw3⟩
  have HX := Lib.hid hX; have HY := Lib.hid hY
  have HQ : Hid (∃ q, w3 = w.drewN q) := Lib.hid ⟨q3, hw3⟩
  clear hX hY hw3
  have hxs : X.size ≤ 1000000 := by rw [size_list X _ HX.out]; have := HTK.out; have := HBL.out; have := HTL.out; omega
  go_wp2_with fail
  refine (isNumber_any X _ True hxs ⟨fun _ => by rw [HX.out]; exact HN.out, fun _ => trivial⟩).mono ?_; rintro e w4 ⟨rfl, hq4⟩
  have HQ4 : Hid (∃ q, w4 = w.drewN q) := Lib.hid (by obtain ⟨q, rfl⟩ := hq4; exact drewN_ex HQ.out q)
  clear hq4
  have hys : Y.size ≤ 1000000 := by rw [size_list Y _ HY.out, List.length_tail]; have := HDR.out; have := HBL.out; have := HTL.out; omega
  go_wp2_with fail
  refine (isPart_any Y _ False hys ⟨False.elim, fun hx => HP.out (by rw [← HY.out]; exact hx)⟩).mono ?_; rintro e w5 ⟨rfl, hq5⟩
  have HQ5 : Hid (∃ q, w5 = w.drewN q) := Lib.hid (by obtain ⟨q, rfl⟩ := hq5; exact drewN_ex HQ4.out q)
  clear hq5
  go_wp2_with fail
  go_ret2
  exact ⟨rfl, HQ5.out⟩

set_option maxRecDepth 100000 in
set_option maxHeartbeats 4000000 in
theorem rdec_01T (t : ByteArray) (s way : Int) (w : World) (hsz : t.size ≤ 9223372036854775807) (hs : isScaleN s) (hw : 1 ≤ way ∧ way ≤ 3) (hh : t.data.toList.head? ≠ some 45) (hd : dropD (bodyD t.data.toList) ≠ []) (hlong : t.size ≤ 30) (hnum : NumOk (takeD (bodyD t.data.toList))) (hpart : allDig (dropD (bodyD t.data.toList)).tail = true ∧ (dropD (bodyD t.data.toList)).tail.length ≤ 9) (T : Int) (hT : decQ t.data.toList s way = T) (hit : isTimeN T) :
    Calls Tryz.prog 6 #[.string t, .int .i64 s, .int .i64 way] w fun e w' => e = .returned (.tuple #[.int .i64 T, .int .i64 0]) ∧ ∃ q, w' = w.drewN q := by
  obtain ⟨l, hll⟩ : ∃ l, t.data.toList = l := ⟨_, rfl⟩
  have htl := size_list t l hll
  rw [hll] at hh hd hnum hpart hT
  have hbl := bodyD_len l
  unfold decQ at hT
  have hb : bodyD l = l := by unfold bodyD; rw [if_neg hh]
  rw [show ∀ x, sgD l x = x from fun x => by unfold sgD; rw [if_neg hh], show ∀ x, sgD l x = x from fun x => by unfold sgD; rw [if_neg hh]] at hT
  obtain ⟨B, hB⟩ : ∃ B, bodyD l = B := ⟨_, rfl⟩
  rw [hB] at hb hbl hd hnum hpart hT
  have htk := takeD_len B
  have hdr := dropD_len B
  have HS := Lib.hid hs; have HD := Lib.hid hd; have HH := Lib.hid hh; have HB := Lib.hid hb; have HLL := Lib.hid hll; have HTL := Lib.hid htl; have HBL := Lib.hid hbl; have HTK := Lib.hid htk; have HDR := Lib.hid hdr
  obtain ⟨w1, w2⟩ := hw
  obtain ⟨s1, s2⟩ := hs
  have HN := Lib.hid hnum
  clear hnum
  have HP := Lib.hid hpart
  clear hpart
  have HT := Lib.hid hT; have HIT := Lib.hid hit
  clear hT hit
  have hlg : decide (30 < t.size) = false := by simp only [decide_eq_false_iff_not]; omega
  have hlg' : decide (30 < (t.size : Int)) = false := by simp only [decide_eq_false_iff_not]; omega
  clear hd hh hb hll htl hbl htk hdr hB
  go_enter Tryz.func6, Tryz.ntmps6
  go_wp2_with fail
  refine (isScale_yes _ _ HS.out).mono ?_; rintro e w' ⟨rfl, rfl⟩
  go_wp2_with fail
  refine (isWay_yes _ _ ⟨by omega, by omega⟩).mono ?_; rintro e w' ⟨rfl, rfl⟩
  go_wp2_with fail
  refine (cutPrefix_no t _ (by rw [HLL.out]; exact HH.out)).mono ?_; rintro e w' ⟨rfl, rfl⟩
  have HR : Hid (t.data.toList = B) := Lib.hid (by rw [HLL.out]; exact HB.out.symm)
  go_wp2_with fail
  refine (cutDot_yes t B _ HR.out HD.out hsz).mono ?_; rintro e w3 ⟨⟨X, Y, rfl, hX, hY⟩, q3, hw3⟩
  have HX := Lib.hid hX; have HY := Lib.hid hY
  have HQ : Hid (∃ q, w3 = w.drewN q) := Lib.hid ⟨q3, hw3⟩
  clear hX hY hw3
  have hxs : X.size ≤ 1000000 := by rw [size_list X _ HX.out]; have := HTK.out; have := HBL.out; have := HTL.out; omega
  go_wp2_with fail
  refine (isNumber_any X _ True hxs ⟨fun _ => by rw [HX.out]; exact HN.out, fun _ => trivial⟩).mono ?_; rintro e w4 ⟨rfl, hq4⟩
  have HQ4 : Hid (∃ q, w4 = w.drewN q) := Lib.hid (by obtain ⟨q, rfl⟩ := hq4; exact drewN_ex HQ.out q)
  clear hq4
  have hys : Y.size ≤ 1000000 := by rw [size_list Y _ HY.out, List.length_tail]; have := HDR.out; have := HBL.out; have := HTL.out; omega
  go_wp2_with fail
  refine (isPart_any Y _ True hys ⟨fun _ => by rw [HY.out]; exact HP.out, fun _ => trivial⟩).mono ?_; rintro e w5 ⟨rfl, hq5⟩
  have HQ5 : Hid (∃ q, w5 = w.drewN q) := Lib.hid (by obtain ⟨q, rfl⟩ := hq5; exact drewN_ex HQ4.out q)
  clear hq5
  go_wp2_with fail
  have hdx : DigB X.data.toList := by rw [HX.out]; exact ((allDig_iff _).1 HN.out.1).1
  have HDX := Lib.hid hdx
  clear hdx
  obtain ⟨NX, hNX⟩ : ∃ x, numV X.data.toList = x := ⟨_, rfl⟩
  have hnb := numV_bd X.data.toList
  rw [hNX] at hnb
  obtain ⟨nx0, nx1⟩ := hnb
  have HNX := Lib.hid hNX
  clear hNX
  refine (number_any X _ hxs HDX.out).mono ?_; rintro e w6 ⟨rfl, rfl⟩
  rw [HNX.out]
  go_wp2_with fail
  refine (signed_no _ _).mono ?_; rintro e w' ⟨rfl, rfl⟩
  go_wp2_with fail
  refine (portion_any _ _ _ _ _ (by omega) (by omega) (by omega) (by omega) (by omega) (by omega)).mono ?_; rintro e w7 ⟨rfl, hq7⟩
  have HQ7 : Hid (∃ q, w7 = w.drewN q) := Lib.hid (by obtain ⟨q, rfl⟩ := hq7; exact drewN_ex HQ5.out q)
  clear hq7
  have hp1 := portQ_bd (NX) s 1 way (by omega) (by omega)
  obtain ⟨P1, hP1⟩ : ∃ x, portQ (NX) s 1 way = x := ⟨_, rfl⟩
  rw [hP1] at hp1 ⊢
  obtain ⟨p10, p11⟩ := hp1
  have HP1 := Lib.hid hP1
  clear hP1
  go_wp2_with fail
  have hdy : DigB Y.data.toList := by rw [HY.out]; exact ((allDig_iff _).1 HP.out.1).1
  have hY9 : Y.size ≤ 9 := by rw [size_list Y _ HY.out]; exact HP.out.2
  have hyu : numV Y.data.toList < ((10 ^ Y.size : Nat) : Int) := by
    have h1 := dvalB_lt _ hdy
    rw [← size_list Y _ rfl] at h1
    unfold numV; omega
  have HDY := Lib.hid hdy
  obtain ⟨NY, hNY⟩ : ∃ x, numV Y.data.toList = x := ⟨_, rfl⟩
  have hnb2 := numV_bd Y.data.toList
  rw [hNY] at hnb2 hyu
  obtain ⟨ny0, ny1⟩ := hnb2
  have HNY := Lib.hid hNY; have HYU := Lib.hid hyu
  clear hdy hNY hyu
  refine (number_any Y _ hys HDY.out).mono ?_; rintro e w8 ⟨rfl, rfl⟩
  rw [HNY.out]
  go_wp2_with fail
  refine (signed_no _ _).mono ?_; rintro e w' ⟨rfl, rfl⟩
  go_wp2_with fail
  refine (power_any Y.size _ hY9).mono ?_; rintro e w9 ⟨rfl, rfl⟩
  obtain ⟨U, hU⟩ : ∃ U, ((10 ^ Y.size : Nat) : Int) = U := ⟨_, rfl⟩
  have hub := pow9 Y.size hY9
  rw [hU] at hub ⊢
  obtain ⟨ub0, ub1⟩ := hub
  have HU := Lib.hid hU
  clear hU
  go_wp2_with fail
  refine (portion_any _ _ _ _ _ (by omega) (by omega) (by omega) (by omega) (by omega) (by omega)).mono ?_; rintro e w10 ⟨rfl, hq10⟩
  have HQ10 : Hid (∃ q, w10 = w.drewN q) := Lib.hid (by obtain ⟨q, rfl⟩ := hq10; exact drewN_ex HQ7.out q)
  clear hq10
  have hlt : ((NY).natAbs : Int) < U := by have := HYU.out; have := HU.out; omega
  have hp2 := part2_bd (NY) s U way hlt (by omega) (by omega)
  obtain ⟨P2, hP2⟩ : ∃ x, portQ (NY) s U way = x := ⟨_, rfl⟩
  rw [hP2] at hp2 ⊢
  obtain ⟨p20, p21⟩ := hp2
  have hsum : P1 + P2 = T := by
    rw [← HT.out, ← HP1.out, ← hP2, ← HNX.out, ← HNY.out, ← HU.out, HX.out, HY.out, size_list Y _ rfl, HY.out]
  have hwr : IntKind.i64.wrap (P1 + P2) = T := by rw [hsum]; rw [← hsum]; exact IntWalk.i64_in _ ⟨by omega, by omega⟩
  have HIT2 := HIT
  clear hP2 hsum hlt
  go_wp2_with fail
  refine (isTime_yes _ _ HIT.out).mono ?_; rintro e w11 ⟨rfl, rfl⟩
  go_wp2_with fail
  go_ret2
  exact ⟨rfl, HQ10.out⟩

set_option maxRecDepth 100000 in
set_option maxHeartbeats 4000000 in
theorem rdec_01R (t : ByteArray) (s way : Int) (w : World) (hsz : t.size ≤ 9223372036854775807) (hs : isScaleN s) (hw : 1 ≤ way ∧ way ≤ 3) (hh : t.data.toList.head? ≠ some 45) (hd : dropD (bodyD t.data.toList) ≠ []) (hlong : t.size ≤ 30) (hnum : NumOk (takeD (bodyD t.data.toList))) (hpart : allDig (dropD (bodyD t.data.toList)).tail = true ∧ (dropD (bodyD t.data.toList)).tail.length ≤ 9) (T : Int) (hT : decQ t.data.toList s way = T) (hit : ¬ isTimeN T) :
    Calls Tryz.prog 6 #[.string t, .int .i64 s, .int .i64 way] w fun e w' => e = .returned (.tuple #[.int .i64 0, .int .i64 1]) ∧ ∃ q, w' = w.drewN q := by
  obtain ⟨l, hll⟩ : ∃ l, t.data.toList = l := ⟨_, rfl⟩
  have htl := size_list t l hll
  rw [hll] at hh hd hnum hpart hT
  have hbl := bodyD_len l
  unfold decQ at hT
  have hb : bodyD l = l := by unfold bodyD; rw [if_neg hh]
  rw [show ∀ x, sgD l x = x from fun x => by unfold sgD; rw [if_neg hh], show ∀ x, sgD l x = x from fun x => by unfold sgD; rw [if_neg hh]] at hT
  obtain ⟨B, hB⟩ : ∃ B, bodyD l = B := ⟨_, rfl⟩
  rw [hB] at hb hbl hd hnum hpart hT
  have htk := takeD_len B
  have hdr := dropD_len B
  have HS := Lib.hid hs; have HD := Lib.hid hd; have HH := Lib.hid hh; have HB := Lib.hid hb; have HLL := Lib.hid hll; have HTL := Lib.hid htl; have HBL := Lib.hid hbl; have HTK := Lib.hid htk; have HDR := Lib.hid hdr
  obtain ⟨w1, w2⟩ := hw
  obtain ⟨s1, s2⟩ := hs
  have HN := Lib.hid hnum
  clear hnum
  have HP := Lib.hid hpart
  clear hpart
  have HT := Lib.hid hT; have HIT := Lib.hid hit
  clear hT hit
  have hlg : decide (30 < t.size) = false := by simp only [decide_eq_false_iff_not]; omega
  have hlg' : decide (30 < (t.size : Int)) = false := by simp only [decide_eq_false_iff_not]; omega
  clear hd hh hb hll htl hbl htk hdr hB
  go_enter Tryz.func6, Tryz.ntmps6
  go_wp2_with fail
  refine (isScale_yes _ _ HS.out).mono ?_; rintro e w' ⟨rfl, rfl⟩
  go_wp2_with fail
  refine (isWay_yes _ _ ⟨by omega, by omega⟩).mono ?_; rintro e w' ⟨rfl, rfl⟩
  go_wp2_with fail
  refine (cutPrefix_no t _ (by rw [HLL.out]; exact HH.out)).mono ?_; rintro e w' ⟨rfl, rfl⟩
  have HR : Hid (t.data.toList = B) := Lib.hid (by rw [HLL.out]; exact HB.out.symm)
  go_wp2_with fail
  refine (cutDot_yes t B _ HR.out HD.out hsz).mono ?_; rintro e w3 ⟨⟨X, Y, rfl, hX, hY⟩, q3, hw3⟩
  have HX := Lib.hid hX; have HY := Lib.hid hY
  have HQ : Hid (∃ q, w3 = w.drewN q) := Lib.hid ⟨q3, hw3⟩
  clear hX hY hw3
  have hxs : X.size ≤ 1000000 := by rw [size_list X _ HX.out]; have := HTK.out; have := HBL.out; have := HTL.out; omega
  go_wp2_with fail
  refine (isNumber_any X _ True hxs ⟨fun _ => by rw [HX.out]; exact HN.out, fun _ => trivial⟩).mono ?_; rintro e w4 ⟨rfl, hq4⟩
  have HQ4 : Hid (∃ q, w4 = w.drewN q) := Lib.hid (by obtain ⟨q, rfl⟩ := hq4; exact drewN_ex HQ.out q)
  clear hq4
  have hys : Y.size ≤ 1000000 := by rw [size_list Y _ HY.out, List.length_tail]; have := HDR.out; have := HBL.out; have := HTL.out; omega
  go_wp2_with fail
  refine (isPart_any Y _ True hys ⟨fun _ => by rw [HY.out]; exact HP.out, fun _ => trivial⟩).mono ?_; rintro e w5 ⟨rfl, hq5⟩
  have HQ5 : Hid (∃ q, w5 = w.drewN q) := Lib.hid (by obtain ⟨q, rfl⟩ := hq5; exact drewN_ex HQ4.out q)
  clear hq5
  go_wp2_with fail
  have hdx : DigB X.data.toList := by rw [HX.out]; exact ((allDig_iff _).1 HN.out.1).1
  have HDX := Lib.hid hdx
  clear hdx
  obtain ⟨NX, hNX⟩ : ∃ x, numV X.data.toList = x := ⟨_, rfl⟩
  have hnb := numV_bd X.data.toList
  rw [hNX] at hnb
  obtain ⟨nx0, nx1⟩ := hnb
  have HNX := Lib.hid hNX
  clear hNX
  refine (number_any X _ hxs HDX.out).mono ?_; rintro e w6 ⟨rfl, rfl⟩
  rw [HNX.out]
  go_wp2_with fail
  refine (signed_no _ _).mono ?_; rintro e w' ⟨rfl, rfl⟩
  go_wp2_with fail
  refine (portion_any _ _ _ _ _ (by omega) (by omega) (by omega) (by omega) (by omega) (by omega)).mono ?_; rintro e w7 ⟨rfl, hq7⟩
  have HQ7 : Hid (∃ q, w7 = w.drewN q) := Lib.hid (by obtain ⟨q, rfl⟩ := hq7; exact drewN_ex HQ5.out q)
  clear hq7
  have hp1 := portQ_bd (NX) s 1 way (by omega) (by omega)
  obtain ⟨P1, hP1⟩ : ∃ x, portQ (NX) s 1 way = x := ⟨_, rfl⟩
  rw [hP1] at hp1 ⊢
  obtain ⟨p10, p11⟩ := hp1
  have HP1 := Lib.hid hP1
  clear hP1
  go_wp2_with fail
  have hdy : DigB Y.data.toList := by rw [HY.out]; exact ((allDig_iff _).1 HP.out.1).1
  have hY9 : Y.size ≤ 9 := by rw [size_list Y _ HY.out]; exact HP.out.2
  have hyu : numV Y.data.toList < ((10 ^ Y.size : Nat) : Int) := by
    have h1 := dvalB_lt _ hdy
    rw [← size_list Y _ rfl] at h1
    unfold numV; omega
  have HDY := Lib.hid hdy
  obtain ⟨NY, hNY⟩ : ∃ x, numV Y.data.toList = x := ⟨_, rfl⟩
  have hnb2 := numV_bd Y.data.toList
  rw [hNY] at hnb2 hyu
  obtain ⟨ny0, ny1⟩ := hnb2
  have HNY := Lib.hid hNY; have HYU := Lib.hid hyu
  clear hdy hNY hyu
  refine (number_any Y _ hys HDY.out).mono ?_; rintro e w8 ⟨rfl, rfl⟩
  rw [HNY.out]
  go_wp2_with fail
  refine (signed_no _ _).mono ?_; rintro e w' ⟨rfl, rfl⟩
  go_wp2_with fail
  refine (power_any Y.size _ hY9).mono ?_; rintro e w9 ⟨rfl, rfl⟩
  obtain ⟨U, hU⟩ : ∃ U, ((10 ^ Y.size : Nat) : Int) = U := ⟨_, rfl⟩
  have hub := pow9 Y.size hY9
  rw [hU] at hub ⊢
  obtain ⟨ub0, ub1⟩ := hub
  have HU := Lib.hid hU
  clear hU
  go_wp2_with fail
  refine (portion_any _ _ _ _ _ (by omega) (by omega) (by omega) (by omega) (by omega) (by omega)).mono ?_; rintro e w10 ⟨rfl, hq10⟩
  have HQ10 : Hid (∃ q, w10 = w.drewN q) := Lib.hid (by obtain ⟨q, rfl⟩ := hq10; exact drewN_ex HQ7.out q)
  clear hq10
  have hlt : ((NY).natAbs : Int) < U := by have := HYU.out; have := HU.out; omega
  have hp2 := part2_bd (NY) s U way hlt (by omega) (by omega)
  obtain ⟨P2, hP2⟩ : ∃ x, portQ (NY) s U way = x := ⟨_, rfl⟩
  rw [hP2] at hp2 ⊢
  obtain ⟨p20, p21⟩ := hp2
  have hsum : P1 + P2 = T := by
    rw [← HT.out, ← HP1.out, ← hP2, ← HNX.out, ← HNY.out, ← HU.out, HX.out, HY.out, size_list Y _ rfl, HY.out]
  have hwr : IntKind.i64.wrap (P1 + P2) = T := by rw [hsum]; rw [← hsum]; exact IntWalk.i64_in _ ⟨by omega, by omega⟩
  have HIT2 := HIT
  clear hP2 hsum hlt
  go_wp2_with fail
  refine (isTime_no _ _ HIT.out).mono ?_; rintro e w11 ⟨rfl, rfl⟩
  go_wp2_with fail
  go_ret2
  exact ⟨rfl, HQ10.out⟩

set_option maxRecDepth 100000 in
set_option maxHeartbeats 4000000 in
theorem rdec_10L (t : ByteArray) (s way : Int) (w : World) (hsz : t.size ≤ 9223372036854775807) (hs : isScaleN s) (hw : 1 ≤ way ∧ way ≤ 3) (hh : t.data.toList.head? = some 45) (hd : dropD (bodyD t.data.toList) = []) (hlong : 30 < t.size) :
    Calls Tryz.prog 6 #[.string t, .int .i64 s, .int .i64 way] w fun e w' => e = .returned (.tuple #[.int .i64 0, .int .i64 10]) ∧ ∃ q, w' = w.drewN q := by
  obtain ⟨l, hll⟩ : ∃ l, t.data.toList = l := ⟨_, rfl⟩
  have htl := size_list t l hll
  rw [hll] at hh hd
  have hbl := bodyD_len l
  have hb : bodyD l = l.tail := by unfold bodyD; rw [if_pos hh]
  have hcons : l = 45 :: l.tail := by
    cases l with
    | nil => simp at hh
    | cons b r => simp at hh; rw [hh]; rfl
  obtain ⟨B, hB⟩ : ∃ B, bodyD l = B := ⟨_, rfl⟩
  rw [hB] at hb hbl hd
  have htk := takeD_len B
  have hdr := dropD_len B
  have HS := Lib.hid hs; have HD := Lib.hid hd; have HH := Lib.hid hh; have HB := Lib.hid hb; have HLL := Lib.hid hll; have HTL := Lib.hid htl; have HBL := Lib.hid hbl; have HTK := Lib.hid htk; have HDR := Lib.hid hdr
  obtain ⟨w1, w2⟩ := hw
  obtain ⟨s1, s2⟩ := hs
  have HCONS := Lib.hid hcons
  clear hcons
  have hlg : decide (30 < t.size) = true := by simp only [decide_eq_true_eq]; omega
  have hlg' : decide (30 < (t.size : Int)) = true := by simp only [decide_eq_true_eq]; omega
  clear hd hh hb hll htl hbl htk hdr hB
  go_enter Tryz.func6, Tryz.ntmps6
  go_wp2_with fail
  refine (isScale_yes _ _ HS.out).mono ?_; rintro e w' ⟨rfl, rfl⟩
  go_wp2_with fail
  refine (isWay_yes _ _ ⟨by omega, by omega⟩).mono ?_; rintro e w' ⟨rfl, rfl⟩
  go_wp2_with fail
  refine (cutPrefix_yes t l.tail _ (by rw [HLL.out]; exact HCONS.out) hsz).mono ?_; rintro e w' ⟨⟨R, rfl, hR⟩, rfl⟩
  rw [← HB.out] at hR
  have HR := Lib.hid hR
  clear hR
  go_wp2_with fail
  have hrsz : R.size ≤ 9223372036854775807 := by rw [size_list R _ HR.out]; have := HBL.out; have := HTL.out; omega
  have hdd : dropD R.data.toList = [] := by rw [HR.out]; exact HD.out
  have htd : takeD B = B := by have := split_dot B; rw [HD.out, List.append_nil] at this; exact this
  have HDD := Lib.hid hdd; have HTD := Lib.hid htd
  clear hdd htd
  refine (cutDot_no R _ HDD.out).mono ?_; rintro e w3 ⟨rfl, rfl⟩
  have HX : Hid (R.data.toList = takeD B) := Lib.hid (by rw [HR.out]; exact HTD.out.symm)
  have HQ : Hid (∃ q, w = w.drewN q) := Lib.hid ⟨0, rfl⟩
  go_wp2_with fail
  go_ret2
  exact ⟨rfl, HQ.out⟩

set_option maxRecDepth 100000 in
set_option maxHeartbeats 4000000 in
theorem rdec_10N (t : ByteArray) (s way : Int) (w : World) (hsz : t.size ≤ 9223372036854775807) (hs : isScaleN s) (hw : 1 ≤ way ∧ way ≤ 3) (hh : t.data.toList.head? = some 45) (hd : dropD (bodyD t.data.toList) = []) (hlong : t.size ≤ 30) (hnum : ¬ NumOk (takeD (bodyD t.data.toList))) :
    Calls Tryz.prog 6 #[.string t, .int .i64 s, .int .i64 way] w fun e w' => e = .returned (.tuple #[.int .i64 0, .int .i64 10]) ∧ ∃ q, w' = w.drewN q := by
  obtain ⟨l, hll⟩ : ∃ l, t.data.toList = l := ⟨_, rfl⟩
  have htl := size_list t l hll
  rw [hll] at hh hd hnum
  have hbl := bodyD_len l
  have hb : bodyD l = l.tail := by unfold bodyD; rw [if_pos hh]
  have hcons : l = 45 :: l.tail := by
    cases l with
    | nil => simp at hh
    | cons b r => simp at hh; rw [hh]; rfl
  obtain ⟨B, hB⟩ : ∃ B, bodyD l = B := ⟨_, rfl⟩
  rw [hB] at hb hbl hd hnum
  have htk := takeD_len B
  have hdr := dropD_len B
  have HS := Lib.hid hs; have HD := Lib.hid hd; have HH := Lib.hid hh; have HB := Lib.hid hb; have HLL := Lib.hid hll; have HTL := Lib.hid htl; have HBL := Lib.hid hbl; have HTK := Lib.hid htk; have HDR := Lib.hid hdr
  obtain ⟨w1, w2⟩ := hw
  obtain ⟨s1, s2⟩ := hs
  have HCONS := Lib.hid hcons
  clear hcons
  have HN := Lib.hid hnum
  clear hnum
  have hlg : decide (30 < t.size) = false := by simp only [decide_eq_false_iff_not]; omega
  have hlg' : decide (30 < (t.size : Int)) = false := by simp only [decide_eq_false_iff_not]; omega
  clear hd hh hb hll htl hbl htk hdr hB
  go_enter Tryz.func6, Tryz.ntmps6
  go_wp2_with fail
  refine (isScale_yes _ _ HS.out).mono ?_; rintro e w' ⟨rfl, rfl⟩
  go_wp2_with fail
  refine (isWay_yes _ _ ⟨by omega, by omega⟩).mono ?_; rintro e w' ⟨rfl, rfl⟩
  go_wp2_with fail
  refine (cutPrefix_yes t l.tail _ (by rw [HLL.out]; exact HCONS.out) hsz).mono ?_; rintro e w' ⟨⟨R, rfl, hR⟩, rfl⟩
  rw [← HB.out] at hR
  have HR := Lib.hid hR
  clear hR
  go_wp2_with fail
  have hrsz : R.size ≤ 9223372036854775807 := by rw [size_list R _ HR.out]; have := HBL.out; have := HTL.out; omega
  have hdd : dropD R.data.toList = [] := by rw [HR.out]; exact HD.out
  have htd : takeD B = B := by have := split_dot B; rw [HD.out, List.append_nil] at this; exact this
  have HDD := Lib.hid hdd; have HTD := Lib.hid htd
  clear hdd htd
  refine (cutDot_no R _ HDD.out).mono ?_; rintro e w3 ⟨rfl, rfl⟩
  have HX : Hid (R.data.toList = takeD B) := Lib.hid (by rw [HR.out]; exact HTD.out.symm)
  have HQ : Hid (∃ q, w = w.drewN q) := Lib.hid ⟨0, rfl⟩
  have hxs : R.size ≤ 1000000 := by rw [size_list R _ HX.out]; have := HTK.out; have := HBL.out; have := HTL.out; omega
  go_wp2_with fail
  refine (isNumber_any R _ False hxs ⟨False.elim, fun hx => HN.out (by rw [← HX.out]; exact hx)⟩).mono ?_; rintro e w4 ⟨rfl, hq4⟩
  have HQ4 : Hid (∃ q, w4 = w.drewN q) := Lib.hid (by obtain ⟨q, rfl⟩ := hq4; exact drewN_ex HQ.out q)
  clear hq4
  go_wp2_with fail
  go_ret2
  exact ⟨rfl, HQ4.out⟩

set_option maxRecDepth 100000 in
set_option maxHeartbeats 4000000 in
theorem rdec_10T (t : ByteArray) (s way : Int) (w : World) (hsz : t.size ≤ 9223372036854775807) (hs : isScaleN s) (hw : 1 ≤ way ∧ way ≤ 3) (hh : t.data.toList.head? = some 45) (hd : dropD (bodyD t.data.toList) = []) (hlong : t.size ≤ 30) (hnum : NumOk (takeD (bodyD t.data.toList))) (T : Int) (hT : decQ t.data.toList s way = T) (hit : isTimeN T) :
    Calls Tryz.prog 6 #[.string t, .int .i64 s, .int .i64 way] w fun e w' => e = .returned (.tuple #[.int .i64 T, .int .i64 0]) ∧ ∃ q, w' = w.drewN q := by
  obtain ⟨l, hll⟩ : ∃ l, t.data.toList = l := ⟨_, rfl⟩
  have htl := size_list t l hll
  rw [hll] at hh hd hnum hT
  have hbl := bodyD_len l
  unfold decQ at hT
  have hb : bodyD l = l.tail := by unfold bodyD; rw [if_pos hh]
  have hcons : l = 45 :: l.tail := by
    cases l with
    | nil => simp at hh
    | cons b r => simp at hh; rw [hh]; rfl
  rw [show ∀ x, sgD l x = -x from fun x => by unfold sgD; rw [if_pos hh], show ∀ x, sgD l x = -x from fun x => by unfold sgD; rw [if_pos hh]] at hT
  obtain ⟨B, hB⟩ : ∃ B, bodyD l = B := ⟨_, rfl⟩
  rw [hB] at hb hbl hd hnum hT
  have htk := takeD_len B
  have hdr := dropD_len B
  have HS := Lib.hid hs; have HD := Lib.hid hd; have HH := Lib.hid hh; have HB := Lib.hid hb; have HLL := Lib.hid hll; have HTL := Lib.hid htl; have HBL := Lib.hid hbl; have HTK := Lib.hid htk; have HDR := Lib.hid hdr
  obtain ⟨w1, w2⟩ := hw
  obtain ⟨s1, s2⟩ := hs
  have HCONS := Lib.hid hcons
  clear hcons
  have HN := Lib.hid hnum
  clear hnum
  have HT := Lib.hid hT; have HIT := Lib.hid hit
  clear hT hit
  have hlg : decide (30 < t.size) = false := by simp only [decide_eq_false_iff_not]; omega
  have hlg' : decide (30 < (t.size : Int)) = false := by simp only [decide_eq_false_iff_not]; omega
  clear hd hh hb hll htl hbl htk hdr hB
  go_enter Tryz.func6, Tryz.ntmps6
  go_wp2_with fail
  refine (isScale_yes _ _ HS.out).mono ?_; rintro e w' ⟨rfl, rfl⟩
  go_wp2_with fail
  refine (isWay_yes _ _ ⟨by omega, by omega⟩).mono ?_; rintro e w' ⟨rfl, rfl⟩
  go_wp2_with fail
  refine (cutPrefix_yes t l.tail _ (by rw [HLL.out]; exact HCONS.out) hsz).mono ?_; rintro e w' ⟨⟨R, rfl, hR⟩, rfl⟩
  rw [← HB.out] at hR
  have HR := Lib.hid hR
  clear hR
  go_wp2_with fail
  have hrsz : R.size ≤ 9223372036854775807 := by rw [size_list R _ HR.out]; have := HBL.out; have := HTL.out; omega
  have hdd : dropD R.data.toList = [] := by rw [HR.out]; exact HD.out
  have htd : takeD B = B := by have := split_dot B; rw [HD.out, List.append_nil] at this; exact this
  have HDD := Lib.hid hdd; have HTD := Lib.hid htd
  clear hdd htd
  refine (cutDot_no R _ HDD.out).mono ?_; rintro e w3 ⟨rfl, rfl⟩
  have HX : Hid (R.data.toList = takeD B) := Lib.hid (by rw [HR.out]; exact HTD.out.symm)
  have HQ : Hid (∃ q, w = w.drewN q) := Lib.hid ⟨0, rfl⟩
  have hxs : R.size ≤ 1000000 := by rw [size_list R _ HX.out]; have := HTK.out; have := HBL.out; have := HTL.out; omega
  go_wp2_with fail
  refine (isNumber_any R _ True hxs ⟨fun _ => by rw [HX.out]; exact HN.out, fun _ => trivial⟩).mono ?_; rintro e w4 ⟨rfl, hq4⟩
  have HQ4 : Hid (∃ q, w4 = w.drewN q) := Lib.hid (by obtain ⟨q, rfl⟩ := hq4; exact drewN_ex HQ.out q)
  clear hq4
  go_wp2_with fail
  have HQ5 := HQ4
  have hdx : DigB R.data.toList := by rw [HX.out]; exact ((allDig_iff _).1 HN.out.1).1
  have HDX := Lib.hid hdx
  clear hdx
  obtain ⟨NX, hNX⟩ : ∃ x, numV R.data.toList = x := ⟨_, rfl⟩
  have hnb := numV_bd R.data.toList
  rw [hNX] at hnb
  obtain ⟨nx0, nx1⟩ := hnb
  have HNX := Lib.hid hNX
  clear hNX
  refine (number_any R _ hxs HDX.out).mono ?_; rintro e w6 ⟨rfl, rfl⟩
  rw [HNX.out]
  go_wp2_with fail
  refine (signed_yes _ _ (by omega) (by omega)).mono ?_; rintro e w' ⟨rfl, rfl⟩
  go_wp2_with fail
  refine (portion_any _ _ _ _ _ (by omega) (by omega) (by omega) (by omega) (by omega) (by omega)).mono ?_; rintro e w7 ⟨rfl, hq7⟩
  have HQ7 : Hid (∃ q, w7 = w.drewN q) := Lib.hid (by obtain ⟨q, rfl⟩ := hq7; exact drewN_ex HQ5.out q)
  clear hq7
  have hp1 := portQ_bd (-NX) s 1 way (by omega) (by omega)
  obtain ⟨P1, hP1⟩ : ∃ x, portQ (-NX) s 1 way = x := ⟨_, rfl⟩
  rw [hP1] at hp1 ⊢
  obtain ⟨p10, p11⟩ := hp1
  have HP1 := Lib.hid hP1
  clear hP1
  go_wp2_with fail
  obtain ⟨NY, hNY⟩ : ∃ x : Int, numV (⟨#[]⟩ : ByteArray).data.toList = x := ⟨_, rfl⟩
  have hNY0 : NY = 0 := by rw [← hNY]; rfl
  have hyu : NY < ((10 ^ 0 : Nat) : Int) := by rw [hNY0]; decide
  have ny0 : 0 ≤ NY := by omega
  have ny1 : NY ≤ 1000000000000001 := by omega
  have HNY := Lib.hid hNY; have HYU := Lib.hid hyu
  clear hNY hyu hNY0
  refine (number_any ⟨#[]⟩ _ (by decide) (fun b h => by simp at h)).mono ?_; rintro e w8 ⟨rfl, rfl⟩
  rw [HNY.out]
  go_wp2_with fail
  refine (signed_yes _ _ (by omega) (by omega)).mono ?_; rintro e w' ⟨rfl, rfl⟩
  go_wp2_with fail
  refine (power_any 0 _ (by omega)).mono ?_; rintro e w9 ⟨rfl, rfl⟩
  obtain ⟨U, hU⟩ : ∃ U, ((10 ^ 0 : Nat) : Int) = U := ⟨_, rfl⟩
  have hub := pow9 0 (by omega)
  rw [hU] at hub ⊢
  obtain ⟨ub0, ub1⟩ := hub
  have HU := Lib.hid hU
  clear hU
  go_wp2_with fail
  refine (portion_any _ _ _ _ _ (by omega) (by omega) (by omega) (by omega) (by omega) (by omega)).mono ?_; rintro e w10 ⟨rfl, hq10⟩
  have HQ10 : Hid (∃ q, w10 = w.drewN q) := Lib.hid (by obtain ⟨q, rfl⟩ := hq10; exact drewN_ex HQ7.out q)
  clear hq10
  have hlt : ((-NY).natAbs : Int) < U := by have := HYU.out; have := HU.out; omega
  have hp2 := part2_bd (-NY) s U way hlt (by omega) (by omega)
  obtain ⟨P2, hP2⟩ : ∃ x, portQ (-NY) s U way = x := ⟨_, rfl⟩
  rw [hP2] at hp2 ⊢
  obtain ⟨p20, p21⟩ := hp2
  have hsum : P1 + P2 = T := by
    rw [← HT.out, ← HP1.out, ← hP2, ← HNX.out, ← HNY.out, ← HU.out, HX.out, HD.out]; rfl
  have hwr : IntKind.i64.wrap (P1 + P2) = T := by rw [hsum]; rw [← hsum]; exact IntWalk.i64_in _ ⟨by omega, by omega⟩
  have HIT2 := HIT
  clear hP2 hsum hlt
  go_wp2_with fail
  refine (isTime_yes _ _ HIT.out).mono ?_; rintro e w11 ⟨rfl, rfl⟩
  go_wp2_with fail
  go_ret2
  exact ⟨rfl, HQ10.out⟩

set_option maxRecDepth 100000 in
set_option maxHeartbeats 4000000 in
theorem rdec_10R (t : ByteArray) (s way : Int) (w : World) (hsz : t.size ≤ 9223372036854775807) (hs : isScaleN s) (hw : 1 ≤ way ∧ way ≤ 3) (hh : t.data.toList.head? = some 45) (hd : dropD (bodyD t.data.toList) = []) (hlong : t.size ≤ 30) (hnum : NumOk (takeD (bodyD t.data.toList))) (T : Int) (hT : decQ t.data.toList s way = T) (hit : ¬ isTimeN T) :
    Calls Tryz.prog 6 #[.string t, .int .i64 s, .int .i64 way] w fun e w' => e = .returned (.tuple #[.int .i64 0, .int .i64 1]) ∧ ∃ q, w' = w.drewN q := by
  obtain ⟨l, hll⟩ : ∃ l, t.data.toList = l := ⟨_, rfl⟩
  have htl := size_list t l hll
  rw [hll] at hh hd hnum hT
  have hbl := bodyD_len l
  unfold decQ at hT
  have hb : bodyD l = l.tail := by unfold bodyD; rw [if_pos hh]
  have hcons : l = 45 :: l.tail := by
    cases l with
    | nil => simp at hh
    | cons b r => simp at hh; rw [hh]; rfl
  rw [show ∀ x, sgD l x = -x from fun x => by unfold sgD; rw [if_pos hh], show ∀ x, sgD l x = -x from fun x => by unfold sgD; rw [if_pos hh]] at hT
  obtain ⟨B, hB⟩ : ∃ B, bodyD l = B := ⟨_, rfl⟩
  rw [hB] at hb hbl hd hnum hT
  have htk := takeD_len B
  have hdr := dropD_len B
  have HS := Lib.hid hs; have HD := Lib.hid hd; have HH := Lib.hid hh; have HB := Lib.hid hb; have HLL := Lib.hid hll; have HTL := Lib.hid htl; have HBL := Lib.hid hbl; have HTK := Lib.hid htk; have HDR := Lib.hid hdr
  obtain ⟨w1, w2⟩ := hw
  obtain ⟨s1, s2⟩ := hs
  have HCONS := Lib.hid hcons
  clear hcons
  have HN := Lib.hid hnum
  clear hnum
  have HT := Lib.hid hT; have HIT := Lib.hid hit
  clear hT hit
  have hlg : decide (30 < t.size) = false := by simp only [decide_eq_false_iff_not]; omega
  have hlg' : decide (30 < (t.size : Int)) = false := by simp only [decide_eq_false_iff_not]; omega
  clear hd hh hb hll htl hbl htk hdr hB
  go_enter Tryz.func6, Tryz.ntmps6
  go_wp2_with fail
  refine (isScale_yes _ _ HS.out).mono ?_; rintro e w' ⟨rfl, rfl⟩
  go_wp2_with fail
  refine (isWay_yes _ _ ⟨by omega, by omega⟩).mono ?_; rintro e w' ⟨rfl, rfl⟩
  go_wp2_with fail
  refine (cutPrefix_yes t l.tail _ (by rw [HLL.out]; exact HCONS.out) hsz).mono ?_; rintro e w' ⟨⟨R, rfl, hR⟩, rfl⟩
  rw [← HB.out] at hR
  have HR := Lib.hid hR
  clear hR
  go_wp2_with fail
  have hrsz : R.size ≤ 9223372036854775807 := by rw [size_list R _ HR.out]; have := HBL.out; have := HTL.out; omega
  have hdd : dropD R.data.toList = [] := by rw [HR.out]; exact HD.out
  have htd : takeD B = B := by have := split_dot B; rw [HD.out, List.append_nil] at this; exact this
  have HDD := Lib.hid hdd; have HTD := Lib.hid htd
  clear hdd htd
  refine (cutDot_no R _ HDD.out).mono ?_; rintro e w3 ⟨rfl, rfl⟩
  have HX : Hid (R.data.toList = takeD B) := Lib.hid (by rw [HR.out]; exact HTD.out.symm)
  have HQ : Hid (∃ q, w = w.drewN q) := Lib.hid ⟨0, rfl⟩
  have hxs : R.size ≤ 1000000 := by rw [size_list R _ HX.out]; have := HTK.out; have := HBL.out; have := HTL.out; omega
  go_wp2_with fail
  refine (isNumber_any R _ True hxs ⟨fun _ => by rw [HX.out]; exact HN.out, fun _ => trivial⟩).mono ?_; rintro e w4 ⟨rfl, hq4⟩
  have HQ4 : Hid (∃ q, w4 = w.drewN q) := Lib.hid (by obtain ⟨q, rfl⟩ := hq4; exact drewN_ex HQ.out q)
  clear hq4
  go_wp2_with fail
  have HQ5 := HQ4
  have hdx : DigB R.data.toList := by rw [HX.out]; exact ((allDig_iff _).1 HN.out.1).1
  have HDX := Lib.hid hdx
  clear hdx
  obtain ⟨NX, hNX⟩ : ∃ x, numV R.data.toList = x := ⟨_, rfl⟩
  have hnb := numV_bd R.data.toList
  rw [hNX] at hnb
  obtain ⟨nx0, nx1⟩ := hnb
  have HNX := Lib.hid hNX
  clear hNX
  refine (number_any R _ hxs HDX.out).mono ?_; rintro e w6 ⟨rfl, rfl⟩
  rw [HNX.out]
  go_wp2_with fail
  refine (signed_yes _ _ (by omega) (by omega)).mono ?_; rintro e w' ⟨rfl, rfl⟩
  go_wp2_with fail
  refine (portion_any _ _ _ _ _ (by omega) (by omega) (by omega) (by omega) (by omega) (by omega)).mono ?_; rintro e w7 ⟨rfl, hq7⟩
  have HQ7 : Hid (∃ q, w7 = w.drewN q) := Lib.hid (by obtain ⟨q, rfl⟩ := hq7; exact drewN_ex HQ5.out q)
  clear hq7
  have hp1 := portQ_bd (-NX) s 1 way (by omega) (by omega)
  obtain ⟨P1, hP1⟩ : ∃ x, portQ (-NX) s 1 way = x := ⟨_, rfl⟩
  rw [hP1] at hp1 ⊢
  obtain ⟨p10, p11⟩ := hp1
  have HP1 := Lib.hid hP1
  clear hP1
  go_wp2_with fail
  obtain ⟨NY, hNY⟩ : ∃ x : Int, numV (⟨#[]⟩ : ByteArray).data.toList = x := ⟨_, rfl⟩
  have hNY0 : NY = 0 := by rw [← hNY]; rfl
  have hyu : NY < ((10 ^ 0 : Nat) : Int) := by rw [hNY0]; decide
  have ny0 : 0 ≤ NY := by omega
  have ny1 : NY ≤ 1000000000000001 := by omega
  have HNY := Lib.hid hNY; have HYU := Lib.hid hyu
  clear hNY hyu hNY0
  refine (number_any ⟨#[]⟩ _ (by decide) (fun b h => by simp at h)).mono ?_; rintro e w8 ⟨rfl, rfl⟩
  rw [HNY.out]
  go_wp2_with fail
  refine (signed_yes _ _ (by omega) (by omega)).mono ?_; rintro e w' ⟨rfl, rfl⟩
  go_wp2_with fail
  refine (power_any 0 _ (by omega)).mono ?_; rintro e w9 ⟨rfl, rfl⟩
  obtain ⟨U, hU⟩ : ∃ U, ((10 ^ 0 : Nat) : Int) = U := ⟨_, rfl⟩
  have hub := pow9 0 (by omega)
  rw [hU] at hub ⊢
  obtain ⟨ub0, ub1⟩ := hub
  have HU := Lib.hid hU
  clear hU
  go_wp2_with fail
  refine (portion_any _ _ _ _ _ (by omega) (by omega) (by omega) (by omega) (by omega) (by omega)).mono ?_; rintro e w10 ⟨rfl, hq10⟩
  have HQ10 : Hid (∃ q, w10 = w.drewN q) := Lib.hid (by obtain ⟨q, rfl⟩ := hq10; exact drewN_ex HQ7.out q)
  clear hq10
  have hlt : ((-NY).natAbs : Int) < U := by have := HYU.out; have := HU.out; omega
  have hp2 := part2_bd (-NY) s U way hlt (by omega) (by omega)
  obtain ⟨P2, hP2⟩ : ∃ x, portQ (-NY) s U way = x := ⟨_, rfl⟩
  rw [hP2] at hp2 ⊢
  obtain ⟨p20, p21⟩ := hp2
  have hsum : P1 + P2 = T := by
    rw [← HT.out, ← HP1.out, ← hP2, ← HNX.out, ← HNY.out, ← HU.out, HX.out, HD.out]; rfl
  have hwr : IntKind.i64.wrap (P1 + P2) = T := by rw [hsum]; rw [← hsum]; exact IntWalk.i64_in _ ⟨by omega, by omega⟩
  have HIT2 := HIT
  clear hP2 hsum hlt
  go_wp2_with fail
  refine (isTime_no _ _ HIT.out).mono ?_; rintro e w11 ⟨rfl, rfl⟩
  go_wp2_with fail
  go_ret2
  exact ⟨rfl, HQ10.out⟩

set_option maxRecDepth 100000 in
set_option maxHeartbeats 4000000 in
theorem rdec_11L (t : ByteArray) (s way : Int) (w : World) (hsz : t.size ≤ 9223372036854775807) (hs : isScaleN s) (hw : 1 ≤ way ∧ way ≤ 3) (hh : t.data.toList.head? = some 45) (hd : dropD (bodyD t.data.toList) ≠ []) (hlong : 30 < t.size) :
    Calls Tryz.prog 6 #[.string t, .int .i64 s, .int .i64 way] w fun e w' => e = .returned (.tuple #[.int .i64 0, .int .i64 10]) ∧ ∃ q, w' = w.drewN q := by
  obtain ⟨l, hll⟩ : ∃ l, t.data.toList = l := ⟨_, rfl⟩
  have htl := size_list t l hll
  rw [hll] at hh hd
  have hbl := bodyD_len l
  have hb : bodyD l = l.tail := by unfold bodyD; rw [if_pos hh]
  have hcons : l = 45 :: l.tail := by
    cases l with
    | nil => simp at hh
    | cons b r => simp at hh; rw [hh]; rfl
  obtain ⟨B, hB⟩ : ∃ B, bodyD l = B := ⟨_, rfl⟩
  rw [hB] at hb hbl hd
  have htk := takeD_len B
  have hdr := dropD_len B
  have HS := Lib.hid hs; have HD := Lib.hid hd; have HH := Lib.hid hh; have HB := Lib.hid hb; have HLL := Lib.hid hll; have HTL := Lib.hid htl; have HBL := Lib.hid hbl; have HTK := Lib.hid htk; have HDR := Lib.hid hdr
  obtain ⟨w1, w2⟩ := hw
  obtain ⟨s1, s2⟩ := hs
  have HCONS := Lib.hid hcons
  clear hcons
  have hlg : decide (30 < t.size) = true := by simp only [decide_eq_true_eq]; omega
  have hlg' : decide (30 < (t.size : Int)) = true := by simp only [decide_eq_true_eq]; omega
  clear hd hh hb hll htl hbl htk hdr hB
  go_enter Tryz.func6, Tryz.ntmps6
  go_wp2_with fail
  refine (isScale_yes _ _ HS.out).mono ?_; rintro e w' ⟨rfl, rfl⟩
  go_wp2_with fail
  refine (isWay_yes _ _ ⟨by omega, by omega⟩).mono ?_; rintro e w' ⟨rfl, rfl⟩
  go_wp2_with fail
  refine (cutPrefix_yes t l.tail _ (by rw [HLL.out]; exact HCONS.out) hsz).mono ?_; rintro e w' ⟨⟨R, rfl, hR⟩, rfl⟩
  rw [← HB.out] at hR
  have HR := Lib.hid hR
  clear hR
  go_wp2_with fail
  have hrsz : R.size ≤ 9223372036854775807 := by rw [size_list R _ HR.out]; have := HBL.out; have := HTL.out; omega
  refine (cutDot_yes R B _ HR.out HD.out hrsz).mono ?_; rintro e w3 ⟨⟨X, Y, rfl, hX, hY⟩, q3, hw3⟩
  have HX := Lib.hid hX; have HY := Lib.hid hY
  have HQ : Hid (∃ q, w3 = w.drewN q) := Lib.hid ⟨q3, hw3⟩
  clear hX hY hw3
  go_wp2_with fail
  go_ret2
  exact ⟨rfl, HQ.out⟩

set_option maxRecDepth 100000 in
set_option maxHeartbeats 4000000 in
theorem rdec_11N (t : ByteArray) (s way : Int) (w : World) (hsz : t.size ≤ 9223372036854775807) (hs : isScaleN s) (hw : 1 ≤ way ∧ way ≤ 3) (hh : t.data.toList.head? = some 45) (hd : dropD (bodyD t.data.toList) ≠ []) (hlong : t.size ≤ 30) (hnum : ¬ NumOk (takeD (bodyD t.data.toList))) :
    Calls Tryz.prog 6 #[.string t, .int .i64 s, .int .i64 way] w fun e w' => e = .returned (.tuple #[.int .i64 0, .int .i64 10]) ∧ ∃ q, w' = w.drewN q := by
  obtain ⟨l, hll⟩ : ∃ l, t.data.toList = l := ⟨_, rfl⟩
  have htl := size_list t l hll
  rw [hll] at hh hd hnum
  have hbl := bodyD_len l
  have hb : bodyD l = l.tail := by unfold bodyD; rw [if_pos hh]
  have hcons : l = 45 :: l.tail := by
    cases l with
    | nil => simp at hh
    | cons b r => simp at hh; rw [hh]; rfl
  obtain ⟨B, hB⟩ : ∃ B, bodyD l = B := ⟨_, rfl⟩
  rw [hB] at hb hbl hd hnum
  have htk := takeD_len B
  have hdr := dropD_len B
  have HS := Lib.hid hs; have HD := Lib.hid hd; have HH := Lib.hid hh; have HB := Lib.hid hb; have HLL := Lib.hid hll; have HTL := Lib.hid htl; have HBL := Lib.hid hbl; have HTK := Lib.hid htk; have HDR := Lib.hid hdr
  obtain ⟨w1, w2⟩ := hw
  obtain ⟨s1, s2⟩ := hs
  have HCONS := Lib.hid hcons
  clear hcons
  have HN := Lib.hid hnum
  clear hnum
  have hlg : decide (30 < t.size) = false := by simp only [decide_eq_false_iff_not]; omega
  have hlg' : decide (30 < (t.size : Int)) = false := by simp only [decide_eq_false_iff_not]; omega
  clear hd hh hb hll htl hbl htk hdr hB
  go_enter Tryz.func6, Tryz.ntmps6
  go_wp2_with fail
  refine (isScale_yes _ _ HS.out).mono ?_; rintro e w' ⟨rfl, rfl⟩
  go_wp2_with fail
  refine (isWay_yes _ _ ⟨by omega, by omega⟩).mono ?_; rintro e w' ⟨rfl, rfl⟩
  go_wp2_with fail
  refine (cutPrefix_yes t l.tail _ (by rw [HLL.out]; exact HCONS.out) hsz).mono ?_; rintro e w' ⟨⟨R, rfl, hR⟩, rfl⟩
  rw [← HB.out] at hR
  have HR := Lib.hid hR
  clear hR
  go_wp2_with fail
  have hrsz : R.size ≤ 9223372036854775807 := by rw [size_list R _ HR.out]; have := HBL.out; have := HTL.out; omega
  refine (cutDot_yes R B _ HR.out HD.out hrsz).mono ?_; rintro e w3 ⟨⟨X, Y, rfl, hX, hY⟩, q3, hw3⟩
  have HX := Lib.hid hX; have HY := Lib.hid hY
  have HQ : Hid (∃ q, w3 = w.drewN q) := Lib.hid ⟨q3, hw3⟩
  clear hX hY hw3
  have hxs : X.size ≤ 1000000 := by rw [size_list X _ HX.out]; have := HTK.out; have := HBL.out; have := HTL.out; omega
  go_wp2_with fail
  refine (isNumber_any X _ False hxs ⟨False.elim, fun hx => HN.out (by rw [← HX.out]; exact hx)⟩).mono ?_; rintro e w4 ⟨rfl, hq4⟩
  have HQ4 : Hid (∃ q, w4 = w.drewN q) := Lib.hid (by obtain ⟨q, rfl⟩ := hq4; exact drewN_ex HQ.out q)
  clear hq4
  go_wp2_with fail
  go_ret2
  exact ⟨rfl, HQ4.out⟩

set_option maxRecDepth 100000 in
set_option maxHeartbeats 4000000 in
theorem rdec_11P (t : ByteArray) (s way : Int) (w : World) (hsz : t.size ≤ 9223372036854775807) (hs : isScaleN s) (hw : 1 ≤ way ∧ way ≤ 3) (hh : t.data.toList.head? = some 45) (hd : dropD (bodyD t.data.toList) ≠ []) (hlong : t.size ≤ 30) (hnum : NumOk (takeD (bodyD t.data.toList))) (hpart : ¬ (allDig (dropD (bodyD t.data.toList)).tail = true ∧ (dropD (bodyD t.data.toList)).tail.length ≤ 9)) :
    Calls Tryz.prog 6 #[.string t, .int .i64 s, .int .i64 way] w fun e w' => e = .returned (.tuple #[.int .i64 0, .int .i64 10]) ∧ ∃ q, w' = w.drewN q := by
  obtain ⟨l, hll⟩ : ∃ l, t.data.toList = l := ⟨_, rfl⟩
  have htl := size_list t l hll
  rw [hll] at hh hd hnum hpart
  have hbl := bodyD_len l
  have hb : bodyD l = l.tail := by unfold bodyD; rw [if_pos hh]
  have hcons : l = 45 :: l.tail := by
    cases l with
    | nil => simp at hh
    | cons b r => simp at hh; rw [hh]; rfl
  obtain ⟨B, hB⟩ : ∃ B, bodyD l = B := ⟨_, rfl⟩
  rw [hB] at hb hbl hd hnum hpart
  have htk := takeD_len B
  have hdr := dropD_len B
  have HS := Lib.hid hs; have HD := Lib.hid hd; have HH := Lib.hid hh; have HB := Lib.hid hb; have HLL := Lib.hid hll; have HTL := Lib.hid htl; have HBL := Lib.hid hbl; have HTK := Lib.hid htk; have HDR := Lib.hid hdr
  obtain ⟨w1, w2⟩ := hw
  obtain ⟨s1, s2⟩ := hs
  have HCONS := Lib.hid hcons
  clear hcons
  have HN := Lib.hid hnum
  clear hnum
  have HP := Lib.hid hpart
  clear hpart
  have hlg : decide (30 < t.size) = false := by simp only [decide_eq_false_iff_not]; omega
  have hlg' : decide (30 < (t.size : Int)) = false := by simp only [decide_eq_false_iff_not]; omega
  clear hd hh hb hll htl hbl htk hdr hB
  go_enter Tryz.func6, Tryz.ntmps6
  go_wp2_with fail
  refine (isScale_yes _ _ HS.out).mono ?_; rintro e w' ⟨rfl, rfl⟩
  go_wp2_with fail
  refine (isWay_yes _ _ ⟨by omega, by omega⟩).mono ?_; rintro e w' ⟨rfl, rfl⟩
  go_wp2_with fail
  refine (cutPrefix_yes t l.tail _ (by rw [HLL.out]; exact HCONS.out) hsz).mono ?_; rintro e w' ⟨⟨R, rfl, hR⟩, rfl⟩
  rw [← HB.out] at hR
  have HR := Lib.hid hR
  clear hR
  go_wp2_with fail
  have hrsz : R.size ≤ 9223372036854775807 := by rw [size_list R _ HR.out]; have := HBL.out; have := HTL.out; omega
  refine (cutDot_yes R B _ HR.out HD.out hrsz).mono ?_; rintro e w3 ⟨⟨X, Y, rfl, hX, hY⟩, q3, hw3⟩
  have HX := Lib.hid hX; have HY := Lib.hid hY
  have HQ : Hid (∃ q, w3 = w.drewN q) := Lib.hid ⟨q3, hw3⟩
  clear hX hY hw3
  have hxs : X.size ≤ 1000000 := by rw [size_list X _ HX.out]; have := HTK.out; have := HBL.out; have := HTL.out; omega
  go_wp2_with fail
  refine (isNumber_any X _ True hxs ⟨fun _ => by rw [HX.out]; exact HN.out, fun _ => trivial⟩).mono ?_; rintro e w4 ⟨rfl, hq4⟩
  have HQ4 : Hid (∃ q, w4 = w.drewN q) := Lib.hid (by obtain ⟨q, rfl⟩ := hq4; exact drewN_ex HQ.out q)
  clear hq4
  have hys : Y.size ≤ 1000000 := by rw [size_list Y _ HY.out, List.length_tail]; have := HDR.out; have := HBL.out; have := HTL.out; omega
  go_wp2_with fail
  refine (isPart_any Y _ False hys ⟨False.elim, fun hx => HP.out (by rw [← HY.out]; exact hx)⟩).mono ?_; rintro e w5 ⟨rfl, hq5⟩
  have HQ5 : Hid (∃ q, w5 = w.drewN q) := Lib.hid (by obtain ⟨q, rfl⟩ := hq5; exact drewN_ex HQ4.out q)
  clear hq5
  go_wp2_with fail
  go_ret2
  exact ⟨rfl, HQ5.out⟩

set_option maxRecDepth 100000 in
set_option maxHeartbeats 4000000 in
theorem rdec_11T (t : ByteArray) (s way : Int) (w : World) (hsz : t.size ≤ 9223372036854775807) (hs : isScaleN s) (hw : 1 ≤ way ∧ way ≤ 3) (hh : t.data.toList.head? = some 45) (hd : dropD (bodyD t.data.toList) ≠ []) (hlong : t.size ≤ 30) (hnum : NumOk (takeD (bodyD t.data.toList))) (hpart : allDig (dropD (bodyD t.data.toList)).tail = true ∧ (dropD (bodyD t.data.toList)).tail.length ≤ 9) (T : Int) (hT : decQ t.data.toList s way = T) (hit : isTimeN T) :
    Calls Tryz.prog 6 #[.string t, .int .i64 s, .int .i64 way] w fun e w' => e = .returned (.tuple #[.int .i64 T, .int .i64 0]) ∧ ∃ q, w' = w.drewN q := by
  obtain ⟨l, hll⟩ : ∃ l, t.data.toList = l := ⟨_, rfl⟩
  have htl := size_list t l hll
  rw [hll] at hh hd hnum hpart hT
  have hbl := bodyD_len l
  unfold decQ at hT
  have hb : bodyD l = l.tail := by unfold bodyD; rw [if_pos hh]
  have hcons : l = 45 :: l.tail := by
    cases l with
    | nil => simp at hh
    | cons b r => simp at hh; rw [hh]; rfl
  rw [show ∀ x, sgD l x = -x from fun x => by unfold sgD; rw [if_pos hh], show ∀ x, sgD l x = -x from fun x => by unfold sgD; rw [if_pos hh]] at hT
  obtain ⟨B, hB⟩ : ∃ B, bodyD l = B := ⟨_, rfl⟩
  rw [hB] at hb hbl hd hnum hpart hT
  have htk := takeD_len B
  have hdr := dropD_len B
  have HS := Lib.hid hs; have HD := Lib.hid hd; have HH := Lib.hid hh; have HB := Lib.hid hb; have HLL := Lib.hid hll; have HTL := Lib.hid htl; have HBL := Lib.hid hbl; have HTK := Lib.hid htk; have HDR := Lib.hid hdr
  obtain ⟨w1, w2⟩ := hw
  obtain ⟨s1, s2⟩ := hs
  have HCONS := Lib.hid hcons
  clear hcons
  have HN := Lib.hid hnum
  clear hnum
  have HP := Lib.hid hpart
  clear hpart
  have HT := Lib.hid hT; have HIT := Lib.hid hit
  clear hT hit
  have hlg : decide (30 < t.size) = false := by simp only [decide_eq_false_iff_not]; omega
  have hlg' : decide (30 < (t.size : Int)) = false := by simp only [decide_eq_false_iff_not]; omega
  clear hd hh hb hll htl hbl htk hdr hB
  go_enter Tryz.func6, Tryz.ntmps6
  go_wp2_with fail
  refine (isScale_yes _ _ HS.out).mono ?_; rintro e w' ⟨rfl, rfl⟩
  go_wp2_with fail
  refine (isWay_yes _ _ ⟨by omega, by omega⟩).mono ?_; rintro e w' ⟨rfl, rfl⟩
  go_wp2_with fail
  refine (cutPrefix_yes t l.tail _ (by rw [HLL.out]; exact HCONS.out) hsz).mono ?_; rintro e w' ⟨⟨R, rfl, hR⟩, rfl⟩
  rw [← HB.out] at hR
  have HR := Lib.hid hR
  clear hR
  go_wp2_with fail
  have hrsz : R.size ≤ 9223372036854775807 := by rw [size_list R _ HR.out]; have := HBL.out; have := HTL.out; omega
  refine (cutDot_yes R B _ HR.out HD.out hrsz).mono ?_; rintro e w3 ⟨⟨X, Y, rfl, hX, hY⟩, q3, hw3⟩
  have HX := Lib.hid hX; have HY := Lib.hid hY
  have HQ : Hid (∃ q, w3 = w.drewN q) := Lib.hid ⟨q3, hw3⟩
  clear hX hY hw3
  have hxs : X.size ≤ 1000000 := by rw [size_list X _ HX.out]; have := HTK.out; have := HBL.out; have := HTL.out; omega
  go_wp2_with fail
  refine (isNumber_any X _ True hxs ⟨fun _ => by rw [HX.out]; exact HN.out, fun _ => trivial⟩).mono ?_; rintro e w4 ⟨rfl, hq4⟩
  have HQ4 : Hid (∃ q, w4 = w.drewN q) := Lib.hid (by obtain ⟨q, rfl⟩ := hq4; exact drewN_ex HQ.out q)
  clear hq4
  have hys : Y.size ≤ 1000000 := by rw [size_list Y _ HY.out, List.length_tail]; have := HDR.out; have := HBL.out; have := HTL.out; omega
  go_wp2_with fail
  refine (isPart_any Y _ True hys ⟨fun _ => by rw [HY.out]; exact HP.out, fun _ => trivial⟩).mono ?_; rintro e w5 ⟨rfl, hq5⟩
  have HQ5 : Hid (∃ q, w5 = w.drewN q) := Lib.hid (by obtain ⟨q, rfl⟩ := hq5; exact drewN_ex HQ4.out q)
  clear hq5
  go_wp2_with fail
  have hdx : DigB X.data.toList := by rw [HX.out]; exact ((allDig_iff _).1 HN.out.1).1
  have HDX := Lib.hid hdx
  clear hdx
  obtain ⟨NX, hNX⟩ : ∃ x, numV X.data.toList = x := ⟨_, rfl⟩
  have hnb := numV_bd X.data.toList
  rw [hNX] at hnb
  obtain ⟨nx0, nx1⟩ := hnb
  have HNX := Lib.hid hNX
  clear hNX
  refine (number_any X _ hxs HDX.out).mono ?_; rintro e w6 ⟨rfl, rfl⟩
  rw [HNX.out]
  go_wp2_with fail
  refine (signed_yes _ _ (by omega) (by omega)).mono ?_; rintro e w' ⟨rfl, rfl⟩
  go_wp2_with fail
  refine (portion_any _ _ _ _ _ (by omega) (by omega) (by omega) (by omega) (by omega) (by omega)).mono ?_; rintro e w7 ⟨rfl, hq7⟩
  have HQ7 : Hid (∃ q, w7 = w.drewN q) := Lib.hid (by obtain ⟨q, rfl⟩ := hq7; exact drewN_ex HQ5.out q)
  clear hq7
  have hp1 := portQ_bd (-NX) s 1 way (by omega) (by omega)
  obtain ⟨P1, hP1⟩ : ∃ x, portQ (-NX) s 1 way = x := ⟨_, rfl⟩
  rw [hP1] at hp1 ⊢
  obtain ⟨p10, p11⟩ := hp1
  have HP1 := Lib.hid hP1
  clear hP1
  go_wp2_with fail
  have hdy : DigB Y.data.toList := by rw [HY.out]; exact ((allDig_iff _).1 HP.out.1).1
  have hY9 : Y.size ≤ 9 := by rw [size_list Y _ HY.out]; exact HP.out.2
  have hyu : numV Y.data.toList < ((10 ^ Y.size : Nat) : Int) := by
    have h1 := dvalB_lt _ hdy
    rw [← size_list Y _ rfl] at h1
    unfold numV; omega
  have HDY := Lib.hid hdy
  obtain ⟨NY, hNY⟩ : ∃ x, numV Y.data.toList = x := ⟨_, rfl⟩
  have hnb2 := numV_bd Y.data.toList
  rw [hNY] at hnb2 hyu
  obtain ⟨ny0, ny1⟩ := hnb2
  have HNY := Lib.hid hNY; have HYU := Lib.hid hyu
  clear hdy hNY hyu
  refine (number_any Y _ hys HDY.out).mono ?_; rintro e w8 ⟨rfl, rfl⟩
  rw [HNY.out]
  go_wp2_with fail
  refine (signed_yes _ _ (by omega) (by omega)).mono ?_; rintro e w' ⟨rfl, rfl⟩
  go_wp2_with fail
  refine (power_any Y.size _ hY9).mono ?_; rintro e w9 ⟨rfl, rfl⟩
  obtain ⟨U, hU⟩ : ∃ U, ((10 ^ Y.size : Nat) : Int) = U := ⟨_, rfl⟩
  have hub := pow9 Y.size hY9
  rw [hU] at hub ⊢
  obtain ⟨ub0, ub1⟩ := hub
  have HU := Lib.hid hU
  clear hU
  go_wp2_with fail
  refine (portion_any _ _ _ _ _ (by omega) (by omega) (by omega) (by omega) (by omega) (by omega)).mono ?_; rintro e w10 ⟨rfl, hq10⟩
  have HQ10 : Hid (∃ q, w10 = w.drewN q) := Lib.hid (by obtain ⟨q, rfl⟩ := hq10; exact drewN_ex HQ7.out q)
  clear hq10
  have hlt : ((-NY).natAbs : Int) < U := by have := HYU.out; have := HU.out; omega
  have hp2 := part2_bd (-NY) s U way hlt (by omega) (by omega)
  obtain ⟨P2, hP2⟩ : ∃ x, portQ (-NY) s U way = x := ⟨_, rfl⟩
  rw [hP2] at hp2 ⊢
  obtain ⟨p20, p21⟩ := hp2
  have hsum : P1 + P2 = T := by
    rw [← HT.out, ← HP1.out, ← hP2, ← HNX.out, ← HNY.out, ← HU.out, HX.out, HY.out, size_list Y _ rfl, HY.out]
  have hwr : IntKind.i64.wrap (P1 + P2) = T := by rw [hsum]; rw [← hsum]; exact IntWalk.i64_in _ ⟨by omega, by omega⟩
  have HIT2 := HIT
  clear hP2 hsum hlt
  go_wp2_with fail
  refine (isTime_yes _ _ HIT.out).mono ?_; rintro e w11 ⟨rfl, rfl⟩
  go_wp2_with fail
  go_ret2
  exact ⟨rfl, HQ10.out⟩

set_option maxRecDepth 100000 in
set_option maxHeartbeats 4000000 in
theorem rdec_11R (t : ByteArray) (s way : Int) (w : World) (hsz : t.size ≤ 9223372036854775807) (hs : isScaleN s) (hw : 1 ≤ way ∧ way ≤ 3) (hh : t.data.toList.head? = some 45) (hd : dropD (bodyD t.data.toList) ≠ []) (hlong : t.size ≤ 30) (hnum : NumOk (takeD (bodyD t.data.toList))) (hpart : allDig (dropD (bodyD t.data.toList)).tail = true ∧ (dropD (bodyD t.data.toList)).tail.length ≤ 9) (T : Int) (hT : decQ t.data.toList s way = T) (hit : ¬ isTimeN T) :
    Calls Tryz.prog 6 #[.string t, .int .i64 s, .int .i64 way] w fun e w' => e = .returned (.tuple #[.int .i64 0, .int .i64 1]) ∧ ∃ q, w' = w.drewN q := by
  obtain ⟨l, hll⟩ : ∃ l, t.data.toList = l := ⟨_, rfl⟩
  have htl := size_list t l hll
  rw [hll] at hh hd hnum hpart hT
  have hbl := bodyD_len l
  unfold decQ at hT
  have hb : bodyD l = l.tail := by unfold bodyD; rw [if_pos hh]
  have hcons : l = 45 :: l.tail := by
    cases l with
    | nil => simp at hh
    | cons b r => simp at hh; rw [hh]; rfl
  rw [show ∀ x, sgD l x = -x from fun x => by unfold sgD; rw [if_pos hh], show ∀ x, sgD l x = -x from fun x => by unfold sgD; rw [if_pos hh]] at hT
  obtain ⟨B, hB⟩ : ∃ B, bodyD l = B := ⟨_, rfl⟩
  rw [hB] at hb hbl hd hnum hpart hT
  have htk := takeD_len B
  have hdr := dropD_len B
  have HS := Lib.hid hs; have HD := Lib.hid hd; have HH := Lib.hid hh; have HB := Lib.hid hb; have HLL := Lib.hid hll; have HTL := Lib.hid htl; have HBL := Lib.hid hbl; have HTK := Lib.hid htk; have HDR := Lib.hid hdr
  obtain ⟨w1, w2⟩ := hw
  obtain ⟨s1, s2⟩ := hs
  have HCONS := Lib.hid hcons
  clear hcons
  have HN := Lib.hid hnum
  clear hnum
  have HP := Lib.hid hpart
  clear hpart
  have HT := Lib.hid hT; have HIT := Lib.hid hit
  clear hT hit
  have hlg : decide (30 < t.size) = false := by simp only [decide_eq_false_iff_not]; omega
  have hlg' : decide (30 < (t.size : Int)) = false := by simp only [decide_eq_false_iff_not]; omega
  clear hd hh hb hll htl hbl htk hdr hB
  go_enter Tryz.func6, Tryz.ntmps6
  go_wp2_with fail
  refine (isScale_yes _ _ HS.out).mono ?_; rintro e w' ⟨rfl, rfl⟩
  go_wp2_with fail
  refine (isWay_yes _ _ ⟨by omega, by omega⟩).mono ?_; rintro e w' ⟨rfl, rfl⟩
  go_wp2_with fail
  refine (cutPrefix_yes t l.tail _ (by rw [HLL.out]; exact HCONS.out) hsz).mono ?_; rintro e w' ⟨⟨R, rfl, hR⟩, rfl⟩
  rw [← HB.out] at hR
  have HR := Lib.hid hR
  clear hR
  go_wp2_with fail
  have hrsz : R.size ≤ 9223372036854775807 := by rw [size_list R _ HR.out]; have := HBL.out; have := HTL.out; omega
  refine (cutDot_yes R B _ HR.out HD.out hrsz).mono ?_; rintro e w3 ⟨⟨X, Y, rfl, hX, hY⟩, q3, hw3⟩
  have HX := Lib.hid hX; have HY := Lib.hid hY
  have HQ : Hid (∃ q, w3 = w.drewN q) := Lib.hid ⟨q3, hw3⟩
  clear hX hY hw3
  have hxs : X.size ≤ 1000000 := by rw [size_list X _ HX.out]; have := HTK.out; have := HBL.out; have := HTL.out; omega
  go_wp2_with fail
  refine (isNumber_any X _ True hxs ⟨fun _ => by rw [HX.out]; exact HN.out, fun _ => trivial⟩).mono ?_; rintro e w4 ⟨rfl, hq4⟩
  have HQ4 : Hid (∃ q, w4 = w.drewN q) := Lib.hid (by obtain ⟨q, rfl⟩ := hq4; exact drewN_ex HQ.out q)
  clear hq4
  have hys : Y.size ≤ 1000000 := by rw [size_list Y _ HY.out, List.length_tail]; have := HDR.out; have := HBL.out; have := HTL.out; omega
  go_wp2_with fail
  refine (isPart_any Y _ True hys ⟨fun _ => by rw [HY.out]; exact HP.out, fun _ => trivial⟩).mono ?_; rintro e w5 ⟨rfl, hq5⟩
  have HQ5 : Hid (∃ q, w5 = w.drewN q) := Lib.hid (by obtain ⟨q, rfl⟩ := hq5; exact drewN_ex HQ4.out q)
  clear hq5
  go_wp2_with fail
  have hdx : DigB X.data.toList := by rw [HX.out]; exact ((allDig_iff _).1 HN.out.1).1
  have HDX := Lib.hid hdx
  clear hdx
  obtain ⟨NX, hNX⟩ : ∃ x, numV X.data.toList = x := ⟨_, rfl⟩
  have hnb := numV_bd X.data.toList
  rw [hNX] at hnb
  obtain ⟨nx0, nx1⟩ := hnb
  have HNX := Lib.hid hNX
  clear hNX
  refine (number_any X _ hxs HDX.out).mono ?_; rintro e w6 ⟨rfl, rfl⟩
  rw [HNX.out]
  go_wp2_with fail
  refine (signed_yes _ _ (by omega) (by omega)).mono ?_; rintro e w' ⟨rfl, rfl⟩
  go_wp2_with fail
  refine (portion_any _ _ _ _ _ (by omega) (by omega) (by omega) (by omega) (by omega) (by omega)).mono ?_; rintro e w7 ⟨rfl, hq7⟩
  have HQ7 : Hid (∃ q, w7 = w.drewN q) := Lib.hid (by obtain ⟨q, rfl⟩ := hq7; exact drewN_ex HQ5.out q)
  clear hq7
  have hp1 := portQ_bd (-NX) s 1 way (by omega) (by omega)
  obtain ⟨P1, hP1⟩ : ∃ x, portQ (-NX) s 1 way = x := ⟨_, rfl⟩
  rw [hP1] at hp1 ⊢
  obtain ⟨p10, p11⟩ := hp1
  have HP1 := Lib.hid hP1
  clear hP1
  go_wp2_with fail
  have hdy : DigB Y.data.toList := by rw [HY.out]; exact ((allDig_iff _).1 HP.out.1).1
  have hY9 : Y.size ≤ 9 := by rw [size_list Y _ HY.out]; exact HP.out.2
  have hyu : numV Y.data.toList < ((10 ^ Y.size : Nat) : Int) := by
    have h1 := dvalB_lt _ hdy
    rw [← size_list Y _ rfl] at h1
    unfold numV; omega
  have HDY := Lib.hid hdy
  obtain ⟨NY, hNY⟩ : ∃ x, numV Y.data.toList = x := ⟨_, rfl⟩
  have hnb2 := numV_bd Y.data.toList
  rw [hNY] at hnb2 hyu
  obtain ⟨ny0, ny1⟩ := hnb2
  have HNY := Lib.hid hNY; have HYU := Lib.hid hyu
  clear hdy hNY hyu
  refine (number_any Y _ hys HDY.out).mono ?_; rintro e w8 ⟨rfl, rfl⟩
  rw [HNY.out]
  go_wp2_with fail
  refine (signed_yes _ _ (by omega) (by omega)).mono ?_; rintro e w' ⟨rfl, rfl⟩
  go_wp2_with fail
  refine (power_any Y.size _ hY9).mono ?_; rintro e w9 ⟨rfl, rfl⟩
  obtain ⟨U, hU⟩ : ∃ U, ((10 ^ Y.size : Nat) : Int) = U := ⟨_, rfl⟩
  have hub := pow9 Y.size hY9
  rw [hU] at hub ⊢
  obtain ⟨ub0, ub1⟩ := hub
  have HU := Lib.hid hU
  clear hU
  go_wp2_with fail
  refine (portion_any _ _ _ _ _ (by omega) (by omega) (by omega) (by omega) (by omega) (by omega)).mono ?_; rintro e w10 ⟨rfl, hq10⟩
  have HQ10 : Hid (∃ q, w10 = w.drewN q) := Lib.hid (by obtain ⟨q, rfl⟩ := hq10; exact drewN_ex HQ7.out q)
  clear hq10
  have hlt : ((-NY).natAbs : Int) < U := by have := HYU.out; have := HU.out; omega
  have hp2 := part2_bd (-NY) s U way hlt (by omega) (by omega)
  obtain ⟨P2, hP2⟩ : ∃ x, portQ (-NY) s U way = x := ⟨_, rfl⟩
  rw [hP2] at hp2 ⊢
  obtain ⟨p20, p21⟩ := hp2
  have hsum : P1 + P2 = T := by
    rw [← HT.out, ← HP1.out, ← hP2, ← HNX.out, ← HNY.out, ← HU.out, HX.out, HY.out, size_list Y _ rfl, HY.out]
  have hwr : IntKind.i64.wrap (P1 + P2) = T := by rw [hsum]; rw [← hsum]; exact IntWalk.i64_in _ ⟨by omega, by omega⟩
  have HIT2 := HIT
  clear hP2 hsum hlt
  go_wp2_with fail
  refine (isTime_no _ _ HIT.out).mono ?_; rintro e w11 ⟨rfl, rfl⟩
  go_wp2_with fail
  go_ret2
  exact ⟨rfl, HQ10.out⟩

open Classical in
/-- ReadDecimal, whatever the input. -/
noncomputable def rcF (l : List UInt8) (s way : Int) : Int :=
  if ¬ isScaleN s then 1 else if ¬ (1 ≤ way ∧ way ≤ 3) then 4 else if ¬ DecOk l then 10 else if isTimeN (decQ l s way) then 0 else 1
noncomputable def rcV (l : List UInt8) (s way : Int) : Int := if rcF l s way = 0 then decQ l s way else 0

theorem rcF_scale {l : List UInt8} {s way : Int} (h : ¬ isScaleN s) : rcF l s way = 1 := by unfold rcF; rw [if_pos h]
theorem rcF_way {l : List UInt8} {s way : Int} (h : isScaleN s) (h2 : ¬ (1 ≤ way ∧ way ≤ 3)) : rcF l s way = 4 := by unfold rcF; rw [if_neg (fun x => x h), if_pos h2]
theorem rcF_form {l : List UInt8} {s way : Int} (h : isScaleN s) (h2 : 1 ≤ way ∧ way ≤ 3) (h3 : ¬ DecOk l) : rcF l s way = 10 := by unfold rcF; rw [if_neg (fun x => x h), if_neg (fun x => x h2), if_pos h3]
theorem rcF_time {l : List UInt8} {s way : Int} (h : isScaleN s) (h2 : 1 ≤ way ∧ way ≤ 3) (h3 : DecOk l) (h4 : isTimeN (decQ l s way)) : rcF l s way = 0 := by unfold rcF; rw [if_neg (fun x => x h), if_neg (fun x => x h2), if_neg (fun x => x h3), if_pos h4]
theorem rcF_far {l : List UInt8} {s way : Int} (h : isScaleN s) (h2 : 1 ≤ way ∧ way ≤ 3) (h3 : DecOk l) (h4 : ¬ isTimeN (decQ l s way)) : rcF l s way = 1 := by unfold rcF; rw [if_neg (fun x => x h), if_neg (fun x => x h2), if_neg (fun x => x h3), if_neg h4]

theorem readDec_any (t : ByteArray) (s way : Int) (w : World) (hsz : t.size ≤ 9223372036854775807) :
    Calls Tryz.prog 6 #[.string t, .int .i64 s, .int .i64 way] w fun e w' => e = .returned (.tuple #[.int .i64 (rcV t.data.toList s way), .int .i64 (rcF t.data.toList s way)]) ∧ ∃ q, w' = w.drewN q := by
  have htl := size_list t _ rfl
  by_cases hs : isScaleN s
  · by_cases hw : 1 ≤ way ∧ way ≤ 3
    · by_cases hok : DecOk t.data.toList
      · have ok := hok
        obtain ⟨ok1, ok2, ok3⟩ := hok
        by_cases hit : isTimeN (decQ t.data.toList s way)
        · have e0 := rcF_time hs hw ok hit
          have e1 : rcV t.data.toList s way = decQ t.data.toList s way := by unfold rcV; rw [if_pos e0]
          rw [e0, e1]
          by_cases hh : t.data.toList.head? = some 45 <;> by_cases hd : dropD (bodyD t.data.toList) = []
          · exact rdec_10T t s way w hsz hs hw hh hd (by omega) ok2 _ rfl hit
          · exact rdec_11T t s way w hsz hs hw hh hd (by omega) ok2 (ok3 hd) _ rfl hit
          · exact rdec_00T t s way w hsz hs hw hh hd (by omega) ok2 _ rfl hit
          · exact rdec_01T t s way w hsz hs hw hh hd (by omega) ok2 (ok3 hd) _ rfl hit
        · have e0 := rcF_far hs hw ok hit
          have e1 : rcV t.data.toList s way = 0 := by unfold rcV; rw [e0]; rfl
          rw [e0, e1]
          by_cases hh : t.data.toList.head? = some 45 <;> by_cases hd : dropD (bodyD t.data.toList) = []
          · exact rdec_10R t s way w hsz hs hw hh hd (by omega) ok2 _ rfl hit
          · exact rdec_11R t s way w hsz hs hw hh hd (by omega) ok2 (ok3 hd) _ rfl hit
          · exact rdec_00R t s way w hsz hs hw hh hd (by omega) ok2 _ rfl hit
          · exact rdec_01R t s way w hsz hs hw hh hd (by omega) ok2 (ok3 hd) _ rfl hit
      · have e0 := rcF_form hs hw hok
        have e1 : rcV t.data.toList s way = 0 := by unfold rcV; rw [e0]; rfl
        rw [e0, e1]
        by_cases h30 : t.size ≤ 30
        · by_cases hnum : NumOk (takeD (bodyD t.data.toList))
          · by_cases hd : dropD (bodyD t.data.toList) = []
            · exact absurd ⟨by omega, hnum, fun hx => absurd hd hx⟩ hok
            · have hpart : ¬ (allDig (dropD (bodyD t.data.toList)).tail = true ∧ (dropD (bodyD t.data.toList)).tail.length ≤ 9) := fun hx => hok ⟨by omega, hnum, fun _ => hx⟩
              by_cases hh : t.data.toList.head? = some 45
              · exact rdec_11P t s way w hsz hs hw hh hd h30 hnum hpart
              · exact rdec_01P t s way w hsz hs hw hh hd h30 hnum hpart
          · by_cases hh : t.data.toList.head? = some 45 <;> by_cases hd : dropD (bodyD t.data.toList) = []
            · exact rdec_10N t s way w hsz hs hw hh hd h30 hnum
            · exact rdec_11N t s way w hsz hs hw hh hd h30 hnum
            · exact rdec_00N t s way w hsz hs hw hh hd h30 hnum
            · exact rdec_01N t s way w hsz hs hw hh hd h30 hnum
        · by_cases hh : t.data.toList.head? = some 45 <;> by_cases hd : dropD (bodyD t.data.toList) = []
          · exact rdec_10L t s way w hsz hs hw hh hd (by omega)
          · exact rdec_11L t s way w hsz hs hw hh hd (by omega)
          · exact rdec_00L t s way w hsz hs hw hh hd (by omega)
          · exact rdec_01L t s way w hsz hs hw hh hd (by omega)
    · have e0 := rcF_way (l := t.data.toList) hs hw
      have e1 : rcV t.data.toList s way = 0 := by unfold rcV; rw [e0]; rfl
      rw [e0, e1]
      have hw2 : way < 1 ∨ 3 < way := by omega
      have HS := Lib.hid hs; have HW := Lib.hid hw2
      clear hs hw hw2 e0 e1 htl
      go_enter Tryz.func6, Tryz.ntmps6
      go_wp2_with fail
      refine (isScale_yes _ _ HS.out).mono ?_; rintro e w' ⟨rfl, rfl⟩
      go_wp2_with fail
      refine (isWay_no _ _ HW.out).mono ?_; rintro e w' ⟨rfl, rfl⟩
      go_wp2_with fail
      go_ret2
      exact ⟨rfl, 0, rfl⟩
  · have e0 := rcF_scale (l := t.data.toList) (way := way) hs
    have e1 : rcV t.data.toList s way = 0 := by unfold rcV; rw [e0]; rfl
    rw [e0, e1]
    have HS := Lib.hid hs
    clear hs e0 e1 htl
    go_enter Tryz.func6, Tryz.ntmps6
    go_wp2_with fail
    refine (isScale_no _ _ HS.out).mono ?_; rintro e w' ⟨rfl, rfl⟩
    go_wp2_with fail
    go_ret2
    exact ⟨rfl, 0, rfl⟩


end Go.Proofs.YtppaklifacadpaaGreatDoor
