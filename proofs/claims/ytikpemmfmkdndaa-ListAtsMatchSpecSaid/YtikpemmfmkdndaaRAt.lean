/- The length of a playlist; At, StartAt (reference). -/
import Derived.Test.YtikpemmfmkdndaaRChkL
import Derived.Test.YtikpemmfmkdndaaStartAt
namespace Go.Proofs.Ytikpemmfmkdndaa
set_option linter.unusedVariables false
set_option linter.unusedSimpArgs false
open Go.RowKit Go.Shelf Go.Deep

set_option maxRecDepth 100000 in
set_option maxHeartbeats 8000000 in
theorem rlength_any (tg fi bk : Int) (a : Option Addr) (n cap : Nat) (en : Bool) (es : List Ent) (Us : Nat → Value) (w : World) (hE : EntsU w (.slice a n cap) es Us) (hL : LIM es n) :
    Calls Try.prog 42 #[.agg #[.int .i64 tg, .int .i64 fi, .int .i64 bk, .slice a n cap, .bool en]] w fun e w' => e = .returned (.int .i64 (lenTo es n)) ∧ Below w.heap.size w w' := by
  have FX := LBox.new w tg fi bk (.slice a n cap) en 24
  have b1 : Below w.heap.size w (w.alloc (.cells #[.int .i64 tg, .int .i64 fi, .int .i64 bk, .slice a n cap, .bool en] 24)) := (Below.refl _ w).alloc (Nat.le_refl _) _
  have HLM := Lib.hid hL.2.2
  have HBD : Hid (∀ k, k ≤ n → (k : Int) ≤ lenTo es k ∧ lenTo es k ≤ k * 3600000) := Lib.hid (lenTo_bd hL)
  have hn5 := hL.2.1
  have HN := Lib.hid hL.1.symm
  have HEN := Lib.hid hE
  clear hE hL
  go_enter Try.func42, Try.ntmps42
  go_upto_region 1 with fail
  generalize w.alloc (.cells #[.int .i64 tg, .int .i64 fi, .int .i64 bk, .slice a n cap, .bool en] 24) = W at *
  go_wp2_with fail
  go_loopw [3, 4] (fun v3 v4 wr => ∃ k : Nat, k ≤ n ∧ v4 = .int .i64 k ∧ v3 = .int .i64 (lenTo es k) ∧ W = wr) (fun _ v4 _ => n - (intOf v4).toNat)
  case atStart => exact ⟨0, Nat.zero_le _, rfl, rfl, rfl⟩
  case round =>
    obtain ⟨k, hk, rfl, rfl, rfl⟩ := hrel
    have k3 := FX.c3; have kl := FX.lt
    have hbr := b1
    by_cases hk2 : k < n
    rotate_left
    · obtain rfl : k = n := by omega
      have kD : decide ((k : Int) < (k : Int)) = false := by simp
      have kD2 : decide (k < k) = false := by simp
      clear hk2
      go_wp2_with fail
      go_ret
      exact ⟨rfl, b1⟩
    · have hEW := HEN.out.below hbr (Nat.le_refl _)
      obtain ⟨b, off, cap', hv, hlt, -, -⟩ := hEW.spot (by rw [HN.out]; omega)
      simp only [Value.slice.injEq] at hv
      obtain ⟨rfl, -, rfl⟩ := hv
      obtain ⟨-, c1, -, -, -, -, -⟩ := hEW.cells k (by rw [HN.out]; exact hk2)
      obtain ⟨x, hx⟩ : ∃ x, es.getD k ent0 = x := ⟨_, rfl⟩
      rw [hx] at c1
      have hmi := HLM.out k hk2
      have emi : miAt es k = x.mi := by rw [miAt, hx]
      rw [emi] at hmi
      have kI : (k : Int) < (n : Int) := by omega
      have hbd := HBD.out k (by omega)
      obtain ⟨S, hS⟩ : ∃ S, lenTo es k = S := ⟨_, rfl⟩
      rw [hS] at hbd ⊢
      have HS1 : Hid (lenTo es (k + 1) = S + x.mi) := Lib.hid (by rw [lenTo, hS, emi])
      have wS : IntKind.i64.wrap (S + x.mi) = S + x.mi := IntWalk.i64_in _ ⟨by omega, by omega⟩
      have hwI : IntKind.i64.wrap ((k : Int) + 1) = (k : Int) + 1 := IntWalk.i64_in _ ⟨by omega, by omega⟩
      clear hx hEW hS emi
      go_wp2_with fail
      go_roundw
      case rel => exact ⟨k + 1, by omega, by go_num, by rw [HS1.out], trivial⟩
      case measure => simp [intOf]; omega
set_option maxRecDepth 100000 in
set_option maxHeartbeats 8000000 in
theorem rplace_any (tg fi bk : Int) (a : Option Addr) (n cap : Nat) (en : Bool) (es : List Ent) (Us : Nat → Value) (m : Int) (w : World) (hE : EntsU w (.slice a n cap) es Us) (hL : LIM es n) (hm0 : 0 ≤ m) (hm1 : m < lenTo es n) :
    Calls Try.prog 43 #[.agg #[.int .i64 tg, .int .i64 fi, .int .i64 bk, .slice a n cap, .bool en], .int .i64 m] w fun e w' => e = .returned (.tuple #[.int .i64 (plc es m : Int), .int .i64 (m - lenTo es (plc es m))]) ∧ Below w.heap.size w w' := by
  have FX := LBox.new w tg fi bk (.slice a n cap) en 24
  have b1 : Below w.heap.size w (w.alloc (.cells #[.int .i64 tg, .int .i64 fi, .int .i64 bk, .slice a n cap, .bool en] 24)) := (Below.refl _ w).alloc (Nat.le_refl _) _
  have HLM := Lib.hid hL.2.2
  have HBD : Hid (∀ k, k ≤ n → (k : Int) ≤ lenTo es k ∧ lenTo es k ≤ k * 3600000) := Lib.hid (lenTo_bd hL)
  have hn5 := hL.2.1
  have HN := Lib.hid hL.1.symm
  have HEN := Lib.hid hE
  have hmx : m ≤ 3600000000 := by have := HBD.out n (Nat.le_refl _); omega
  have HPL : Hid (∀ k, k < n → (∀ i, i < k → lenTo es (i + 1) ≤ m) → ¬ lenTo es (k + 1) ≤ m → plc es m = k) := Lib.hid (fun k hk hp hnp => plc_at hL.1 hk hp hnp)
  have HM1 := Lib.hid hm1
  have hn0 : 0 < n := by
    by_cases h : n = 0
    · subst h; rw [lenTo] at hm1; omega
    · omega
  obtain ⟨PL, hPL⟩ : ∃ PL, plc es m = PL := ⟨_, rfl⟩
  rw [hPL] at HPL ⊢
  obtain ⟨PR, hPR⟩ : ∃ PR, m - lenTo es PL = PR := ⟨_, rfl⟩
  rw [hPR]
  have HPR := Lib.hid hPR
  clear hE hL hm1 hPL hPR
  go_enter Try.func43, Try.ntmps43
  go_upto_region 1 with fail
  generalize w.alloc (.cells #[.int .i64 tg, .int .i64 fi, .int .i64 bk, .slice a n cap, .bool en] 24) = W at *
  go_wp2_with fail
  go_loopw [1, 6] (fun v1 v6 wr => ∃ (k : Nat) (r : Int), k < n ∧ v6 = .int .i64 k ∧ v1 = .int .i64 r ∧ Hid (r = m - lenTo es k) ∧ 0 ≤ r ∧ r ≤ m ∧ Hid (∀ i, i < k → lenTo es (i + 1) ≤ m) ∧ W = wr) (fun _ v6 _ => n - (intOf v6).toNat)
  case atStart => exact ⟨0, m, hn0, rfl, rfl, Lib.hid (by rw [lenTo]; omega), hm0, Int.le_refl _, Lib.hid (fun i hi => by omega), rfl⟩
  case round =>
    obtain ⟨k, r, hk2, rfl, rfl, HR, hr0, hrm, HP, rfl⟩ := hrel
    have k3 := FX.c3; have kl := FX.lt
    have hbr := b1
    have hEW := HEN.out.below hbr (Nat.le_refl _)
    obtain ⟨b, off, cap', hv, hlt, -, -⟩ := hEW.spot (by rw [HN.out]; omega)
    simp only [Value.slice.injEq] at hv
    obtain ⟨rfl, -, rfl⟩ := hv
    obtain ⟨-, c1, -, -, -, -, -⟩ := hEW.cells k (by rw [HN.out]; exact hk2)
    obtain ⟨x, hx⟩ : ∃ x, es.getD k ent0 = x := ⟨_, rfl⟩
    rw [hx] at c1
    have hmi := HLM.out k hk2
    have emi : miAt es k = x.mi := by rw [miAt, hx]
    rw [emi] at hmi
    have kI : (k : Int) < (n : Int) := by omega
    have HS1 : Hid (lenTo es (k + 1) = lenTo es k + x.mi) := Lib.hid (by rw [lenTo, emi])
    have wk1 : IntKind.i64.wrap ((k : Int) + 1) = (k : Int) + 1 := IntWalk.i64_in _ ⟨by omega, by omega⟩
    clear hx hEW emi
    by_cases hrx : x.mi ≤ r
    rotate_left
    · have hd := decide_eq_false hrx
      have e2 := HPL.out k hk2 HP.out (by have := HS1.out; have := HR.out; omega)
      have e4 : PR = r := by rw [← HPR.out, e2, HR.out]
      subst e2 e4
      clear hrx
      go_wp2_with fail
      refine bodyPost_ret (by simp [results, Try.results43, go_sem]; try rfl) rfl ?_
      exact ⟨rfl, b1⟩
    · have hd := decide_eq_true hrx
      have wr1 : IntKind.i64.wrap (r - x.mi) = r - x.mi := IntWalk.i64_in _ ⟨by omega, by omega⟩
      have HR2 : Hid (r - x.mi = m - lenTo es (k + 1)) := Lib.hid (by rw [HS1.out, HR.out]; omega)
      have HP2 : Hid (∀ i, i < k + 1 → lenTo es (i + 1) ≤ m) := Lib.hid (fun i hi => by
        by_cases e : i = k
        · subst e; have := HS1.out; have := HR.out; omega
        · exact HP.out i (by omega))
      have hk3 : k + 1 < n := by
        by_cases e : k + 1 = n
        · have h5 := HM1.out
          have h6 := HS1.out
          have h7 := HR.out
          rw [e] at h6
          omega
        · omega
      have q0 : 0 ≤ r - x.mi := by omega
      have q1 : r - x.mi ≤ m := by omega
      clear hrx
      go_wp2_with fail
      go_roundw
      case rel => exact ⟨k + 1, r - x.mi, hk3, by go_num, rfl, HR2, q0, q1, HP2, trivial⟩
      case measure => simp [intOf]; omega
set_option maxRecDepth 100000 in
set_option maxHeartbeats 8000000 in
theorem rAt_walk (tg fi bk : Int) (a : Option Addr) (n cap : Nat) (en : Bool) (es : List Ent) (Us : Nat → Value) (m : Int) (w : World) (hE : EntsU w (.slice a n cap) es Us) (hn : es.length = n) (hwf : ∀ y ∈ es, EntWf y) :
    Calls Try.prog 13 #[.agg #[.int .i64 tg, .int .i64 fi, .int .i64 bk, .slice a n cap, .bool en], .int .i64 m] w fun e w' => e = .returned (.tuple #[.int .i64 (atP ⟨tg, fi, bk, es, en⟩ m), .int .i64 (atR ⟨tg, fi, bk, es, en⟩ m), .int .i64 (atF ⟨tg, fi, bk, es, en⟩ m)]) ∧ Below w.heap.size w w' := by
  have FX := LBox.new w tg fi bk (.slice a n cap) en 24
  have b1 : Below w.heap.size w (w.alloc (.cells #[.int .i64 tg, .int .i64 fi, .int .i64 bk, .slice a n cap, .bool en] 24)) := (Below.refl _ w).alloc (Nat.le_refl _) _
  have HC : Hid (∀ W, Below w.heap.size w W → Calls Try.prog 41 #[.agg #[.int .i64 tg, .int .i64 fi, .int .i64 bk, .slice a n cap, .bool en]] W fun r w' => r = .returned (.int .i64 (lstF ⟨tg, fi, bk, es, en⟩)) ∧ Below W.heap.size W w') := Lib.hid (fun W hb => rchkL_walk tg fi bk _ en es Us W (hE.below hb (Nat.le_refl _)) hwf)
  have HLN : Hid (lstF ⟨tg, fi, bk, es, en⟩ = 0 → ∀ W, Below w.heap.size w W → Calls Try.prog 42 #[.agg #[.int .i64 tg, .int .i64 fi, .int .i64 bk, .slice a n cap, .bool en]] W fun e w' => e = .returned (.int .i64 (lenTo es n)) ∧ Below W.heap.size W w') := Lib.hid (fun h0 W hb => rlength_any tg fi bk a n cap en es Us W (hE.below hb (Nat.le_refl _)) (by have := ((lstF_zero _).1 h0).lim; rw [← hn]; exact this))
  have HPC : Hid (lstF ⟨tg, fi, bk, es, en⟩ = 0 → 0 ≤ m → m < lenTo es n → ∀ W, Below w.heap.size w W → Calls Try.prog 43 #[.agg #[.int .i64 tg, .int .i64 fi, .int .i64 bk, .slice a n cap, .bool en], .int .i64 m] W fun e w' => e = .returned (.tuple #[.int .i64 (atP ⟨tg, fi, bk, es, en⟩ m), .int .i64 (atR ⟨tg, fi, bk, es, en⟩ m)]) ∧ Below W.heap.size W w') := Lib.hid (fun h0 g0 g1 W hb => by
    obtain ⟨f1, f2, f3⟩ := at_in h0 g0 (show m < lenTo es es.length by rw [hn]; exact g1)
    rw [f2, f3]
    exact rplace_any tg fi bk a n cap en es Us m W (hE.below hb (Nat.le_refl _)) (by have := ((lstF_zero _).1 h0).lim; rw [← hn]; exact this) g0 g1)
  have HF0 : Hid (lstF ⟨tg, fi, bk, es, en⟩ ≠ 0 → atF ⟨tg, fi, bk, es, en⟩ m = lstF ⟨tg, fi, bk, es, en⟩ ∧ atP ⟨tg, fi, bk, es, en⟩ m = 0 ∧ atR ⟨tg, fi, bk, es, en⟩ m = 0) := Lib.hid (fun h => by
    have e : atF ⟨tg, fi, bk, es, en⟩ m = lstF ⟨tg, fi, bk, es, en⟩ := by rw [atF, if_neg h]
    exact ⟨e, atP_fault (by rw [e]; exact h), atR_fault (by rw [e]; exact h)⟩)
  have HF1 : Hid (lstF ⟨tg, fi, bk, es, en⟩ = 0 → m < 0 → atF ⟨tg, fi, bk, es, en⟩ m = 1 ∧ atP ⟨tg, fi, bk, es, en⟩ m = 0 ∧ atR ⟨tg, fi, bk, es, en⟩ m = 0) := Lib.hid (fun h hm => by
    have e : atF ⟨tg, fi, bk, es, en⟩ m = 1 := by rw [atF_case h, if_pos hm]
    exact ⟨e, atP_fault (by rw [e]; decide), atR_fault (by rw [e]; decide)⟩)
  have HF9 : Hid (lstF ⟨tg, fi, bk, es, en⟩ = 0 → ¬ m < 0 → lenTo es n ≤ m → atF ⟨tg, fi, bk, es, en⟩ m = 9 ∧ atP ⟨tg, fi, bk, es, en⟩ m = 0 ∧ atR ⟨tg, fi, bk, es, en⟩ m = 0) := Lib.hid (fun h hm h9 => by
    have e : atF ⟨tg, fi, bk, es, en⟩ m = 9 := by rw [atF_case h, if_neg hm]; show (if lenTo es es.length ≤ m then (9 : Int) else 0) = 9; rw [hn, if_pos h9]
    exact ⟨e, atP_fault (by rw [e]; decide), atR_fault (by rw [e]; decide)⟩)
  have HFZ : Hid (lstF ⟨tg, fi, bk, es, en⟩ = 0 → ¬ m < 0 → ¬ lenTo es n ≤ m → atF ⟨tg, fi, bk, es, en⟩ m = 0) := Lib.hid (fun h hm h9 => by
    rw [atF_case h, if_neg hm]; show (if lenTo es es.length ≤ m then (9 : Int) else 0) = 0; rw [hn, if_neg h9])
  obtain ⟨AF, hAF⟩ : ∃ AF, atF ⟨tg, fi, bk, es, en⟩ m = AF := ⟨_, rfl⟩
  obtain ⟨AP, hAP⟩ : ∃ AP, atP ⟨tg, fi, bk, es, en⟩ m = AP := ⟨_, rfl⟩
  obtain ⟨AR, hAR⟩ : ∃ AR, atR ⟨tg, fi, bk, es, en⟩ m = AR := ⟨_, rfl⟩
  obtain ⟨LF, hLF⟩ : ∃ LF, lstF ⟨tg, fi, bk, es, en⟩ = LF := ⟨_, rfl⟩
  obtain ⟨LN, hLN⟩ : ∃ LN, lenTo es n = LN := ⟨_, rfl⟩
  rw [hAF, hAP, hAR, hLF] at HF0 HF1
  rw [hAF, hAP, hAR, hLF, hLN] at HF9
  rw [hAF, hLF, hLN] at HFZ
  rw [hAP, hAR, hLF, hLN] at HPC
  rw [hLF, hLN] at HLN
  rw [hLF] at HC
  rw [hAF, hAP, hAR]
  clear hE hn hwf hAF hAP hAR hLF hLN
  go_enter Try.func13, Try.ntmps13
  go_upto_region 1 with fail
  generalize w.alloc (.cells #[.int .i64 tg, .int .i64 fi, .int .i64 bk, .slice a n cap, .bool en] 24) = W at *
  have k0 := FX.c0; have k1 := FX.c1; have k2 := FX.c2; have k3 := FX.c3; have k4 := FX.c4; have kl := FX.lt
  go_wp2_with fail
  refine (HC.out _ b1).mono ?_; rintro e w1 ⟨rfl, b2⟩
  have FX := FX.below b2 FX.lt
  have b1 := b1.trans (b2.mono b1.size)
  clear k0 k1 k2 k3 k4 kl b2 HC
  by_cases hz : LF = 0
  rotate_left
  · have hne : (LF == 0) = false := by simp; exact hz
    have hne2 : (LF != 0) = true := by simp; exact hz
    obtain ⟨e0, e1, e2⟩ := HF0.out hz
    subst e0 e1 e2
    clear hz
    go_wp2_with fail
    refine bodyPost_ret (by simp [results, Try.results13, go_sem]; try rfl) rfl ?_
    exact ⟨rfl, b1⟩
  · by_cases hm0 : m < 0
    · have hd := decide_eq_true hm0
      obtain ⟨e0, e1, e2⟩ := HF1.out hz (by omega)
      subst e0 e1 e2 hz
      clear hm0
      go_wp2_with fail
      refine bodyPost_ret (by simp [results, Try.results13, go_sem]; try rfl) rfl ?_
      exact ⟨rfl, b1⟩
    · have hd := decide_eq_false hm0
      have HLW := Lib.hid (HLN.out hz)
      have k0 := FX.c0; have k1 := FX.c1; have k2 := FX.c2; have k3 := FX.c3; have k4 := FX.c4; have kl := FX.lt
      have HF9' := Lib.hid (HF9.out hz (by omega)); have HFZ' := Lib.hid (HFZ.out hz (by omega)); have HPC' := Lib.hid (HPC.out hz (by omega))
      subst hz
      clear hm0 HF0 HF1 HF9 HFZ HPC HLN
      go_wp2_with fail
      refine (HLW.out _ b1).mono ?_; rintro e w3 ⟨rfl, b3⟩
      have FX := FX.below b3 FX.lt
      have b1 := b1.trans (b3.mono b1.size)
      clear k0 k1 k2 k3 k4 kl b3 HLW
      by_cases h9 : LN ≤ m
      · have hd9 := decide_eq_true h9
        obtain ⟨e0, e1, e2⟩ := HF9'.out (by omega)
        subst e0 e1 e2
        clear h9
        go_wp2_with fail
        refine bodyPost_ret (by simp [results, Try.results13, go_sem]; try rfl) rfl ?_
        exact ⟨rfl, b1⟩
      · have hd9 := decide_eq_false h9
        have e0 := HFZ'.out (by omega)
        have HPW := Lib.hid (HPC'.out (by omega))
        subst e0
        have k0 := FX.c0; have k1 := FX.c1; have k2 := FX.c2; have k3 := FX.c3; have k4 := FX.c4; have kl := FX.lt
        clear h9 HPC' HF9' HFZ'
        go_wp2_with fail
        refine (HPW.out _ b1).mono ?_; rintro e w5 ⟨rfl, b5⟩
        go_wp2_with fail
        refine bodyPost_ret (by simp [results, Try.results13, go_sem]; try rfl) rfl ?_
        exact ⟨rfl, b1.trans (b5.mono b1.size)⟩
set_option maxRecDepth 100000 in
set_option maxHeartbeats 8000000 in
theorem rstartAt_any (tg fi bk : Int) (a : Option Addr) (n cap : Nat) (en : Bool) (es : List Ent) (Us : Nat → Value) (b : Int) (w : World) (hE : EntsU w (.slice a n cap) es Us) (hn : es.length = n) (h0 : saF ⟨tg, fi, bk, es, en⟩ b = 0) :
    Calls Try.prog 47 #[.agg #[.int .i64 tg, .int .i64 fi, .int .i64 bk, .slice a n cap, .bool en], .int .i64 b] w fun e w' => e = .returned (.tuple #[.int .i64 (saP ⟨tg, fi, bk, es, en⟩ b), .int .i64 (saR ⟨tg, fi, bk, es, en⟩ b)]) ∧ Below w.heap.size w w' := by
  have hok := sa_ok h0
  have hL : LIM es n := by have := ((lstF_zero _).1 hok.lst).lim; rw [← hn]; exact this
  have hb := hok.b
  have hn0 : 0 < n := by have := hok.n; rw [← hn]; exact this
  have FX := LBox.new w tg fi bk (.slice a n cap) en 24
  have b1 : Below w.heap.size w (w.alloc (.cells #[.int .i64 tg, .int .i64 fi, .int .i64 bk, .slice a n cap, .bool en] 24)) := (Below.refl _ w).alloc (Nat.le_refl _) _
  have HLW : Hid (∀ W, Below w.heap.size w W → Calls Try.prog 42 #[.agg #[.int .i64 tg, .int .i64 fi, .int .i64 bk, .slice a n cap, .bool en]] W fun e w' => e = .returned (.int .i64 (lenTo es n)) ∧ Below W.heap.size W w') := Lib.hid (fun W hb => rlength_any tg fi bk a n cap en es Us W (hE.below hb (Nat.le_refl _)) hL)
  have HFR : Hid (en = true ∨ lenTo es n - b < 0 → saP ⟨tg, fi, bk, es, en⟩ b = 0 ∧ saR ⟨tg, fi, bk, es, en⟩ b = 0) := Lib.hid (fun h => sa_front (by rw [saM]; show en = true ∨ lenTo es es.length - b < 0; rw [hn]; exact h))
  have HZ : Hid (¬ (en = true ∨ lenTo es n - b < 0) → b = 0 → saP ⟨tg, fi, bk, es, en⟩ b = (n : Int) - 1 ∧ saR ⟨tg, fi, bk, es, en⟩ b = miAt es (n - 1)) := Lib.hid (fun h hb => by
    have := sa_zero h0 (by rw [saM]; show ¬ (en = true ∨ lenTo es es.length - b < 0); rw [hn]; exact h) hb
    rw [← hn]; exact this)
  have HPC : Hid (¬ (en = true ∨ lenTo es n - b < 0) → b ≠ 0 → ∀ W, Below w.heap.size w W → Calls Try.prog 43 #[.agg #[.int .i64 tg, .int .i64 fi, .int .i64 bk, .slice a n cap, .bool en], .int .i64 (lenTo es n - b)] W fun e w' => e = .returned (.tuple #[.int .i64 (saP ⟨tg, fi, bk, es, en⟩ b), .int .i64 (saR ⟨tg, fi, bk, es, en⟩ b)]) ∧ Below W.heap.size W w') := Lib.hid (fun h hb W hw => by
    have e : saM ⟨tg, fi, bk, es, en⟩ b = lenTo es n - b := by rw [saM]; show lenTo es es.length - b = _; rw [hn]
    obtain ⟨e1, e2, e3, e4⟩ := sa_at h0 (by rw [e]; exact h) hb
    rw [e1, e2, e]
    rw [e] at e3 e4
    exact rplace_any tg fi bk a n cap en es Us _ W (hE.below hw (Nat.le_refl _)) hL e3 (by rw [← hn] at e4 ⊢; exact e4))
  obtain ⟨SP, hSP⟩ : ∃ SP, saP ⟨tg, fi, bk, es, en⟩ b = SP := ⟨_, rfl⟩
  obtain ⟨SR, hSR⟩ : ∃ SR, saR ⟨tg, fi, bk, es, en⟩ b = SR := ⟨_, rfl⟩
  have hbd := lenTo_bd hL n (Nat.le_refl _)
  have hn5 := hL.2.1
  obtain ⟨LN, hLN⟩ : ∃ LN, lenTo es n = LN := ⟨_, rfl⟩
  rw [hSP, hSR, hLN] at HFR HPC HZ
  rw [hLN] at HLW hbd
  rw [hSP, hSR]
  have HN := Lib.hid hn
  have HEN := Lib.hid hE
  have wm : IntKind.i64.wrap (LN - b) = LN - b := IntWalk.i64_in _ ⟨by omega, by omega⟩
  clear hE hn hSP hSR hLN hL h0 hok
  go_enter Try.func47, Try.ntmps47
  go_upto_region 1 with fail
  generalize w.alloc (.cells #[.int .i64 tg, .int .i64 fi, .int .i64 bk, .slice a n cap, .bool en] 24) = W at *
  have k0 := FX.c0; have k1 := FX.c1; have k2 := FX.c2; have k3 := FX.c3; have k4 := FX.c4; have kl := FX.lt
  go_wp2_with fail
  refine (HLW.out _ b1).mono ?_; rintro e w3 ⟨rfl, b3⟩
  have FX := FX.below b3 FX.lt
  have b1 := b1.trans (b3.mono b1.size)
  clear k0 k1 k2 k3 k4 kl b3 HLW
  have k0 := FX.c0; have k1 := FX.c1; have k2 := FX.c2; have k3 := FX.c3; have k4 := FX.c4; have kl := FX.lt
  obtain ⟨M, hM⟩ : ∃ M, LN - b = M := ⟨_, rfl⟩
  rw [hM] at HZ HPC HFR
  replace wm := wm.trans hM
  have wm2 : wrap64 (LN - b) = M := by rw [← IntWalk.i64_left]; exact wm
  cases en
  rotate_left
  · obtain ⟨e1, e2⟩ := HFR.out (.inl rfl)
    subst e1 e2
    go_wp2_with fail
    refine bodyPost_ret (by simp [results, Try.results47, go_sem]; try rfl) rfl ?_
    exact ⟨rfl, b1⟩
  · by_cases hneg : M < 0
    · obtain ⟨e1, e2⟩ := HFR.out (.inr hneg)
      have hd := decide_eq_true hneg
      subst e1 e2
      clear hneg
      go_wp2_with fail
      refine bodyPost_ret (by simp [results, Try.results47, go_sem]; try rfl) rfl ?_
      exact ⟨rfl, b1⟩
    · have hd := decide_eq_false hneg
      by_cases hb0 : b = 0
      · obtain ⟨e1, e2⟩ := HZ.out (by rintro (h | h); cases h; exact hneg h) hb0
        have z1 : (b == 0) = true := by simp; exact hb0
        have hbr := b1
        have hEW := HEN.out.below hbr (Nat.le_refl _)
        obtain ⟨bb, off, cap', hv, hlt, -, -⟩ := hEW.spot (by rw [HN.out]; omega)
        simp only [Value.slice.injEq] at hv
        obtain ⟨rfl, -, rfl⟩ := hv
        obtain ⟨-, c1, -, -, -, -, -⟩ := hEW.cells (n - 1) (by rw [HN.out]; omega)
        replace c1 : w3.cell? ⟨bb, off + (n - 1) * 7 + 1, none⟩ = some (.int .i64 (miAt es (n - 1))) := c1
        obtain ⟨y, hy⟩ : ∃ y, miAt es (n - 1) = y := ⟨_, rfl⟩
        rw [hy] at c1 e2
        have hblt := hlt
        have j1 : (1 : Int) ≤ (n : Int) := by omega
        have j2 : (0 : Int) ≤ (n : Int) - 1 := by omega
        have j3 : (n : Int) - 1 < (n : Int) := by omega
        have j4 : ((n : Int) - 1).toNat = n - 1 := by omega
        have j5 : IntKind.i64.wrap ((n : Int) - 1) = (n : Int) - 1 := IntWalk.i64_in _ ⟨by omega, by omega⟩
        subst e1 e2
        clear hneg hb0 hEW hy hbd hM
        go_upto_region 6 with fail
        go_quiet (fail)
        go_wp2_with fail
        refine bodyPost_ret (by simp [results, Try.results47, go_sem]; try rfl) rfl ?_
        exact ⟨rfl, below_drewN b1 nq⟩
      · have HPW := Lib.hid (HPC.out (by rintro (h | h); cases h; exact hneg h) hb0)
        have z1 : (b == 0) = false := by simp; exact hb0
        clear hneg hb0 hbd hM HPC HZ HFR
        go_wp2_with fail
        refine (HPW.out _ b1).mono ?_; rintro e w5 ⟨rfl, b5⟩
        go_wp2_with fail
        refine bodyPost_ret (by simp [results, Try.results47, go_sem]; try rfl) rfl ?_
        exact ⟨rfl, b1.trans (b5.mono b1.size)⟩
set_option maxRecDepth 100000 in
set_option maxHeartbeats 8000000 in
theorem rStartAt_walk (tg fi bk : Int) (a : Option Addr) (n cap : Nat) (en : Bool) (es : List Ent) (Us : Nat → Value) (b : Int) (w : World) (hE : EntsU w (.slice a n cap) es Us) (hn : es.length = n) (hwf : ∀ y ∈ es, EntWf y) :
    Calls Try.prog 15 #[.agg #[.int .i64 tg, .int .i64 fi, .int .i64 bk, .slice a n cap, .bool en], .int .i64 b] w fun e w' => e = .returned (.tuple #[.int .i64 (saP ⟨tg, fi, bk, es, en⟩ b), .int .i64 (saR ⟨tg, fi, bk, es, en⟩ b), .int .i64 (saF ⟨tg, fi, bk, es, en⟩ b)]) ∧ Below w.heap.size w w' := by
  have FX := LBox.new w tg fi bk (.slice a n cap) en 24
  have b1 : Below w.heap.size w (w.alloc (.cells #[.int .i64 tg, .int .i64 fi, .int .i64 bk, .slice a n cap, .bool en] 24)) := (Below.refl _ w).alloc (Nat.le_refl _) _
  have HC : Hid (∀ W, Below w.heap.size w W → Calls Try.prog 41 #[.agg #[.int .i64 tg, .int .i64 fi, .int .i64 bk, .slice a n cap, .bool en]] W fun r w' => r = .returned (.int .i64 (lstF ⟨tg, fi, bk, es, en⟩)) ∧ Below W.heap.size W w') := Lib.hid (fun W hb => rchkL_walk tg fi bk _ en es Us W (hE.below hb (Nat.le_refl _)) hwf)
  have HT : Hid (∀ W, Calls Try.prog 46 #[.int .i64 b, .int .i64 0, .int .i64 1000000000000000] W fun e w' => e = .returned (.bool (inB b 0 1000000000000000)) ∧ W = w') := Lib.hid (fun W => rwithin6_any _ _ _ W)
  have HSA : Hid (saF ⟨tg, fi, bk, es, en⟩ b = 0 → ∀ W, Below w.heap.size w W → Calls Try.prog 47 #[.agg #[.int .i64 tg, .int .i64 fi, .int .i64 bk, .slice a n cap, .bool en], .int .i64 b] W fun e w' => e = .returned (.tuple #[.int .i64 (saP ⟨tg, fi, bk, es, en⟩ b), .int .i64 (saR ⟨tg, fi, bk, es, en⟩ b)]) ∧ Below W.heap.size W w') := Lib.hid (fun h0 W hb => rstartAt_any tg fi bk a n cap en es Us b W (hE.below hb (Nat.le_refl _)) hn h0)
  have hf := sa_first ⟨tg, fi, bk, es, en⟩ b
  have HBAD : Hid (saF ⟨tg, fi, bk, es, en⟩ b ≠ 0 → saP ⟨tg, fi, bk, es, en⟩ b = 0 ∧ saR ⟨tg, fi, bk, es, en⟩ b = 0) := Lib.hid sa_bad
  have hef : (((⟨tg, fi, bk, es, en⟩ : Lst).es.length : Int) == 0) = ((n : Int) == 0) := by rw [← hn]
  rw [hef] at hf
  obtain ⟨SF, hSF⟩ : ∃ SF, saF ⟨tg, fi, bk, es, en⟩ b = SF := ⟨_, rfl⟩
  obtain ⟨SP, hSP⟩ : ∃ SP, saP ⟨tg, fi, bk, es, en⟩ b = SP := ⟨_, rfl⟩
  obtain ⟨SR, hSR⟩ : ∃ SR, saR ⟨tg, fi, bk, es, en⟩ b = SR := ⟨_, rfl⟩
  obtain ⟨LF, hLF⟩ : ∃ LF, lstF ⟨tg, fi, bk, es, en⟩ = LF := ⟨_, rfl⟩
  obtain ⟨T, hT⟩ : ∃ T, inB b 0 1000000000000000 = T := ⟨_, rfl⟩
  obtain ⟨E0, hE0⟩ : ∃ E0, ((n : Int) == 0) = E0 := ⟨_, rfl⟩
  rw [hSF, hSP, hSR] at HBAD HSA
  rw [hLF] at HC
  rw [hT] at HT
  rw [hSF, hLF, hT, hE0] at hf
  rw [hSF, hSP, hSR]
  have HF := Lib.hid hf
  clear hE hn hwf hf hSF hSP hSR hLF hT hef
  go_enter Try.func15, Try.ntmps15
  go_upto_region 1 with fail
  generalize w.alloc (.cells #[.int .i64 tg, .int .i64 fi, .int .i64 bk, .slice a n cap, .bool en] 24) = W at *
  have k0 := FX.c0; have k1 := FX.c1; have k2 := FX.c2; have k3 := FX.c3; have k4 := FX.c4; have kl := FX.lt
  go_wp2_with fail
  refine (HC.out _ b1).mono ?_; rintro e w1 ⟨rfl, b2⟩
  have FX := FX.below b2 FX.lt
  have b1 := b1.trans (b2.mono b1.size)
  clear k0 k1 k2 k3 k4 kl b2 HC
  by_cases hz : LF = 0
  rotate_left
  · have hne : (LF == 0) = false := by simp; exact hz
    have hne2 : (LF != 0) = true := by simp; exact hz
    have e0 : SF = LF := by rw [HF.out]; simp [fstF, hz]
    obtain ⟨e1, e2⟩ := HBAD.out (by rw [e0]; exact hz)
    subst e0 e1 e2
    clear hz
    go_wp2_with fail
    refine bodyPost_ret (by simp [results, Try.results15, go_sem]; try rfl) rfl ?_
    exact ⟨rfl, b1⟩
  · subst hz
    go_wp2_with fail
    refine (HT.out _).mono ?_; rintro e w' ⟨rfl, rfl⟩
    cases T
    · have e0 : SF = 1 := HF.out
      obtain ⟨e1, e2⟩ := HBAD.out (by rw [e0]; decide)
      subst e0 e1 e2
      go_wp2_with fail
      refine bodyPost_ret (by simp [results, Try.results15, go_sem]; try rfl) rfl ?_
      exact ⟨rfl, b1⟩
    · have k3 := FX.c3; have kl := FX.lt
      cases E0
      rotate_left
      · have e0 : SF = 9 := HF.out
        obtain ⟨e1, e2⟩ := HBAD.out (by rw [e0]; decide)
        subst e0 e1 e2
        go_wp2_with fail
        refine bodyPost_ret (by simp [results, Try.results15, go_sem]; try rfl) rfl ?_
        exact ⟨rfl, b1⟩
      · have e0 : SF = 0 := HF.out
        have HW := Lib.hid (HSA.out e0)
        subst e0
        have k0 := FX.c0; have k1 := FX.c1; have k2 := FX.c2; have k4 := FX.c4
        clear HSA HBAD HF
        go_wp2_with fail
        refine (HW.out _ b1).mono ?_; rintro e w5 ⟨rfl, b5⟩
        go_wp2_with fail
        refine bodyPost_ret (by simp [results, Try.results15, go_sem]; try rfl) rfl ?_
        exact ⟨rfl, b1.trans (b5.mono b1.size)⟩

end Go.Proofs.Ytikpemmfmkdndaa
