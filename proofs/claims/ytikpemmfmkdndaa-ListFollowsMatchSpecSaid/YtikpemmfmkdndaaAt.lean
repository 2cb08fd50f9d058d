/- The length of a playlist; At, StartAt (program). -/
import Derived.Test.YtikpemmfmkdndaaChkL
import Derived.Test.YtikpemmfmkdndaaAtPlain
namespace Go.Proofs.Ytikpemmfmkdndaa
set_option linter.unusedVariables false
set_option linter.unusedSimpArgs false
open Go.RowKit Go.Shelf Go.Deep

set_option maxRecDepth 100000 in
set_option maxHeartbeats 8000000 in
theorem lengthOf_any (a : Option Addr) (n cap : Nat) (es : List Ent) (Us : Nat → Value) (w : World) (hE : EntsU w (.slice a n cap) es Us) (hL : LIM es n) :
    Calls Try.prog 45 #[.slice a n cap] w fun e w' => e = .returned (.int .i64 (lenTo es n)) ∧ Below w.heap.size w w' := by
  have HLM := Lib.hid hL.2.2
  have HBD : Hid (∀ k, k ≤ n → (k : Int) ≤ lenTo es k ∧ lenTo es k ≤ k * 3600000) := Lib.hid (lenTo_bd hL)
  have hn5 := hL.2.1
  have HN := Lib.hid hL.1.symm
  have HEN := Lib.hid hE
  clear hE hL
  go_enter Try.func45, Try.ntmps45
  go_wp2_with fail
  go_loopw [3, 8] (fun v3 v8 wr => ∃ k : Nat, k ≤ n ∧ v8 = .int .i64 k ∧ v3 = .int .i64 (lenTo es k) ∧ Below w.heap.size w wr) (fun _ v8 _ => n - (intOf v8).toNat)
  case atStart => exact ⟨0, Nat.zero_le _, rfl, rfl, Below.refl _ _⟩
  case round =>
    obtain ⟨k, hk, rfl, rfl, hbr⟩ := hrel
    by_cases hk2 : k < n
    rotate_left
    · obtain rfl : k = n := by omega
      have kD : decide ((k : Int) < (k : Int)) = false := by simp
      have kD2 : decide (k < k) = false := by simp
      clear hk2
      go_wp2_with fail
      go_ret
      exact ⟨rfl, hbr⟩
    · have hEW := HEN.out.below hbr (Nat.le_refl _)
      obtain ⟨b, off, cap', hv, hlt, -, -⟩ := hEW.spot (by rw [HN.out]; omega)
      simp only [Value.slice.injEq] at hv
      obtain ⟨rfl, -, rfl⟩ := hv
      obtain ⟨c0, c1, c2, c3, c4, c5, c6⟩ := hEW.cells k (by rw [HN.out]; exact hk2)
      obtain ⟨x, hx⟩ : ∃ x, es.getD k ent0 = x := ⟨_, rfl⟩
      obtain ⟨a6, c6', hu⟩ := (hEW.strs k (by rw [HN.out]; exact hk2)).parts
      rw [hx] at hu
      obtain ⟨l6, hl6⟩ : ∃ l6, x.ex.length = l6 := ⟨_, rfl⟩
      rw [hl6] at hu
      rw [hx] at c0 c1 c2 c3 c4 c5
      rw [hu] at c6
      have hmi := HLM.out k hk2
      have emi : miAt es k = x.mi := by rw [miAt, hx]
      rw [emi] at hmi
      have kI : (k : Int) < (n : Int) := by omega
      have hbd := HBD.out k (by omega)
      obtain ⟨S, hS⟩ : ∃ S, lenTo es k = S := ⟨_, rfl⟩
      rw [hS] at hbd ⊢
      have HS1 : Hid (lenTo es (k + 1) = S + x.mi) := Lib.hid (by rw [lenTo, hS, emi])
      have wS : IntKind.i64.wrap (S + x.mi) = S + x.mi := IntWalk.i64_in _ ⟨by omega, by omega⟩
      have hwI : IntKind.i64.wrap ((k : Int) + 1) = (k : Int) + 1 := IntWalk.i64_in _ ⟨by omega, by omega⟩
      have EX := EBox.new wr x (.slice a6 l6 c6') 32
      have hbr := hbr.alloc (o := .cells #[.string x.uri, .int .i64 x.mi, .bool x.br, .int .i64 x.da, .string x.key, .bool x.gap, .slice a6 l6 c6'] 32) hbr.size
      clear hx hu hEW hl6 hS emi
      go_upto_region 5 with fail
      generalize wr.alloc (.cells #[.string x.uri, .int .i64 x.mi, .bool x.br, .int .i64 x.da, .string x.key, .bool x.gap, .slice a6 l6 c6'] 32) = W9 at *
      generalize wr.heap.size = X9 at *
      clear c0 c1 c2 c3 c4 c5 c6
      have y1 := EX.c1; have yl := EX.lt
      clear EX
      go_wp2_with fail
      go_roundw
      case rel => exact ⟨k + 1, by omega, by go_num, by rw [HS1.out], hbr⟩
      case measure => simp [intOf]; omega
theorem atF_case {l : Lst} {m : Int} (h : lstF l = 0) : atF l m = if m < 0 then 1 else if lenTo l.es l.es.length ≤ m then 9 else 0 := by rw [atF, if_pos h]
theorem atP_fault {l : Lst} {m : Int} (h : atF l m ≠ 0) : atP l m = 0 := by rw [atP, if_neg h]
theorem atR_fault {l : Lst} {m : Int} (h : atF l m ≠ 0) : atR l m = 0 := by rw [atR, if_neg h]
theorem at_first (l : Lst) (m : Int) : (fstF [lstF l, fIf (decide (m < 0)) 1] ≠ 0 → atF l m = fstF [lstF l, fIf (decide (m < 0)) 1]) ∧ (fstF [lstF l, fIf (decide (m < 0)) 1] = 0 → lstF l = 0 ∧ 0 ≤ m) := by
  by_cases h : lstF l = 0
  · rw [atF_case h, h]
    by_cases hm : m < 0
    · simp [fstF, fIf, hm]
    · simp [fstF, fIf, hm]; omega
  · rw [atF, if_neg h]
    constructor
    · intro _; simp [fstF, h]
    · intro h2; rw [fstF_zero] at h2; exact absurd (h2 (lstF l) (by simp)) h
set_option maxRecDepth 100000 in
set_option maxHeartbeats 8000000 in
theorem At_walk (tg fi bk : Int) (a : Option Addr) (n cap : Nat) (en : Bool) (es : List Ent) (Us : Nat → Value) (m : Int) (w : World) (hE : EntsU w (.slice a n cap) es Us) (hn : es.length = n) (hwf : ∀ y ∈ es, EntWf y) (hm : m ≤ 9223372036854775807) :
    Calls Try.prog 12 #[.agg #[.int .i64 tg, .int .i64 fi, .int .i64 bk, .slice a n cap, .bool en], .int .i64 m] w fun e w' => e = .returned (.tuple #[.int .i64 (atP ⟨tg, fi, bk, es, en⟩ m), .int .i64 (atR ⟨tg, fi, bk, es, en⟩ m), .int .i64 (atF ⟨tg, fi, bk, es, en⟩ m)]) ∧ Below w.heap.size w w' := by
  have FX := LBox.new w tg fi bk (.slice a n cap) en 24
  have b1 : Below w.heap.size w (w.alloc (.cells #[.int .i64 tg, .int .i64 fi, .int .i64 bk, .slice a n cap, .bool en] 24)) := (Below.refl _ w).alloc (Nat.le_refl _) _
  have HC : Hid (∀ W, Below w.heap.size w W → Calls Try.prog 39 #[.agg #[.int .i64 tg, .int .i64 fi, .int .i64 bk, .slice a n cap, .bool en]] W fun r w' => r = .returned (.int .i64 (lstF ⟨tg, fi, bk, es, en⟩)) ∧ Below W.heap.size W w') := Lib.hid (fun W hb => chkL_walk tg fi bk _ en es Us W (hE.below hb (Nat.le_refl _)) hwf)
  have hf := at_first ⟨tg, fi, bk, es, en⟩ m
  have HAT : Hid (lstF ⟨tg, fi, bk, es, en⟩ = 0 → LIM es n ∧ (∀ k, k < n → 0 ≤ m → (∀ i, i < k → lenTo es (i + 1) ≤ m) → ¬ lenTo es (k + 1) ≤ m → atF ⟨tg, fi, bk, es, en⟩ m = 0 ∧ atP ⟨tg, fi, bk, es, en⟩ m = (k : Int) ∧ atR ⟨tg, fi, bk, es, en⟩ m = m - lenTo es k) ∧ (0 ≤ m → lenTo es n ≤ m → atF ⟨tg, fi, bk, es, en⟩ m = 9 ∧ atP ⟨tg, fi, bk, es, en⟩ m = 0 ∧ atR ⟨tg, fi, bk, es, en⟩ m = 0)) := Lib.hid (by
    intro h0
    have hL : LIM es n := by have := ((lstF_zero _).1 h0).lim; rw [← hn]; exact this
    refine ⟨hL, fun k hk h0m hp hnp => ?_, fun h0m h9 => ?_⟩
    · have e1 : atF ⟨tg, fi, bk, es, en⟩ m = 0 := by
        rw [atF_case h0, if_neg (by omega)]
        show (if lenTo es es.length ≤ m then (9 : Int) else 0) = 0
        rw [if_neg]
        have := lenTo_mono hL (i := k + 1) (j := n) (by omega) (by omega)
        rw [hn]; omega
      have e2 : plc es m = k := plc_at hn.symm hk hp hnp
      exact ⟨e1, by rw [atP, if_pos e1]; show (plc es m : Int) = _; rw [e2], by rw [atR, if_pos e1]; show m - lenTo es (plc es m) = _; rw [e2]⟩
    · have e1 : atF ⟨tg, fi, bk, es, en⟩ m = 9 := by
        rw [atF_case h0, if_neg (by omega)]
        show (if lenTo es es.length ≤ m then (9 : Int) else 0) = 9
        rw [hn, if_pos h9]
      exact ⟨e1, atP_fault (by rw [e1]; decide), atR_fault (by rw [e1]; decide)⟩)
  have HF0 : Hid (atF ⟨tg, fi, bk, es, en⟩ m ≠ 0 → atP ⟨tg, fi, bk, es, en⟩ m = 0 ∧ atR ⟨tg, fi, bk, es, en⟩ m = 0) := Lib.hid (fun h => ⟨atP_fault h, atR_fault h⟩)
  obtain ⟨AF, hAF⟩ : ∃ AF, atF ⟨tg, fi, bk, es, en⟩ m = AF := ⟨_, rfl⟩
  obtain ⟨AP, hAP⟩ : ∃ AP, atP ⟨tg, fi, bk, es, en⟩ m = AP := ⟨_, rfl⟩
  obtain ⟨AR, hAR⟩ : ∃ AR, atR ⟨tg, fi, bk, es, en⟩ m = AR := ⟨_, rfl⟩
  obtain ⟨LF, hLF⟩ : ∃ LF, lstF ⟨tg, fi, bk, es, en⟩ = LF := ⟨_, rfl⟩
  rw [hAF, hAP, hAR, hLF] at HAT
  rw [hAF, hAP, hAR] at HF0
  rw [hAF, hLF] at hf
  rw [hLF] at HC
  rw [hAF, hAP, hAR]
  have HFI := Lib.hid hf
  obtain ⟨M0, hM0⟩ : ∃ M0, decide (m < 0) = M0 := ⟨_, rfl⟩
  rw [hM0] at HFI
  have HN := Lib.hid hn
  have HEN := Lib.hid hE
  clear hE hn hwf hf hAF hAP hAR hLF
  go_enter Try.func12, Try.ntmps12
  go_upto_region 1 with fail
  generalize w.alloc (.cells #[.int .i64 tg, .int .i64 fi, .int .i64 bk, .slice a n cap, .bool en] 24) = W at *
  have k0 := FX.c0; have k1 := FX.c1; have k2 := FX.c2; have k3 := FX.c3; have k4 := FX.c4; have kl := FX.lt
  go_wp2_with fail
  refine (HC.out _ b1).mono ?_; rintro e w1 ⟨rfl, b2⟩
  have FX := FX.below b2 FX.lt
  have b1 := b1.trans (b2.mono b1.size)
  clear k0 k1 k2 k3 k4 kl b2 HC
  go_wp2_with fail
  refine (bfaultIf_any _ _ _).mono ?_; rintro e w' ⟨rfl, rfl⟩
  go_wp2_with fail
  refine (lfirst2 _ _ _).mono ?_; rintro e w' ⟨rfl, rfl⟩
  have b1 := b1.alloc (o := .cells #[.int .i64 LF, .int .i64 (fIf M0 1)] 25) b1.size
  have FX := FX.alloc (.cells #[.int .i64 LF, .int .i64 (fIf M0 1)] 25)
  generalize w1.alloc (.cells #[.int .i64 LF, .int .i64 (fIf M0 1)] 25) = W2 at *
  obtain ⟨Z, hZ⟩ : ∃ Z, fstF [LF, fIf M0 1] = Z := ⟨_, rfl⟩
  rw [hZ] at HFI
  rw [hZ]
  clear hZ
  by_cases hz : Z = 0
  rotate_left
  · have hne : (Z == 0) = false := by simp; exact hz
    have hne2 : (Z != 0) = true := by simp; exact hz
    have e1 : AF = Z := HFI.out.1 hz
    subst e1
    obtain ⟨e2, e3⟩ := HF0.out hz
    subst e2 e3
    clear hz
    go_wp2_with fail
    refine bodyPost_ret (by simp [results, Try.results12, go_sem]; try rfl) rfl ?_
    exact ⟨rfl, b1⟩
  · obtain ⟨hlf, hm0⟩ := HFI.out.2 hz
    obtain ⟨hL, hA1, hA2⟩ := HAT.out hlf
    have HA1 := Lib.hid hA1; have HA2 := Lib.hid hA2
    have HLM := Lib.hid hL.2.2
    have HBD : Hid (∀ k, k ≤ n → (k : Int) ≤ lenTo es k ∧ lenTo es k ≤ k * 3600000) := Lib.hid (lenTo_bd hL)
    have hn5 := hL.2.1
    subst hz
    have d3 := FX.c3; have dl := FX.lt
    clear hA1 hA2 hlf hL HAT HFI HF0 hM0
    go_wp2_with fail
    clear d3 dl FX
    go_loopw [1, 23] (fun v1 v23 wr => ∃ (k : Nat) (r : Int), k ≤ n ∧ v23 = .int .i64 k ∧ v1 = .int .i64 r ∧ Hid (r = m - lenTo es k) ∧ 0 ≤ r ∧ r ≤ m ∧ Hid (∀ i, i < k → lenTo es (i + 1) ≤ m) ∧ Below w.heap.size w wr) (fun _ v23 _ => n - (intOf v23).toNat)
    case atStart => exact ⟨0, m, Nat.zero_le _, rfl, rfl, Lib.hid (by rw [lenTo]; omega), hm0, Int.le_refl _, Lib.hid (fun i hi => by omega), b1⟩
    case round =>
      clear b1
      obtain ⟨k, r, hk, rfl, rfl, HR, hr0, hrm, HP, hbr⟩ := hrel
      by_cases hk2 : k < n
      rotate_left
      · have hkn : k = n := by omega
        obtain ⟨e1, e2, e3⟩ := HA2.out hm0 (by rw [← hkn]; have := HR.out; omega)
        have kD : decide ((k : Int) < (n : Int)) = false := by simp; omega
        have kD2 : decide (k < n) = false := by simp; omega
        subst e1 e2 e3
        clear hkn
        go_wp2_with fail
        refine bodyPost_ret (by simp [results, Try.results12, go_sem]; try rfl) rfl ?_
        exact ⟨rfl, hbr⟩
      · have hEW := HEN.out.below hbr (Nat.le_refl _)
        obtain ⟨b, off, cap', hv, hlt, -, -⟩ := hEW.spot (by rw [HN.out]; omega)
        simp only [Value.slice.injEq] at hv
        obtain ⟨rfl, -, rfl⟩ := hv
        obtain ⟨c0, c1, c2, c3, c4, c5, c6⟩ := hEW.cells k (by rw [HN.out]; exact hk2)
        obtain ⟨x, hx⟩ : ∃ x, es.getD k ent0 = x := ⟨_, rfl⟩
        obtain ⟨a6, c6', hu⟩ := (hEW.strs k (by rw [HN.out]; exact hk2)).parts
        rw [hx] at hu
        obtain ⟨l6, hl6⟩ : ∃ l6, x.ex.length = l6 := ⟨_, rfl⟩
        rw [hl6] at hu
        rw [hx] at c0 c1 c2 c3 c4 c5
        rw [hu] at c6
        have hmi := HLM.out k hk2
        have emi : miAt es k = x.mi := by rw [miAt, hx]
        rw [emi] at hmi
        have kI : (k : Int) < (n : Int) := by omega
        have HS1 : Hid (lenTo es (k + 1) = lenTo es k + x.mi) := Lib.hid (by rw [lenTo, emi])
        have wk1 : IntKind.i64.wrap ((k : Int) + 1) = (k : Int) + 1 := IntWalk.i64_in _ ⟨by omega, by omega⟩
        have EX := EBox.new wr x (.slice a6 l6 c6') 32
        have hbr := hbr.alloc (o := .cells #[.string x.uri, .int .i64 x.mi, .bool x.br, .int .i64 x.da, .string x.key, .bool x.gap, .slice a6 l6 c6'] 32) hbr.size
        have HA1k := Lib.hid (HA1.out k hk2 hm0 HP.out)
        clear hx hu hEW hl6 emi
        go_upto_region 7 with fail
        generalize wr.alloc (.cells #[.string x.uri, .int .i64 x.mi, .bool x.br, .int .i64 x.da, .string x.key, .bool x.gap, .slice a6 l6 c6'] 32) = W9 at *
        generalize wr.heap.size = X9 at *
        clear c0 c1 c2 c3 c4 c5 c6
        have y1 := EX.c1; have yl := EX.lt
        clear EX
        by_cases hrx : r < x.mi
        · have hd := decide_eq_true hrx
          obtain ⟨e1, e2, e3⟩ := HA1k.out (by have := HS1.out; have := HR.out; omega)
          have e4 : AR = r := by rw [e3, HR.out]
          subst e1 e2 e4
          clear hrx e3
          go_wp2_with fail
          refine bodyPost_ret (by simp [results, Try.results12, go_sem]; try rfl) rfl ?_
          exact ⟨rfl, hbr⟩
        · have hd := decide_eq_false hrx
          have wr1 : IntKind.i64.wrap (r - x.mi) = r - x.mi := IntWalk.i64_in _ ⟨by omega, by omega⟩
          have HR2 : Hid (r - x.mi = m - lenTo es (k + 1)) := Lib.hid (by rw [HS1.out, HR.out]; omega)
          have HP2 : Hid (∀ i, i < k + 1 → lenTo es (i + 1) ≤ m) := Lib.hid (fun i hi => by
            by_cases e : i = k
            · subst e; have := HS1.out; have := HR.out; omega
            · exact HP.out i (by omega))
          have q0 : 0 ≤ r - x.mi := by omega
          have q1 : r - x.mi ≤ m := by omega
          clear hrx
          go_wp2_with fail
          go_roundw
          case rel => exact ⟨k + 1, r - x.mi, by omega, by go_num, rfl, HR2, q0, q1, HP2, hbr⟩
          case measure => simp [intOf]; omega

end Go.Proofs.Ytikpemmfmkdndaa
