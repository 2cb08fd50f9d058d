/- StartAt (program). -/
import Derived.Test.YtikpemmfmkdndaaAt
namespace Go.Proofs.Ytikpemmfmkdndaa
set_option linter.unusedVariables false
set_option linter.unusedSimpArgs false
open Go.RowKit Go.Shelf Go.Deep

theorem isTimeL_any (b : Int) (w : World) :
    Calls Try.prog 44 #[.int .i64 b] w fun e w' => e = .returned (.bool (inB b 0 1000000000000000)) ∧ w = w' := by
  obtain ⟨x, hx⟩ : ∃ x, inB b 0 1000000000000000 = x := ⟨_, rfl⟩
  have HX := Lib.hid hx
  clear hx
  go_enter Try.func44, Try.ntmps44
  go_wp2_with fail
  refine (bwithin_any _ _ _ _).mono ?_; rintro e w' ⟨rfl, rfl⟩
  rw [HX.out]
  go_wp2_with fail
  go_ret
  exact ⟨bret_bool HX.out.symm, rfl⟩
theorem sa_first (l : Lst) (b : Int) : saF l b = fstF [lstF l, fIf (!inB b 0 1000000000000000) 1, fIf ((l.es.length : Int) == 0) 9] := by
  unfold saF
  by_cases h : lstF l = 0
  · rw [if_pos h, h]
    by_cases hb : b < 0 ∨ 1000000000000000 < b
    · rw [if_pos hb]
      have : inB b 0 1000000000000000 = false := by
        cases hh : inB b 0 1000000000000000
        · rfl
        · rw [inB_iff] at hh; omega
      rw [this]; rfl
    · rw [if_neg hb]
      have : inB b 0 1000000000000000 = true := by rw [inB_iff]; omega
      rw [this]
      by_cases hn : l.es.length = 0
      · rw [if_pos hn, hn]; rfl
      · rw [if_neg hn]
        have : ((l.es.length : Int) == 0) = false := beq_eq_false_iff_ne.2 (by omega)
        rw [this]; rfl
  · rw [if_neg h]
    simp [fstF, h]
structure SaOk (l : Lst) (b : Int) : Prop where
  lst : lstF l = 0
  b : 0 ≤ b ∧ b ≤ 1000000000000000
  n : 0 < l.es.length
theorem sa_ok {l : Lst} {b : Int} (h : saF l b = 0) : SaOk l b := by
  rw [sa_first, fstF_zero] at h
  simp only [List.mem_cons, List.not_mem_nil, or_false, forall_eq_or_imp, forall_eq] at h
  rw [fIf_zero (by decide), fIf_zero (by decide)] at h
  obtain ⟨h1, h2, h3⟩ := h
  have h4 : inB b 0 1000000000000000 = true := by simpa using h2
  rw [inB_iff] at h4
  have h5 := beq_eq_false_iff_ne.1 h3
  exact ⟨h1, h4, by omega⟩
theorem sa_bad {l : Lst} {b : Int} (h : saF l b ≠ 0) : saP l b = 0 ∧ saR l b = 0 := ⟨by rw [saP, if_neg h], by rw [saR, if_neg h]⟩
theorem sa_front {l : Lst} {b : Int} (h : l.en = true ∨ saM l b < 0) : saP l b = 0 ∧ saR l b = 0 := by
  by_cases h0 : saF l b = 0
  · exact ⟨by rw [saP, if_pos h0, if_pos h], by rw [saR, if_pos h0, if_pos h]⟩
  · exact sa_bad h0
theorem sa_zero {l : Lst} {b : Int} (h0 : saF l b = 0) (h : ¬ (l.en = true ∨ saM l b < 0)) (hb : b = 0) : saP l b = (l.es.length : Int) - 1 ∧ saR l b = miAt l.es (l.es.length - 1) :=
  ⟨by rw [saP, if_pos h0, if_neg h, if_pos hb], by rw [saR, if_pos h0, if_neg h, if_pos hb]⟩
theorem sa_at {l : Lst} {b : Int} (h0 : saF l b = 0) (h : ¬ (l.en = true ∨ saM l b < 0)) (hb : b ≠ 0) : saP l b = (plc l.es (saM l b) : Int) ∧ saR l b = saM l b - lenTo l.es (plc l.es (saM l b)) ∧ 0 ≤ saM l b ∧ saM l b < lenTo l.es l.es.length := by
  have g := sa_ok h0
  have := g.b
  refine ⟨by rw [saP, if_pos h0, if_neg h, if_neg hb], by rw [saR, if_pos h0, if_neg h, if_neg hb], ?_, ?_⟩
  · by_cases h5 : saM l b < 0
    · exact absurd (.inr h5) h
    · omega
  · unfold saM; omega
theorem at_in {l : Lst} {m : Int} (h0 : lstF l = 0) (h1 : 0 ≤ m) (h2 : m < lenTo l.es l.es.length) : atF l m = 0 ∧ atP l m = (plc l.es m : Int) ∧ atR l m = m - lenTo l.es (plc l.es m) := by
  have e : atF l m = 0 := by rw [atF_case h0, if_neg (by omega), if_neg (by omega)]
  exact ⟨e, by rw [atP, if_pos e], by rw [atR, if_pos e]⟩
set_option maxRecDepth 100000 in
set_option maxHeartbeats 8000000 in
theorem StartAt_walk (tg fi bk : Int) (a : Option Addr) (n cap : Nat) (en : Bool) (es : List Ent) (Us : Nat → Value) (b : Int) (w : World) (hE : EntsU w (.slice a n cap) es Us) (hn : es.length = n) (hwf : ∀ y ∈ es, EntWf y) :
    Calls Try.prog 14 #[.agg #[.int .i64 tg, .int .i64 fi, .int .i64 bk, .slice a n cap, .bool en], .int .i64 b] w fun e w' => e = .returned (.tuple #[.int .i64 (saP ⟨tg, fi, bk, es, en⟩ b), .int .i64 (saR ⟨tg, fi, bk, es, en⟩ b), .int .i64 (saF ⟨tg, fi, bk, es, en⟩ b)]) ∧ Below w.heap.size w w' := by
  have FX := LBox.new w tg fi bk (.slice a n cap) en 24
  have b1 : Below w.heap.size w (w.alloc (.cells #[.int .i64 tg, .int .i64 fi, .int .i64 bk, .slice a n cap, .bool en] 24)) := (Below.refl _ w).alloc (Nat.le_refl _) _
  have HC : Hid (∀ W, Below w.heap.size w W → Calls Try.prog 39 #[.agg #[.int .i64 tg, .int .i64 fi, .int .i64 bk, .slice a n cap, .bool en]] W fun r w' => r = .returned (.int .i64 (lstF ⟨tg, fi, bk, es, en⟩)) ∧ Below W.heap.size W w') := Lib.hid (fun W hb => chkL_walk tg fi bk _ en es Us W (hE.below hb (Nat.le_refl _)) hwf)
  have HA : Hid (∀ m, m ≤ 9223372036854775807 → ∀ W, Below w.heap.size w W → Calls Try.prog 12 #[.agg #[.int .i64 tg, .int .i64 fi, .int .i64 bk, .slice a n cap, .bool en], .int .i64 m] W fun e w' => e = .returned (.tuple #[.int .i64 (atP ⟨tg, fi, bk, es, en⟩ m), .int .i64 (atR ⟨tg, fi, bk, es, en⟩ m), .int .i64 (atF ⟨tg, fi, bk, es, en⟩ m)]) ∧ Below W.heap.size W w') := Lib.hid (fun m hm W hb => At_walk tg fi bk a n cap en es Us m W (hE.below hb (Nat.le_refl _)) hn hwf hm)
  have HLN : Hid (LIM es n → ∀ W, Below w.heap.size w W → Calls Try.prog 45 #[.slice a n cap] W fun e w' => e = .returned (.int .i64 (lenTo es n)) ∧ Below W.heap.size W w') := Lib.hid (fun hL W hb => lengthOf_any a n cap es Us W (hE.below hb (Nat.le_refl _)) hL)
  have HT : Hid (∀ W, Calls Try.prog 44 #[.int .i64 b] W fun e w' => e = .returned (.bool (inB b 0 1000000000000000)) ∧ W = w') := Lib.hid (fun W => isTimeL_any b W)
  have hf := sa_first ⟨tg, fi, bk, es, en⟩ b
  have HOK : Hid (saF ⟨tg, fi, bk, es, en⟩ b = 0 → SaOk ⟨tg, fi, bk, es, en⟩ b) := Lib.hid sa_ok
  have HBAD : Hid (saF ⟨tg, fi, bk, es, en⟩ b ≠ 0 → saP ⟨tg, fi, bk, es, en⟩ b = 0 ∧ saR ⟨tg, fi, bk, es, en⟩ b = 0) := Lib.hid sa_bad
  have HFR : Hid (en = true ∨ lenTo es n - b < 0 → saP ⟨tg, fi, bk, es, en⟩ b = 0 ∧ saR ⟨tg, fi, bk, es, en⟩ b = 0) := Lib.hid (fun h => sa_front (by rw [saM]; show en = true ∨ lenTo es es.length - b < 0; rw [hn]; exact h))
  have HZ : Hid (saF ⟨tg, fi, bk, es, en⟩ b = 0 → ¬ (en = true ∨ lenTo es n - b < 0) → b = 0 → saP ⟨tg, fi, bk, es, en⟩ b = (n : Int) - 1 ∧ saR ⟨tg, fi, bk, es, en⟩ b = miAt es (n - 1)) := Lib.hid (fun h0 h hb => by
    have := sa_zero h0 (by rw [saM]; show ¬ (en = true ∨ lenTo es es.length - b < 0); rw [hn]; exact h) hb
    rw [← hn]; exact this)
  have HAT : Hid (saF ⟨tg, fi, bk, es, en⟩ b = 0 → ¬ (en = true ∨ lenTo es n - b < 0) → b ≠ 0 → atF ⟨tg, fi, bk, es, en⟩ (lenTo es n - b) = 0 ∧ atP ⟨tg, fi, bk, es, en⟩ (lenTo es n - b) = saP ⟨tg, fi, bk, es, en⟩ b ∧ atR ⟨tg, fi, bk, es, en⟩ (lenTo es n - b) = saR ⟨tg, fi, bk, es, en⟩ b) := Lib.hid (fun h0 h hb => by
    have e : saM ⟨tg, fi, bk, es, en⟩ b = lenTo es n - b := by rw [saM]; show lenTo es es.length - b = _; rw [hn]
    obtain ⟨e1, e2, e3, e4⟩ := sa_at h0 (by rw [e]; exact h) hb
    obtain ⟨f1, f2, f3⟩ := at_in (sa_ok h0).lst e3 e4
    rw [← e]
    exact ⟨f1, f2.trans e1.symm, f3.trans e2.symm⟩)
  have HLIM : Hid (lstF ⟨tg, fi, bk, es, en⟩ = 0 → LIM es n) := Lib.hid (fun h0 => by have := ((lstF_zero _).1 h0).lim; rw [← hn]; exact this)
  have hef : (((⟨tg, fi, bk, es, en⟩ : Lst).es.length : Int) == 0) = ((n : Int) == 0) := by rw [← hn]
  rw [hef] at hf
  have hen : (⟨tg, fi, bk, es, en⟩ : Lst).es.length = n := hn
  obtain ⟨SF, hSF⟩ : ∃ SF, saF ⟨tg, fi, bk, es, en⟩ b = SF := ⟨_, rfl⟩
  obtain ⟨SP, hSP⟩ : ∃ SP, saP ⟨tg, fi, bk, es, en⟩ b = SP := ⟨_, rfl⟩
  obtain ⟨SR, hSR⟩ : ∃ SR, saR ⟨tg, fi, bk, es, en⟩ b = SR := ⟨_, rfl⟩
  obtain ⟨LF, hLF⟩ : ∃ LF, lstF ⟨tg, fi, bk, es, en⟩ = LF := ⟨_, rfl⟩
  obtain ⟨T, hT⟩ : ∃ T, inB b 0 1000000000000000 = T := ⟨_, rfl⟩
  obtain ⟨E0, hE0⟩ : ∃ E0, ((n : Int) == 0) = E0 := ⟨_, rfl⟩
  have HOK2 : Hid (SF = 0 → LF = 0 ∧ 0 ≤ b ∧ b ≤ 1000000000000000 ∧ 0 < n) := Lib.hid (fun h => by
    have g := HOK.out (by rw [hSF]; exact h)
    exact ⟨by rw [← hLF]; exact g.lst, g.b.1, g.b.2, by have := g.n; rw [hen] at this; exact this⟩)
  rw [hSF, hSP, hSR] at HBAD HZ HAT
  rw [hSP, hSR] at HFR
  rw [hLF] at HLIM HC
  rw [hT] at HT
  rw [hSF, hLF, hT, hE0] at hf
  rw [hSF, hSP, hSR]
  have HF : Hid (fstF [LF, fIf (!T) 1, fIf E0 9] = SF) := Lib.hid hf.symm
  have HN := Lib.hid hn
  have HEN := Lib.hid hE
  clear hE hn hwf hf hSF hSP hSR hLF hT HOK hef hen
  go_enter Try.func14, Try.ntmps14
  go_upto_region 1 with fail
  generalize w.alloc (.cells #[.int .i64 tg, .int .i64 fi, .int .i64 bk, .slice a n cap, .bool en] 24) = W at *
  go_cut [7] (fun s7 wx => s7 = .int .i64 SF ∧ Below W.heap.size W wx)
  case first =>
    have k0 := FX.c0; have k1 := FX.c1; have k2 := FX.c2; have k3 := FX.c3; have k4 := FX.c4; have kl := FX.lt
    clear FX
    refine wp_region_noPanic ?_
    refine wp_region_held_drew (S := fun w' => Below W.heap.size W w') (by kernel_rfl) ?hS0 (fun hHeld => ?_)
    case hS0 => exact (Below.refl _ W).drew
    have hS : Below W.heap.size W W.drew := (Below.refl _ W).drew
    clear hHeld
    generalize W.drew = wd at *
    refine wpAnyH_take (i := 0) (v := ?_) rfl (by kernel_rfl) (by kernel_rfl) (by kernel_rfl) (fun _ _ _ h => h) (Or.inl ⟨by kernel_rfl, ?hy⟩) (by assumption) ?_
    case hy => (intro wq hSw; have q0 := (hSw.cell (p := ⟨w.heap.size, 0, none⟩) kl).trans k0; have q1 := (hSw.cell (p := ⟨w.heap.size, 1, none⟩) kl).trans k1; have q2 := (hSw.cell (p := ⟨w.heap.size, 2, none⟩) kl).trans k2; have q3 := (hSw.cell (p := ⟨w.heap.size, 3, none⟩) kl).trans k3; have q4 := (hSw.cell (p := ⟨w.heap.size, 4, none⟩) kl).trans k4; have s1 := Nat.lt_of_lt_of_le kl hSw.size; go_simp; try (with_reducible rfl))
    try simp only [Act.put, List.setIfInBounds_toArray, List.set_cons_zero, List.set_cons_succ]
    refine wpAnyH_take (i := 2) (v := ?_) rfl (by kernel_rfl) (by kernel_rfl) (by kernel_rfl) (fun _ _ _ h => h) (Or.inl ⟨by kernel_rfl, ?hy⟩) (by assumption) ?_
    case hy => (intro wq hSw; have q0 := (hSw.cell (p := ⟨w.heap.size, 0, none⟩) kl).trans k0; have q1 := (hSw.cell (p := ⟨w.heap.size, 1, none⟩) kl).trans k1; have q2 := (hSw.cell (p := ⟨w.heap.size, 2, none⟩) kl).trans k2; have q3 := (hSw.cell (p := ⟨w.heap.size, 3, none⟩) kl).trans k3; have q4 := (hSw.cell (p := ⟨w.heap.size, 4, none⟩) kl).trans k4; have s1 := Nat.lt_of_lt_of_le kl hSw.size; go_simp; try (with_reducible rfl))
    try simp only [Act.put, List.setIfInBounds_toArray, List.set_cons_zero, List.set_cons_succ]
    refine wpAnyH_take (i := 6) (v := ?_) rfl (by kernel_rfl) (by kernel_rfl) (by kernel_rfl) (fun _ _ _ h => h) (Or.inl ⟨by kernel_rfl, ?hy⟩) (by assumption) ?_
    case hy => (intro wq hSw; have q0 := (hSw.cell (p := ⟨w.heap.size, 0, none⟩) kl).trans k0; have q1 := (hSw.cell (p := ⟨w.heap.size, 1, none⟩) kl).trans k1; have q2 := (hSw.cell (p := ⟨w.heap.size, 2, none⟩) kl).trans k2; have q3 := (hSw.cell (p := ⟨w.heap.size, 3, none⟩) kl).trans k3; have q4 := (hSw.cell (p := ⟨w.heap.size, 4, none⟩) kl).trans k4; have s1 := Nat.lt_of_lt_of_le kl hSw.size; go_simp; try (with_reducible rfl))
    try simp only [Act.put, List.setIfInBounds_toArray, List.set_cons_zero, List.set_cons_succ]
    refine wpAnyH_take (i := 7) (v := ?_) rfl (by kernel_rfl) (by kernel_rfl) (by kernel_rfl) (fun _ _ _ h => h) (Or.inl ⟨by kernel_rfl, ?hy⟩) (by assumption) ?_
    case hy => (intro wq hSw; have q0 := (hSw.cell (p := ⟨w.heap.size, 0, none⟩) kl).trans k0; have q1 := (hSw.cell (p := ⟨w.heap.size, 1, none⟩) kl).trans k1; have q2 := (hSw.cell (p := ⟨w.heap.size, 2, none⟩) kl).trans k2; have q3 := (hSw.cell (p := ⟨w.heap.size, 3, none⟩) kl).trans k3; have q4 := (hSw.cell (p := ⟨w.heap.size, 4, none⟩) kl).trans k4; have s1 := Nat.lt_of_lt_of_le kl hSw.size; go_simp; try (with_reducible rfl))
    try simp only [Act.put, List.setIfInBounds_toArray, List.set_cons_zero, List.set_cons_succ]
    refine wpAnyH_take (i := 8) (v := ?_) rfl (by kernel_rfl) (by kernel_rfl) (by kernel_rfl) (fun _ _ _ h => h) (Or.inl ⟨by kernel_rfl, ?hy⟩) (by assumption) ?_
    case hy => (intro wq hSw; have q0 := (hSw.cell (p := ⟨w.heap.size, 0, none⟩) kl).trans k0; have q1 := (hSw.cell (p := ⟨w.heap.size, 1, none⟩) kl).trans k1; have q2 := (hSw.cell (p := ⟨w.heap.size, 2, none⟩) kl).trans k2; have q3 := (hSw.cell (p := ⟨w.heap.size, 3, none⟩) kl).trans k3; have q4 := (hSw.cell (p := ⟨w.heap.size, 4, none⟩) kl).trans k4; have s1 := Nat.lt_of_lt_of_le kl hSw.size; go_simp; try (with_reducible rfl))
    try simp only [Act.put, List.setIfInBounds_toArray, List.set_cons_zero, List.set_cons_succ]
    refine wpAnyH_take (i := 9) (v := ?_) rfl (by kernel_rfl) (by kernel_rfl) (by kernel_rfl) (fun _ _ _ h => h) (Or.inl ⟨by kernel_rfl, ?hy⟩) (by assumption) ?_
    case hy => (intro wq hSw; have q0 := (hSw.cell (p := ⟨w.heap.size, 0, none⟩) kl).trans k0; have q1 := (hSw.cell (p := ⟨w.heap.size, 1, none⟩) kl).trans k1; have q2 := (hSw.cell (p := ⟨w.heap.size, 2, none⟩) kl).trans k2; have q3 := (hSw.cell (p := ⟨w.heap.size, 3, none⟩) kl).trans k3; have q4 := (hSw.cell (p := ⟨w.heap.size, 4, none⟩) kl).trans k4; have s1 := Nat.lt_of_lt_of_le kl hSw.size; go_simp; try (with_reducible rfl))
    try simp only [Act.put, List.setIfInBounds_toArray, List.set_cons_zero, List.set_cons_succ]
    refine wpAnyH_ready (rs := [1]) (by kernel_rfl) (by simp) ?_
    refine AllReadyH.cons rfl (fun K hK => ?_) AllReadyH.nil
    go_simp
    refine (HC.out _ (b1.trans (hS.mono b1.size))).mono ?_; rintro e w3 ⟨rfl, b3⟩; have hS : Below W.heap.size W w3 := hS.trans (b3.mono hS.size)
    refine hK.out _ _ hS (fun hHeld => ?_)
    clear hK K hHeld
    try simp only [Act.put, List.setIfInBounds_toArray, List.set_cons_zero, List.set_cons_succ]
    refine wpAnyH_ready (rs := [3]) (by kernel_rfl) (by simp) ?_
    refine AllReadyH.cons rfl (fun K hK => ?_) AllReadyH.nil
    go_simp
    refine (HT.out _).mono ?_; rintro e w' ⟨rfl, rfl⟩
    refine hK.out _ _ hS (fun hHeld => ?_)
    clear hK K hHeld
    try simp only [Act.put, List.setIfInBounds_toArray, List.set_cons_zero, List.set_cons_succ]
    refine wpAnyH_take (i := 4) (v := ?_) rfl (by kernel_rfl) (by kernel_rfl) (by kernel_rfl) (fun _ _ _ h => h) (Or.inl ⟨by kernel_rfl, ?hy⟩) (by assumption) ?_
    case hy => (intro wq hSw; have q0 := (hSw.cell (p := ⟨w.heap.size, 0, none⟩) kl).trans k0; have q1 := (hSw.cell (p := ⟨w.heap.size, 1, none⟩) kl).trans k1; have q2 := (hSw.cell (p := ⟨w.heap.size, 2, none⟩) kl).trans k2; have q3 := (hSw.cell (p := ⟨w.heap.size, 3, none⟩) kl).trans k3; have q4 := (hSw.cell (p := ⟨w.heap.size, 4, none⟩) kl).trans k4; have s1 := Nat.lt_of_lt_of_le kl hSw.size; go_simp; try (with_reducible rfl))
    try simp only [Act.put, List.setIfInBounds_toArray, List.set_cons_zero, List.set_cons_succ]
    refine wpAnyH_ready (rs := [5]) (by kernel_rfl) (by simp) ?_
    refine AllReadyH.cons rfl (fun K hK => ?_) AllReadyH.nil
    go_simp
    refine (bfaultIf_any _ _ _).mono ?_; rintro e w' ⟨rfl, rfl⟩
    refine hK.out _ _ hS (fun hHeld => ?_)
    clear hK K hHeld
    try simp only [Act.put, List.setIfInBounds_toArray, List.set_cons_zero, List.set_cons_succ]
    refine wpAnyH_ready (rs := [10]) (by kernel_rfl) (by simp) ?_
    refine AllReadyH.cons rfl (fun K hK => ?_) AllReadyH.nil
    go_simp
    refine (bfaultIf_any _ _ _).mono ?_; rintro e w' ⟨rfl, rfl⟩
    refine hK.out _ _ hS (fun hHeld => ?_)
    clear hK K hHeld
    try simp only [Act.put, List.setIfInBounds_toArray, List.set_cons_zero, List.set_cons_succ]
    refine wpAnyH_ready (rs := [11]) (by kernel_rfl) (by simp) ?_
    refine AllReadyH.cons rfl (fun K hK => ?_) AllReadyH.nil
    go_simp
    have hS : Below W.heap.size W (w3.alloc (.cells #[.int .i64 LF, .int .i64 (fIf (!T) 1), .int .i64 (fIf E0 9)] 25)) := hS.alloc hS.size _
    refine hK.out _ _ hS (fun hHeld => ?_)
    clear hK K hHeld
    try simp only [Act.put, List.setIfInBounds_toArray, List.set_cons_zero, List.set_cons_succ]
    refine wpAnyH_ready (rs := [12]) (by kernel_rfl) (by simp) ?_
    refine AllReadyH.cons rfl (fun K hK => ?_) AllReadyH.nil
    go_simp
    refine (lfirst3 _ _ _ _).mono ?_; rintro e w' ⟨rfl, rfl⟩; rw [HF.out]
    refine hK.out _ _ hS (fun hHeld => ?_)
    clear hK K hHeld
    try simp only [Act.put, List.setIfInBounds_toArray, List.set_cons_zero, List.set_cons_succ]
    refine wpAnyH_take (i := 13) (v := ?_) rfl (by kernel_rfl) (by kernel_rfl) (by kernel_rfl) (fun _ _ _ h => h) (Or.inl ⟨by kernel_rfl, ?hy⟩) (by assumption) ?_
    case hy => (intro wq hSw; have q0 := (hSw.cell (p := ⟨w.heap.size, 0, none⟩) kl).trans k0; have q1 := (hSw.cell (p := ⟨w.heap.size, 1, none⟩) kl).trans k1; have q2 := (hSw.cell (p := ⟨w.heap.size, 2, none⟩) kl).trans k2; have q3 := (hSw.cell (p := ⟨w.heap.size, 3, none⟩) kl).trans k3; have q4 := (hSw.cell (p := ⟨w.heap.size, 4, none⟩) kl).trans k4; have s1 := Nat.lt_of_lt_of_le kl hSw.size; go_simp; try (with_reducible rfl))
    try simp only [Act.put, List.setIfInBounds_toArray, List.set_cons_zero, List.set_cons_succ]
    refine wpAnyH_done (by kernel_rfl) ?_ _
    refine NoPanic.normal ?_
    try go_simp
    go_wp2_with fail
    go_meet
    exact ⟨rfl, hS⟩
  case rest =>
    obtain ⟨rfl, bx⟩ := hcut
    have FX := FX.below bx FX.lt
    have b1 := b1.trans (bx.mono b1.size)
    clear bx HF hE0
    by_cases hz : SF = 0
    rotate_left
    · have hne : (SF == 0) = false := by simp; exact hz
      have hne2 : (SF != 0) = true := by simp; exact hz
      obtain ⟨e1, e2⟩ := HBAD.out hz
      subst e1 e2
      clear hz
      go_wp2_with fail
      refine bodyPost_ret (by simp [results, Try.results14, go_sem]; try rfl) rfl ?_
      exact ⟨rfl, b1⟩
    · obtain ⟨g1, g2, g3, g4⟩ := HOK2.out hz
      have hL := HLIM.out g1
      have HLW := Lib.hid (HLN.out hL)
      have hbd := lenTo_bd hL n (Nat.le_refl _)
      have hn5 := hL.2.1
      have hmi := hL.2.2 (n - 1) (by omega)
      have HZ2 := Lib.hid (HZ.out hz); have HAT2 := Lib.hid (HAT.out hz)
      obtain ⟨LN, hLN⟩ : ∃ LN, lenTo es n = LN := ⟨_, rfl⟩
      rw [hLN] at hbd HLW HZ2 HAT2 HFR
      subst hz
      clear g1 hL hLN HBAD HZ HAT HLIM HOK2
      have k3 := FX.c3; have k4 := FX.c4; have kl := FX.lt
      go_wp2_with fail
      refine (HLW.out _ b1).mono ?_; rintro e w3 ⟨rfl, b3⟩
      have FX := FX.below b3 FX.lt
      have b1 := b1.trans (b3.mono b1.size)
      clear k3 k4 kl b3
      have wm : IntKind.i64.wrap (LN - b) = LN - b := IntWalk.i64_in _ ⟨by omega, by omega⟩
      have k0 := FX.c0; have k1 := FX.c1; have k2 := FX.c2; have k3 := FX.c3; have k4 := FX.c4; have kl := FX.lt
      obtain ⟨M, hM⟩ : ∃ M, LN - b = M := ⟨_, rfl⟩
      rw [hM] at HZ2 HAT2 HFR
      replace wm := wm.trans hM
      have wm2 : wrap64 (LN - b) = M := by rw [← IntWalk.i64_left]; exact wm
      have hm2 : M ≤ 9223372036854775807 := by rw [← hM]; omega
      cases en
      rotate_left
      · obtain ⟨e1, e2⟩ := HFR.out (.inl rfl)
        subst e1 e2
        go_wp2_with fail
        refine bodyPost_ret (by simp [results, Try.results14, go_sem]; try rfl) rfl ?_
        exact ⟨rfl, b1⟩
      · by_cases hneg : M < 0
        · obtain ⟨e1, e2⟩ := HFR.out (.inr hneg)
          have hd := decide_eq_true hneg
          subst e1 e2
          clear hneg
          go_wp2_with fail
          refine bodyPost_ret (by simp [results, Try.results14, go_sem]; try rfl) rfl ?_
          exact ⟨rfl, b1⟩
        · have hd := decide_eq_false hneg
          by_cases hb0 : b = 0
          · obtain ⟨e1, e2⟩ := HZ2.out (by rintro (h | h); cases h; exact hneg h) hb0
            have z1 : (b == 0) = true := by simp; exact hb0
            have hk2 : n - 1 < n := by omega
            have hbr := b1
            have hEW := HEN.out.below hbr (Nat.le_refl _)
            obtain ⟨bb, off, cap', hv, hlt, -, -⟩ := hEW.spot (by rw [HN.out]; omega)
            simp only [Value.slice.injEq] at hv
            obtain ⟨rfl, -, rfl⟩ := hv
            obtain ⟨-, c1, -, -, -, -, -⟩ := hEW.cells (n - 1) (by rw [HN.out]; omega)
            replace c1 : w3.cell? ⟨bb, off + (n - 1) * 7 + 1, none⟩ = some (.int .i64 (miAt es (n - 1))) := c1
            obtain ⟨y, hy⟩ : ∃ y, miAt es (n - 1) = y := ⟨_, rfl⟩
            rw [hy] at c1 e2
            have hblt := hlt
            have j1 : (1 : Int) ≤ (n : Int) := by omega
            have j2 : (0 : Int) ≤ (n : Int) - 1 := by omega
            have j3 : (n : Int) - 1 < (n : Int) := by omega
            have j4 : ((n : Int) - 1).toNat = n - 1 := by omega
            have j5 : IntKind.i64.wrap ((n : Int) - 1) = (n : Int) - 1 := IntWalk.i64_in _ ⟨by omega, by omega⟩
            subst e1 e2
            clear hneg hb0 hEW hy hmi hbd hM
            go_upto_region 9 with fail
            go_quiet (fail)
            go_wp2_with fail
            refine bodyPost_ret (by simp [results, Try.results14, go_sem]; try rfl) rfl ?_
            exact ⟨rfl, below_drewN b1 nq⟩
          · obtain ⟨e1, e2, e3⟩ := HAT2.out (by rintro (h | h); cases h; exact hneg h) hb0
            have z1 : (b == 0) = false := by simp; exact hb0
            have HAA := Lib.hid (HA.out M hm2)
            rw [e1, e2, e3] at HAA
            clear hneg hb0 hmi hbd hM e1 e2 e3
            go_wp2_with fail
            refine (HAA.out _ b1).mono ?_; rintro e w5 ⟨rfl, b5⟩
            go_wp2_with fail
            refine bodyPost_ret (by simp [results, Try.results14, go_sem]; try rfl) rfl ?_
            exact ⟨rfl, b1.trans (b5.mono b1.size)⟩

end Go.Proofs.Ytikpemmfmkdndaa
