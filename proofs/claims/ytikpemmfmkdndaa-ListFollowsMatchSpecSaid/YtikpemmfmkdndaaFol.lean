/- Follows (program). -/
import Derived.Test.YtikpemmfmkdndaaFolPlain
import Derived.Test.YtikpemmfmkdndaaSame2
import Derived.Test.YtikpemmfmkdndaaBrk
import Derived.Test.YtikpemmfmkdndaaChkL
namespace Go.Proofs.Ytikpemmfmkdndaa
set_option linter.unusedVariables false
set_option linter.unusedSimpArgs false
open Go.RowKit Go.Shelf Go.Deep

theorem nums_at {w : World} {v : Value} {zs : List Int} (h : NumsC w v zs) (h0 : 0 < zs.length) : ∃ b o c, v = .slice (some ⟨b, o, none⟩) zs.length c ∧ b < w.heap.size ∧ ∀ j, j < zs.length → w.cell? ⟨b, o + j, none⟩ = some (.int .i64 (zs.getD j 0)) := by
  rcases h with ⟨a, c, rfl, rfl⟩ | ⟨b, o, c, rfl, hne, hlt, hl, hm, hc⟩
  · simp at h0
  · exact ⟨b, o, c, rfl, hlt, hc⟩
theorem lfirst5 (f0 f1 f2 f3 f4 : Int) (w : World) :
    Calls Try.prog 38 #[.slice (some ⟨w.heap.size, 0, none⟩) 5 5] (w.alloc (.cells #[.int .i64 f0, .int .i64 f1, .int .i64 f2, .int .i64 f3, .int .i64 f4] 25)) fun e w' => e = .returned (.int .i64 (fstF [f0, f1, f2, f3, f4])) ∧ w.alloc (.cells #[.int .i64 f0, .int .i64 f1, .int .i64 f2, .int .i64 f3, .int .i64 f4] 25) = w' := by
  refine bfirst_any w.heap.size 0 5 5 [f0, f1, f2, f3, f4] _ rfl (by omega) fun j hj => ?_
  rw [World.cell?_alloc_at _ _ _ _ (by simp)]
  match j, hj with
  | 0, _ => rfl
  | 1, _ => rfl
  | 2, _ => rfl
  | 3, _ => rfl
  | 4, _ => rfl
set_option maxRecDepth 100000 in
set_option maxHeartbeats 8000000 in
theorem Follows_walk (tg fi bk : Int) (a : Option Addr) (n cap : Nat) (en : Bool) (es : List Ent) (Us : Nat → Value) (tg' fi' bk' : Int) (a' : Option Addr) (m cap' : Nat) (en' : Bool) (fs : List Ent) (Vs : Nat → Value) (w : World) (hE : EntsU w (.slice a n cap) es Us) (hn : es.length = n) (hwf : ∀ y ∈ es, EntWf y) (hF : EntsU w (.slice a' m cap') fs Vs) (hm : fs.length = m) (hwf' : ∀ y ∈ fs, EntWf y) :
    Calls Try.prog 24 #[.agg #[.int .i64 tg, .int .i64 fi, .int .i64 bk, .slice a n cap, .bool en], .agg #[.int .i64 tg', .int .i64 fi', .int .i64 bk', .slice a' m cap', .bool en']] w fun e w' => e = .returned (.int .i64 (folF ⟨tg, fi, bk, es, en⟩ ⟨tg', fi', bk', fs, en'⟩)) ∧ Below w.heap.size w w' := by
  have bX : Below w.heap.size w (w.alloc (.cells #[.int .i64 tg, .int .i64 fi, .int .i64 bk, .slice a n cap, .bool en] 24)) := (Below.refl _ w).alloc (Nat.le_refl _) _
  have b1 : Below w.heap.size w ((w.alloc (.cells #[.int .i64 tg, .int .i64 fi, .int .i64 bk, .slice a n cap, .bool en] 24)).alloc (.cells #[.int .i64 tg', .int .i64 fi', .int .i64 bk', .slice a' m cap', .bool en'] 24)) := bX.alloc bX.size _
  have FX := (LBox.new w tg fi bk (.slice a n cap) en 24).alloc (.cells #[.int .i64 tg', .int .i64 fi', .int .i64 bk', .slice a' m cap', .bool en'] 24)
  have FY := LBox.new (w.alloc (.cells #[.int .i64 tg, .int .i64 fi, .int .i64 bk, .slice a n cap, .bool en] 24)) tg' fi' bk' (.slice a' m cap') en' 24
  have hsz : (w.alloc (.cells #[.int .i64 tg, .int .i64 fi, .int .i64 bk, .slice a n cap, .bool en] 24)).heap.size = w.heap.size + 1 := by simp
  rw [hsz] at FY
  have HC1 : Hid (∀ W, Below w.heap.size w W → Calls Try.prog 39 #[.agg #[.int .i64 tg, .int .i64 fi, .int .i64 bk, .slice a n cap, .bool en]] W fun r w' => r = .returned (.int .i64 (lstF ⟨tg, fi, bk, es, en⟩)) ∧ Below W.heap.size W w') := Lib.hid (fun W hb => chkL_walk tg fi bk _ en es Us W (hE.below hb (Nat.le_refl _)) hwf)
  have HC2 : Hid (∀ W, Below w.heap.size w W → Calls Try.prog 39 #[.agg #[.int .i64 tg', .int .i64 fi', .int .i64 bk', .slice a' m cap', .bool en']] W fun r w' => r = .returned (.int .i64 (lstF ⟨tg', fi', bk', fs, en'⟩)) ∧ Below W.heap.size W w') := Lib.hid (fun W hb => chkL_walk tg' fi' bk' _ en' fs Vs W (hF.below hb (Nat.le_refl _)) hwf')
  have HSA : Hid (∀ W, Below w.heap.size w W → Calls Try.prog 53 #[.agg #[.int .i64 tg, .int .i64 fi, .int .i64 bk, .slice a n cap, .bool en], .agg #[.int .i64 tg', .int .i64 fi', .int .i64 bk', .slice a' m cap', .bool en']] W fun r w' => r = .returned (.bool (sameL ⟨tg, fi, bk, es, en⟩ ⟨tg', fi', bk', fs, en'⟩)) ∧ Below W.heap.size W w') := Lib.hid (fun W hb => isSame_any tg fi bk a n cap en es Us tg' fi' bk' a' m cap' en' fs Vs W (hE.below hb (Nat.le_refl _)) hn (hF.below hb (Nat.le_refl _)) hm)
  have HB1 : Hid (∀ W, Calls Try.prog 54 #[.agg #[.int .i64 tg, .int .i64 fi, .int .i64 bk, .slice a n cap, .bool en]] W fun e w' => e = .returned (.int .i64 (IntKind.i64.wrap (fi + (n : Int)))) ∧ Below W.heap.size W w') := Lib.hid (fun W => behind_any tg fi bk a n cap en es Us W)
  have HB2 : Hid (∀ W, Calls Try.prog 54 #[.agg #[.int .i64 tg', .int .i64 fi', .int .i64 bk', .slice a' m cap', .bool en']] W fun e w' => e = .returned (.int .i64 (IntKind.i64.wrap (fi' + (m : Int)))) ∧ Below W.heap.size W w') := Lib.hid (fun W => behind_any tg' fi' bk' a' m cap' en' fs Vs W)
  have HK1 : Hid (OkL ⟨tg, fi, bk, es, en⟩ → ∀ W, Below w.heap.size w W → Calls Try.prog 55 #[.agg #[.int .i64 tg, .int .i64 fi, .int .i64 bk, .slice a n cap, .bool en]] W fun e w' => (∃ v, e = .returned (.tuple #[v, .int .i64 (bkTo bk es n)]) ∧ NumsC w' v (bkL bk es n)) ∧ Below W.heap.size W w') := Lib.hid (fun g W hb => breaks_walk tg fi bk a n cap en es Us W (hE.below hb (Nat.le_refl _)) hn (by have := g.len; rw [← hn]; exact this) g.bk)
  have HK2 : Hid (OkL ⟨tg', fi', bk', fs, en'⟩ → ∀ W, Below w.heap.size w W → Calls Try.prog 55 #[.agg #[.int .i64 tg', .int .i64 fi', .int .i64 bk', .slice a' m cap', .bool en']] W fun e w' => (∃ v, e = .returned (.tuple #[v, .int .i64 (bkTo bk' fs m)]) ∧ NumsC w' v (bkL bk' fs m)) ∧ Below W.heap.size W w') := Lib.hid (fun g W hb => breaks_walk tg' fi' bk' a' m cap' en' fs Vs W (hF.below hb (Nat.le_refl _)) hm (by have := g.len; rw [← hm]; exact this) g.bk)
  obtain ⟨hff1, hff2⟩ := fol_first ⟨tg, fi, bk, es, en⟩ ⟨tg', fi', bk', fs, en'⟩
  have hz0 : folZ ⟨tg, fi, bk, es, en⟩ ⟨tg', fi', bk', fs, en'⟩ = fstF [lstF ⟨tg, fi, bk, es, en⟩, lstF ⟨tg', fi', bk', fs, en'⟩, fIf (tg' != tg) 6, fIf (en && !sameL ⟨tg, fi, bk, es, en⟩ ⟨tg', fi', bk', fs, en'⟩) 11, fIf (decide (fi' < fi) || decide (IntKind.i64.wrap (fi' + (m : Int)) < IntKind.i64.wrap (fi + (n : Int)))) 8] := by
    unfold folZ
    show fstF [lstF ⟨tg, fi, bk, es, en⟩, lstF ⟨tg', fi', bk', fs, en'⟩, fIf (tg' != tg) 6, fIf (en && !sameL ⟨tg, fi, bk, es, en⟩ ⟨tg', fi', bk', fs, en'⟩) 11, fIf (decide (fi' < fi) || decide (IntKind.i64.wrap (fi' + (fs.length : Int)) < IntKind.i64.wrap (fi + (es.length : Int)))) 8] = _
    rw [hn, hm]
  obtain ⟨LO, hLO⟩ : ∃ LO, lstF ⟨tg, fi, bk, es, en⟩ = LO := ⟨_, rfl⟩
  obtain ⟨LW, hLW⟩ : ∃ LW, lstF ⟨tg', fi', bk', fs, en'⟩ = LW := ⟨_, rfl⟩
  obtain ⟨SM, hSM⟩ : ∃ SM, sameL ⟨tg, fi, bk, es, en⟩ ⟨tg', fi', bk', fs, en'⟩ = SM := ⟨_, rfl⟩
  obtain ⟨TGB, hTGB⟩ : ∃ TGB, (tg' != tg) = TGB := ⟨_, rfl⟩
  obtain ⟨B1, hB1⟩ : ∃ B1, IntKind.i64.wrap (fi + (n : Int)) = B1 := ⟨_, rfl⟩
  obtain ⟨B2, hB2⟩ : ∃ B2, IntKind.i64.wrap (fi' + (m : Int)) = B2 := ⟨_, rfl⟩
  obtain ⟨D1, hD1⟩ : ∃ D1, decide (fi' < fi) = D1 := ⟨_, rfl⟩
  obtain ⟨Z, hZ⟩ : ∃ Z, folZ ⟨tg, fi, bk, es, en⟩ ⟨tg', fi', bk', fs, en'⟩ = Z := ⟨_, rfl⟩
  obtain ⟨R, hR⟩ : ∃ R, folF ⟨tg, fi, bk, es, en⟩ ⟨tg', fi', bk', fs, en'⟩ = R := ⟨_, rfl⟩
  rw [hZ, hLO, hLW, hSM, hTGB, hB1, hB2, hD1] at hz0
  rw [hZ, hR] at hff1
  rw [hZ] at hff2
  rw [hLO] at HC1
  rw [hLW] at HC2
  rw [hSM] at HSA
  rw [hB1] at HB1
  rw [hB2] at HB2
  rw [hR]
  have HZ := Lib.hid hz0; have HF1 := Lib.hid hff1; have HR := Lib.hid hR
  have HF2 : Hid (Z = 0 → FolOk ⟨tg, fi, bk, es, en⟩ ⟨tg', fi', bk', fs, en'⟩) := Lib.hid hff2
  have HN := Lib.hid hn; have HM := Lib.hid hm; have HEN := Lib.hid hE; have HFN := Lib.hid hF
  clear hE hF hn hm hwf hwf' hff1 hff2 hz0 hLO hLW hSM hB1 hB2 hZ hR hsz bX
  go_enter Try.func24, Try.ntmps24
  go_upto_region 1 with fail
  generalize (w.alloc (.cells #[.int .i64 tg, .int .i64 fi, .int .i64 bk, .slice a n cap, .bool en] 24)).alloc (.cells #[.int .i64 tg', .int .i64 fi', .int .i64 bk', .slice a' m cap', .bool en'] 24) = W at *
  go_cut [5] (fun s5 wx => s5 = .int .i64 Z ∧ Below W.heap.size W wx)
  case first =>
    have k0 := FX.c0; have k1 := FX.c1; have k2 := FX.c2; have k3 := FX.c3; have k4 := FX.c4; have kl := FX.lt
    have l0 := FY.c0; have l1 := FY.c1; have l2 := FY.c2; have l3 := FY.c3; have l4 := FY.c4; have ll := FY.lt
    clear FX FY
    cases en
    · cases D1
      · have HZ2 : Hid (fstF [LO, LW, fIf TGB 6, fIf false 11, fIf (decide (B2 < B1)) 8] = Z) := Lib.hid (HZ.out.symm)
        refine wp_region_noPanic ?_
        refine wp_region_held_drew (S := fun w' => Below W.heap.size W w') (by kernel_rfl) ?hS0 (fun hHeld => ?_)
        case hS0 => exact (Below.refl _ W).drew
        have hS : Below W.heap.size W W.drew := (Below.refl _ W).drew
        clear hHeld
        generalize W.drew = wd at *
        refine wpAnyH_take (i := 0) (v := ?_) rfl (by kernel_rfl) (by kernel_rfl) (by kernel_rfl) (fun _ _ _ h => h) (Or.inl ⟨by kernel_rfl, ?hy⟩) (by assumption) ?_
        case hy => (intro wq hSw; have q0 := (hSw.cell (p := ⟨w.heap.size, 0, none⟩) kl).trans k0; have q1 := (hSw.cell (p := ⟨w.heap.size, 1, none⟩) kl).trans k1; have q2 := (hSw.cell (p := ⟨w.heap.size, 2, none⟩) kl).trans k2; have q3 := (hSw.cell (p := ⟨w.heap.size, 3, none⟩) kl).trans k3; have q4 := (hSw.cell (p := ⟨w.heap.size, 4, none⟩) kl).trans k4; have p0 := (hSw.cell (p := ⟨w.heap.size + 1, 0, none⟩) ll).trans l0; have p1 := (hSw.cell (p := ⟨w.heap.size + 1, 1, none⟩) ll).trans l1; have p2 := (hSw.cell (p := ⟨w.heap.size + 1, 2, none⟩) ll).trans l2; have p3 := (hSw.cell (p := ⟨w.heap.size + 1, 3, none⟩) ll).trans l3; have p4 := (hSw.cell (p := ⟨w.heap.size + 1, 4, none⟩) ll).trans l4; have s1 := Nat.lt_of_lt_of_le kl hSw.size; have s2 := Nat.lt_of_lt_of_le ll hSw.size; go_simp; try (with_reducible rfl))
        try simp only [Act.put, List.setIfInBounds_toArray, List.set_cons_zero, List.set_cons_succ]
        refine wpAnyH_take (i := 2) (v := ?_) rfl (by kernel_rfl) (by kernel_rfl) (by kernel_rfl) (fun _ _ _ h => h) (Or.inl ⟨by kernel_rfl, ?hy⟩) (by assumption) ?_
        case hy => (intro wq hSw; have q0 := (hSw.cell (p := ⟨w.heap.size, 0, none⟩) kl).trans k0; have q1 := (hSw.cell (p := ⟨w.heap.size, 1, none⟩) kl).trans k1; have q2 := (hSw.cell (p := ⟨w.heap.size, 2, none⟩) kl).trans k2; have q3 := (hSw.cell (p := ⟨w.heap.size, 3, none⟩) kl).trans k3; have q4 := (hSw.cell (p := ⟨w.heap.size, 4, none⟩) kl).trans k4; have p0 := (hSw.cell (p := ⟨w.heap.size + 1, 0, none⟩) ll).trans l0; have p1 := (hSw.cell (p := ⟨w.heap.size + 1, 1, none⟩) ll).trans l1; have p2 := (hSw.cell (p := ⟨w.heap.size + 1, 2, none⟩) ll).trans l2; have p3 := (hSw.cell (p := ⟨w.heap.size + 1, 3, none⟩) ll).trans l3; have p4 := (hSw.cell (p := ⟨w.heap.size + 1, 4, none⟩) ll).trans l4; have s1 := Nat.lt_of_lt_of_le kl hSw.size; have s2 := Nat.lt_of_lt_of_le ll hSw.size; go_simp; try (with_reducible rfl))
        try simp only [Act.put, List.setIfInBounds_toArray, List.set_cons_zero, List.set_cons_succ]
        refine wpAnyH_take (i := 4) (v := ?_) rfl (by kernel_rfl) (by kernel_rfl) (by kernel_rfl) (fun _ _ _ h => h) (Or.inl ⟨by kernel_rfl, ?hy⟩) (by assumption) ?_
        case hy => (intro wq hSw; have q0 := (hSw.cell (p := ⟨w.heap.size, 0, none⟩) kl).trans k0; have q1 := (hSw.cell (p := ⟨w.heap.size, 1, none⟩) kl).trans k1; have q2 := (hSw.cell (p := ⟨w.heap.size, 2, none⟩) kl).trans k2; have q3 := (hSw.cell (p := ⟨w.heap.size, 3, none⟩) kl).trans k3; have q4 := (hSw.cell (p := ⟨w.heap.size, 4, none⟩) kl).trans k4; have p0 := (hSw.cell (p := ⟨w.heap.size + 1, 0, none⟩) ll).trans l0; have p1 := (hSw.cell (p := ⟨w.heap.size + 1, 1, none⟩) ll).trans l1; have p2 := (hSw.cell (p := ⟨w.heap.size + 1, 2, none⟩) ll).trans l2; have p3 := (hSw.cell (p := ⟨w.heap.size + 1, 3, none⟩) ll).trans l3; have p4 := (hSw.cell (p := ⟨w.heap.size + 1, 4, none⟩) ll).trans l4; have s1 := Nat.lt_of_lt_of_le kl hSw.size; have s2 := Nat.lt_of_lt_of_le ll hSw.size; go_simp; try (with_reducible rfl))
        try simp only [Act.put, List.setIfInBounds_toArray, List.set_cons_zero, List.set_cons_succ]
        refine wpAnyH_take (i := 5) (v := ?_) rfl (by kernel_rfl) (by kernel_rfl) (by kernel_rfl) (fun _ _ _ h => h) (Or.inl ⟨by kernel_rfl, ?hy⟩) (by assumption) ?_
        case hy => (intro wq hSw; have q0 := (hSw.cell (p := ⟨w.heap.size, 0, none⟩) kl).trans k0; have q1 := (hSw.cell (p := ⟨w.heap.size, 1, none⟩) kl).trans k1; have q2 := (hSw.cell (p := ⟨w.heap.size, 2, none⟩) kl).trans k2; have q3 := (hSw.cell (p := ⟨w.heap.size, 3, none⟩) kl).trans k3; have q4 := (hSw.cell (p := ⟨w.heap.size, 4, none⟩) kl).trans k4; have p0 := (hSw.cell (p := ⟨w.heap.size + 1, 0, none⟩) ll).trans l0; have p1 := (hSw.cell (p := ⟨w.heap.size + 1, 1, none⟩) ll).trans l1; have p2 := (hSw.cell (p := ⟨w.heap.size + 1, 2, none⟩) ll).trans l2; have p3 := (hSw.cell (p := ⟨w.heap.size + 1, 3, none⟩) ll).trans l3; have p4 := (hSw.cell (p := ⟨w.heap.size + 1, 4, none⟩) ll).trans l4; have s1 := Nat.lt_of_lt_of_le kl hSw.size; have s2 := Nat.lt_of_lt_of_le ll hSw.size; go_simp; try (with_reducible rfl))
        try simp only [Act.put, List.setIfInBounds_toArray, List.set_cons_zero, List.set_cons_succ]
        refine wpAnyH_take (i := 6) (v := ?_) rfl (by kernel_rfl) (by kernel_rfl) (by kernel_rfl) (fun _ _ _ h => h) (Or.inl ⟨by kernel_rfl, ?hy⟩) (by assumption) ?_
        case hy => (intro wq hSw; have q0 := (hSw.cell (p := ⟨w.heap.size, 0, none⟩) kl).trans k0; have q1 := (hSw.cell (p := ⟨w.heap.size, 1, none⟩) kl).trans k1; have q2 := (hSw.cell (p := ⟨w.heap.size, 2, none⟩) kl).trans k2; have q3 := (hSw.cell (p := ⟨w.heap.size, 3, none⟩) kl).trans k3; have q4 := (hSw.cell (p := ⟨w.heap.size, 4, none⟩) kl).trans k4; have p0 := (hSw.cell (p := ⟨w.heap.size + 1, 0, none⟩) ll).trans l0; have p1 := (hSw.cell (p := ⟨w.heap.size + 1, 1, none⟩) ll).trans l1; have p2 := (hSw.cell (p := ⟨w.heap.size + 1, 2, none⟩) ll).trans l2; have p3 := (hSw.cell (p := ⟨w.heap.size + 1, 3, none⟩) ll).trans l3; have p4 := (hSw.cell (p := ⟨w.heap.size + 1, 4, none⟩) ll).trans l4; have s1 := Nat.lt_of_lt_of_le kl hSw.size; have s2 := Nat.lt_of_lt_of_le ll hSw.size; go_simp; try (with_reducible rfl))
        try simp only [Act.put, List.setIfInBounds_toArray, List.set_cons_zero, List.set_cons_succ]
        refine wpAnyH_take (i := 7) (v := ?_) rfl (by kernel_rfl) (by kernel_rfl) (by kernel_rfl) (fun _ _ _ h => h) (Or.inl ⟨by kernel_rfl, ?hy⟩) (by assumption) ?_
        case hy => (intro wq hSw; have q0 := (hSw.cell (p := ⟨w.heap.size, 0, none⟩) kl).trans k0; have q1 := (hSw.cell (p := ⟨w.heap.size, 1, none⟩) kl).trans k1; have q2 := (hSw.cell (p := ⟨w.heap.size, 2, none⟩) kl).trans k2; have q3 := (hSw.cell (p := ⟨w.heap.size, 3, none⟩) kl).trans k3; have q4 := (hSw.cell (p := ⟨w.heap.size, 4, none⟩) kl).trans k4; have p0 := (hSw.cell (p := ⟨w.heap.size + 1, 0, none⟩) ll).trans l0; have p1 := (hSw.cell (p := ⟨w.heap.size + 1, 1, none⟩) ll).trans l1; have p2 := (hSw.cell (p := ⟨w.heap.size + 1, 2, none⟩) ll).trans l2; have p3 := (hSw.cell (p := ⟨w.heap.size + 1, 3, none⟩) ll).trans l3; have p4 := (hSw.cell (p := ⟨w.heap.size + 1, 4, none⟩) ll).trans l4; have s1 := Nat.lt_of_lt_of_le kl hSw.size; have s2 := Nat.lt_of_lt_of_le ll hSw.size; go_simp; try (with_reducible rfl))
        try simp only [Act.put, List.setIfInBounds_toArray, List.set_cons_zero, List.set_cons_succ]
        refine wpAnyH_take (i := 8) (v := ?_) rfl (by kernel_rfl) (by kernel_rfl) (by kernel_rfl) (fun _ _ _ h => h) (Or.inl ⟨by kernel_rfl, ?hy⟩) (by assumption) ?_
        case hy => (intro wq hSw; have q0 := (hSw.cell (p := ⟨w.heap.size, 0, none⟩) kl).trans k0; have q1 := (hSw.cell (p := ⟨w.heap.size, 1, none⟩) kl).trans k1; have q2 := (hSw.cell (p := ⟨w.heap.size, 2, none⟩) kl).trans k2; have q3 := (hSw.cell (p := ⟨w.heap.size, 3, none⟩) kl).trans k3; have q4 := (hSw.cell (p := ⟨w.heap.size, 4, none⟩) kl).trans k4; have p0 := (hSw.cell (p := ⟨w.heap.size + 1, 0, none⟩) ll).trans l0; have p1 := (hSw.cell (p := ⟨w.heap.size + 1, 1, none⟩) ll).trans l1; have p2 := (hSw.cell (p := ⟨w.heap.size + 1, 2, none⟩) ll).trans l2; have p3 := (hSw.cell (p := ⟨w.heap.size + 1, 3, none⟩) ll).trans l3; have p4 := (hSw.cell (p := ⟨w.heap.size + 1, 4, none⟩) ll).trans l4; have s1 := Nat.lt_of_lt_of_le kl hSw.size; have s2 := Nat.lt_of_lt_of_le ll hSw.size; go_simp; try (with_reducible rfl))
        try simp only [Act.put, List.setIfInBounds_toArray, List.set_cons_zero, List.set_cons_succ]
        refine wpAnyH_take (i := 10) (v := ?_) rfl (by kernel_rfl) (by kernel_rfl) (by kernel_rfl) (fun _ _ _ h => h) (Or.inl ⟨by kernel_rfl, ?hy⟩) (by assumption) ?_
        case hy => (intro wq hSw; have q0 := (hSw.cell (p := ⟨w.heap.size, 0, none⟩) kl).trans k0; have q1 := (hSw.cell (p := ⟨w.heap.size, 1, none⟩) kl).trans k1; have q2 := (hSw.cell (p := ⟨w.heap.size, 2, none⟩) kl).trans k2; have q3 := (hSw.cell (p := ⟨w.heap.size, 3, none⟩) kl).trans k3; have q4 := (hSw.cell (p := ⟨w.heap.size, 4, none⟩) kl).trans k4; have p0 := (hSw.cell (p := ⟨w.heap.size + 1, 0, none⟩) ll).trans l0; have p1 := (hSw.cell (p := ⟨w.heap.size + 1, 1, none⟩) ll).trans l1; have p2 := (hSw.cell (p := ⟨w.heap.size + 1, 2, none⟩) ll).trans l2; have p3 := (hSw.cell (p := ⟨w.heap.size + 1, 3, none⟩) ll).trans l3; have p4 := (hSw.cell (p := ⟨w.heap.size + 1, 4, none⟩) ll).trans l4; have s1 := Nat.lt_of_lt_of_le kl hSw.size; have s2 := Nat.lt_of_lt_of_le ll hSw.size; go_simp; try (with_reducible rfl))
        try simp only [Act.put, List.setIfInBounds_toArray, List.set_cons_zero, List.set_cons_succ]
        refine wpAnyH_take (i := 11) (v := ?_) rfl (by kernel_rfl) (by kernel_rfl) (by kernel_rfl) (fun _ _ _ h => h) (Or.inl ⟨by kernel_rfl, ?hy⟩) (by assumption) ?_
        case hy => (intro wq hSw; have q0 := (hSw.cell (p := ⟨w.heap.size, 0, none⟩) kl).trans k0; have q1 := (hSw.cell (p := ⟨w.heap.size, 1, none⟩) kl).trans k1; have q2 := (hSw.cell (p := ⟨w.heap.size, 2, none⟩) kl).trans k2; have q3 := (hSw.cell (p := ⟨w.heap.size, 3, none⟩) kl).trans k3; have q4 := (hSw.cell (p := ⟨w.heap.size, 4, none⟩) kl).trans k4; have p0 := (hSw.cell (p := ⟨w.heap.size + 1, 0, none⟩) ll).trans l0; have p1 := (hSw.cell (p := ⟨w.heap.size + 1, 1, none⟩) ll).trans l1; have p2 := (hSw.cell (p := ⟨w.heap.size + 1, 2, none⟩) ll).trans l2; have p3 := (hSw.cell (p := ⟨w.heap.size + 1, 3, none⟩) ll).trans l3; have p4 := (hSw.cell (p := ⟨w.heap.size + 1, 4, none⟩) ll).trans l4; have s1 := Nat.lt_of_lt_of_le kl hSw.size; have s2 := Nat.lt_of_lt_of_le ll hSw.size; go_simp; try (with_reducible rfl))
        try simp only [Act.put, List.setIfInBounds_toArray, List.set_cons_zero, List.set_cons_succ]
        refine wpAnyH_take (i := 19) (v := ?_) rfl (by kernel_rfl) (by kernel_rfl) (by kernel_rfl) (fun _ _ _ h => h) (Or.inl ⟨by kernel_rfl, ?hy⟩) (by assumption) ?_
        case hy => (intro wq hSw; have q0 := (hSw.cell (p := ⟨w.heap.size, 0, none⟩) kl).trans k0; have q1 := (hSw.cell (p := ⟨w.heap.size, 1, none⟩) kl).trans k1; have q2 := (hSw.cell (p := ⟨w.heap.size, 2, none⟩) kl).trans k2; have q3 := (hSw.cell (p := ⟨w.heap.size, 3, none⟩) kl).trans k3; have q4 := (hSw.cell (p := ⟨w.heap.size, 4, none⟩) kl).trans k4; have p0 := (hSw.cell (p := ⟨w.heap.size + 1, 0, none⟩) ll).trans l0; have p1 := (hSw.cell (p := ⟨w.heap.size + 1, 1, none⟩) ll).trans l1; have p2 := (hSw.cell (p := ⟨w.heap.size + 1, 2, none⟩) ll).trans l2; have p3 := (hSw.cell (p := ⟨w.heap.size + 1, 3, none⟩) ll).trans l3; have p4 := (hSw.cell (p := ⟨w.heap.size + 1, 4, none⟩) ll).trans l4; have s1 := Nat.lt_of_lt_of_le kl hSw.size; have s2 := Nat.lt_of_lt_of_le ll hSw.size; go_simp; try (with_reducible rfl))
        try simp only [Act.put, List.setIfInBounds_toArray, List.set_cons_zero, List.set_cons_succ]
        refine wpAnyH_take (i := 20) (v := ?_) rfl (by kernel_rfl) (by kernel_rfl) (by kernel_rfl) (fun _ _ _ h => h) (Or.inl ⟨by kernel_rfl, ?hy⟩) (by assumption) ?_
        case hy => (intro wq hSw; have q0 := (hSw.cell (p := ⟨w.heap.size, 0, none⟩) kl).trans k0; have q1 := (hSw.cell (p := ⟨w.heap.size, 1, none⟩) kl).trans k1; have q2 := (hSw.cell (p := ⟨w.heap.size, 2, none⟩) kl).trans k2; have q3 := (hSw.cell (p := ⟨w.heap.size, 3, none⟩) kl).trans k3; have q4 := (hSw.cell (p := ⟨w.heap.size, 4, none⟩) kl).trans k4; have p0 := (hSw.cell (p := ⟨w.heap.size + 1, 0, none⟩) ll).trans l0; have p1 := (hSw.cell (p := ⟨w.heap.size + 1, 1, none⟩) ll).trans l1; have p2 := (hSw.cell (p := ⟨w.heap.size + 1, 2, none⟩) ll).trans l2; have p3 := (hSw.cell (p := ⟨w.heap.size + 1, 3, none⟩) ll).trans l3; have p4 := (hSw.cell (p := ⟨w.heap.size + 1, 4, none⟩) ll).trans l4; have s1 := Nat.lt_of_lt_of_le kl hSw.size; have s2 := Nat.lt_of_lt_of_le ll hSw.size; go_simp; try (with_reducible rfl))
        try simp only [Act.put, List.setIfInBounds_toArray, List.set_cons_zero, List.set_cons_succ]
        refine wpAnyH_take (i := 21) (v := ?_) rfl (by kernel_rfl) (by kernel_rfl) (by kernel_rfl) (fun _ _ _ h => h) (Or.inl ⟨by kernel_rfl, ?hy⟩) (by assumption) ?_
        case hy => (intro wq hSw; have q0 := (hSw.cell (p := ⟨w.heap.size, 0, none⟩) kl).trans k0; have q1 := (hSw.cell (p := ⟨w.heap.size, 1, none⟩) kl).trans k1; have q2 := (hSw.cell (p := ⟨w.heap.size, 2, none⟩) kl).trans k2; have q3 := (hSw.cell (p := ⟨w.heap.size, 3, none⟩) kl).trans k3; have q4 := (hSw.cell (p := ⟨w.heap.size, 4, none⟩) kl).trans k4; have p0 := (hSw.cell (p := ⟨w.heap.size + 1, 0, none⟩) ll).trans l0; have p1 := (hSw.cell (p := ⟨w.heap.size + 1, 1, none⟩) ll).trans l1; have p2 := (hSw.cell (p := ⟨w.heap.size + 1, 2, none⟩) ll).trans l2; have p3 := (hSw.cell (p := ⟨w.heap.size + 1, 3, none⟩) ll).trans l3; have p4 := (hSw.cell (p := ⟨w.heap.size + 1, 4, none⟩) ll).trans l4; have s1 := Nat.lt_of_lt_of_le kl hSw.size; have s2 := Nat.lt_of_lt_of_le ll hSw.size; go_simp; try (with_reducible rfl))
        try simp only [Act.put, List.setIfInBounds_toArray, List.set_cons_zero, List.set_cons_succ]
        refine wpAnyH_take (i := 22) (v := ?_) rfl (by kernel_rfl) (by kernel_rfl) (by kernel_rfl) (fun _ _ _ h => h) (Or.inl ⟨by kernel_rfl, ?hy⟩) (by assumption) ?_
        case hy => (intro wq hSw; have q0 := (hSw.cell (p := ⟨w.heap.size, 0, none⟩) kl).trans k0; have q1 := (hSw.cell (p := ⟨w.heap.size, 1, none⟩) kl).trans k1; have q2 := (hSw.cell (p := ⟨w.heap.size, 2, none⟩) kl).trans k2; have q3 := (hSw.cell (p := ⟨w.heap.size, 3, none⟩) kl).trans k3; have q4 := (hSw.cell (p := ⟨w.heap.size, 4, none⟩) kl).trans k4; have p0 := (hSw.cell (p := ⟨w.heap.size + 1, 0, none⟩) ll).trans l0; have p1 := (hSw.cell (p := ⟨w.heap.size + 1, 1, none⟩) ll).trans l1; have p2 := (hSw.cell (p := ⟨w.heap.size + 1, 2, none⟩) ll).trans l2; have p3 := (hSw.cell (p := ⟨w.heap.size + 1, 3, none⟩) ll).trans l3; have p4 := (hSw.cell (p := ⟨w.heap.size + 1, 4, none⟩) ll).trans l4; have s1 := Nat.lt_of_lt_of_le kl hSw.size; have s2 := Nat.lt_of_lt_of_le ll hSw.size; go_simp; try (with_reducible rfl))
        try simp only [Act.put, List.setIfInBounds_toArray, List.set_cons_zero, List.set_cons_succ]
        refine wpAnyH_take (i := 23) (v := ?_) rfl (by kernel_rfl) (by kernel_rfl) (by kernel_rfl) (fun _ _ _ h => h) (Or.inl ⟨by kernel_rfl, ?hy⟩) (by assumption) ?_
        case hy => (intro wq hSw; have q0 := (hSw.cell (p := ⟨w.heap.size, 0, none⟩) kl).trans k0; have q1 := (hSw.cell (p := ⟨w.heap.size, 1, none⟩) kl).trans k1; have q2 := (hSw.cell (p := ⟨w.heap.size, 2, none⟩) kl).trans k2; have q3 := (hSw.cell (p := ⟨w.heap.size, 3, none⟩) kl).trans k3; have q4 := (hSw.cell (p := ⟨w.heap.size, 4, none⟩) kl).trans k4; have p0 := (hSw.cell (p := ⟨w.heap.size + 1, 0, none⟩) ll).trans l0; have p1 := (hSw.cell (p := ⟨w.heap.size + 1, 1, none⟩) ll).trans l1; have p2 := (hSw.cell (p := ⟨w.heap.size + 1, 2, none⟩) ll).trans l2; have p3 := (hSw.cell (p := ⟨w.heap.size + 1, 3, none⟩) ll).trans l3; have p4 := (hSw.cell (p := ⟨w.heap.size + 1, 4, none⟩) ll).trans l4; have s1 := Nat.lt_of_lt_of_le kl hSw.size; have s2 := Nat.lt_of_lt_of_le ll hSw.size; go_simp; try (with_reducible rfl))
        try simp only [Act.put, List.setIfInBounds_toArray, List.set_cons_zero, List.set_cons_succ]
        refine wpAnyH_ready (rs := [1]) (by kernel_rfl) (by simp) ?_
        refine AllReadyH.cons rfl (fun K hK => ?_) AllReadyH.nil
        go_simp
        refine (HC1.out _ (b1.trans (hS.mono b1.size))).mono ?_; rintro e w3 ⟨rfl, b3⟩; have hS : Below W.heap.size W w3 := hS.trans (b3.mono hS.size); clear b3
        refine hK.out _ _ hS (fun hHeld => ?_)
        clear hK K hHeld
        try simp only [Act.put, List.setIfInBounds_toArray, List.set_cons_zero, List.set_cons_succ]
        refine wpAnyH_ready (rs := [3]) (by kernel_rfl) (by simp) ?_
        refine AllReadyH.cons rfl (fun K hK => ?_) AllReadyH.nil
        go_simp
        refine (HC2.out _ (b1.trans (hS.mono b1.size))).mono ?_; rintro e w4 ⟨rfl, b3⟩; have hS : Below W.heap.size W w4 := hS.trans (b3.mono hS.size); clear b3
        refine hK.out _ _ hS (fun hHeld => ?_)
        clear hK K hHeld
        try simp only [Act.put, List.setIfInBounds_toArray, List.set_cons_zero, List.set_cons_succ]
        refine wpAnyH_ready (rs := [9]) (by kernel_rfl) (by simp) ?_
        refine AllReadyH.cons rfl (fun K hK => ?_) AllReadyH.nil
        go_simp
        refine (bfaultIf_any _ _ _).mono ?_; rintro e w' ⟨rfl, rfl⟩
        refine hK.out _ _ hS (fun hHeld => ?_)
        clear hK K hHeld
        try simp only [Act.put, List.setIfInBounds_toArray, List.set_cons_zero, List.set_cons_succ]
        refine wpAnyH_take (i := 12) (v := ?_) rfl (by kernel_rfl) (by kernel_rfl) (by kernel_rfl) (fun _ _ _ h => h) (Or.inl ⟨by kernel_rfl, ?hy⟩) (by assumption) ?_
        case hy => (intro wq hSw; have q0 := (hSw.cell (p := ⟨w.heap.size, 0, none⟩) kl).trans k0; have q1 := (hSw.cell (p := ⟨w.heap.size, 1, none⟩) kl).trans k1; have q2 := (hSw.cell (p := ⟨w.heap.size, 2, none⟩) kl).trans k2; have q3 := (hSw.cell (p := ⟨w.heap.size, 3, none⟩) kl).trans k3; have q4 := (hSw.cell (p := ⟨w.heap.size, 4, none⟩) kl).trans k4; have p0 := (hSw.cell (p := ⟨w.heap.size + 1, 0, none⟩) ll).trans l0; have p1 := (hSw.cell (p := ⟨w.heap.size + 1, 1, none⟩) ll).trans l1; have p2 := (hSw.cell (p := ⟨w.heap.size + 1, 2, none⟩) ll).trans l2; have p3 := (hSw.cell (p := ⟨w.heap.size + 1, 3, none⟩) ll).trans l3; have p4 := (hSw.cell (p := ⟨w.heap.size + 1, 4, none⟩) ll).trans l4; have s1 := Nat.lt_of_lt_of_le kl hSw.size; have s2 := Nat.lt_of_lt_of_le ll hSw.size; go_simp; try (with_reducible rfl))
        try simp only [Act.put, List.setIfInBounds_toArray, List.set_cons_zero, List.set_cons_succ]
        refine wpAnyH_take (i := 13) (v := undef) rfl (by kernel_rfl) (by kernel_rfl) (by kernel_rfl) (fun _ _ _ h => h) (Or.inr ⟨by kernel_rfl, rfl⟩) (by assumption) ?_
        try simp only [Act.put, List.setIfInBounds_toArray, List.set_cons_zero, List.set_cons_succ]
        refine wpAnyH_take (i := 14) (v := undef) rfl (by kernel_rfl) (by kernel_rfl) (by kernel_rfl) (fun _ _ _ h => h) (Or.inr ⟨by kernel_rfl, rfl⟩) (by assumption) ?_
        try simp only [Act.put, List.setIfInBounds_toArray, List.set_cons_zero, List.set_cons_succ]
        refine wpAnyH_take (i := 15) (v := undef) rfl (by kernel_rfl) (by kernel_rfl) (by kernel_rfl) (fun _ _ _ h => h) (Or.inr ⟨by kernel_rfl, rfl⟩) (by assumption) ?_
        try simp only [Act.put, List.setIfInBounds_toArray, List.set_cons_zero, List.set_cons_succ]
        refine wpAnyH_take (i := 16) (v := undef) rfl (by kernel_rfl) (by kernel_rfl) (by kernel_rfl) (fun _ _ _ h => h) (Or.inr ⟨by kernel_rfl, rfl⟩) (by assumption) ?_
        try simp only [Act.put, List.setIfInBounds_toArray, List.set_cons_zero, List.set_cons_succ]
        refine wpAnyH_take (i := 17) (v := ?_) rfl (by kernel_rfl) (by kernel_rfl) (by kernel_rfl) (fun _ _ _ h => h) (Or.inl ⟨by kernel_rfl, ?hy⟩) (by assumption) ?_
        case hy => (intro wq hSw; have q0 := (hSw.cell (p := ⟨w.heap.size, 0, none⟩) kl).trans k0; have q1 := (hSw.cell (p := ⟨w.heap.size, 1, none⟩) kl).trans k1; have q2 := (hSw.cell (p := ⟨w.heap.size, 2, none⟩) kl).trans k2; have q3 := (hSw.cell (p := ⟨w.heap.size, 3, none⟩) kl).trans k3; have q4 := (hSw.cell (p := ⟨w.heap.size, 4, none⟩) kl).trans k4; have p0 := (hSw.cell (p := ⟨w.heap.size + 1, 0, none⟩) ll).trans l0; have p1 := (hSw.cell (p := ⟨w.heap.size + 1, 1, none⟩) ll).trans l1; have p2 := (hSw.cell (p := ⟨w.heap.size + 1, 2, none⟩) ll).trans l2; have p3 := (hSw.cell (p := ⟨w.heap.size + 1, 3, none⟩) ll).trans l3; have p4 := (hSw.cell (p := ⟨w.heap.size + 1, 4, none⟩) ll).trans l4; have s1 := Nat.lt_of_lt_of_le kl hSw.size; have s2 := Nat.lt_of_lt_of_le ll hSw.size; go_simp; try (with_reducible rfl))
        try simp only [Act.put, List.setIfInBounds_toArray, List.set_cons_zero, List.set_cons_succ]
        refine wpAnyH_ready (rs := [18]) (by kernel_rfl) (by simp) ?_
        refine AllReadyH.cons rfl (fun K hK => ?_) AllReadyH.nil
        go_simp
        refine (bfaultIf_any _ _ _).mono ?_; rintro e w' ⟨rfl, rfl⟩
        refine hK.out _ _ hS (fun hHeld => ?_)
        clear hK K hHeld
        try simp only [Act.put, List.setIfInBounds_toArray, List.set_cons_zero, List.set_cons_succ]
        refine wpAnyH_take (i := 24) (v := ?_) rfl (by kernel_rfl) (by kernel_rfl) (by kernel_rfl) (fun _ _ _ h => h) (Or.inl ⟨by kernel_rfl, ?hy⟩) (by assumption) ?_
        case hy => (intro wq hSw; have q0 := (hSw.cell (p := ⟨w.heap.size, 0, none⟩) kl).trans k0; have q1 := (hSw.cell (p := ⟨w.heap.size, 1, none⟩) kl).trans k1; have q2 := (hSw.cell (p := ⟨w.heap.size, 2, none⟩) kl).trans k2; have q3 := (hSw.cell (p := ⟨w.heap.size, 3, none⟩) kl).trans k3; have q4 := (hSw.cell (p := ⟨w.heap.size, 4, none⟩) kl).trans k4; have p0 := (hSw.cell (p := ⟨w.heap.size + 1, 0, none⟩) ll).trans l0; have p1 := (hSw.cell (p := ⟨w.heap.size + 1, 1, none⟩) ll).trans l1; have p2 := (hSw.cell (p := ⟨w.heap.size + 1, 2, none⟩) ll).trans l2; have p3 := (hSw.cell (p := ⟨w.heap.size + 1, 3, none⟩) ll).trans l3; have p4 := (hSw.cell (p := ⟨w.heap.size + 1, 4, none⟩) ll).trans l4; have s1 := Nat.lt_of_lt_of_le kl hSw.size; have s2 := Nat.lt_of_lt_of_le ll hSw.size; go_simp; try (with_reducible rfl))
        try simp only [Act.put, List.setIfInBounds_toArray, List.set_cons_zero, List.set_cons_succ]
        refine wpAnyH_take (i := 25) (v := ?_) rfl (by kernel_rfl) (by kernel_rfl) (by kernel_rfl) (fun _ _ _ h => h) (Or.inl ⟨by kernel_rfl, ?hy⟩) (by assumption) ?_
        case hy => (intro wq hSw; have q0 := (hSw.cell (p := ⟨w.heap.size, 0, none⟩) kl).trans k0; have q1 := (hSw.cell (p := ⟨w.heap.size, 1, none⟩) kl).trans k1; have q2 := (hSw.cell (p := ⟨w.heap.size, 2, none⟩) kl).trans k2; have q3 := (hSw.cell (p := ⟨w.heap.size, 3, none⟩) kl).trans k3; have q4 := (hSw.cell (p := ⟨w.heap.size, 4, none⟩) kl).trans k4; have p0 := (hSw.cell (p := ⟨w.heap.size + 1, 0, none⟩) ll).trans l0; have p1 := (hSw.cell (p := ⟨w.heap.size + 1, 1, none⟩) ll).trans l1; have p2 := (hSw.cell (p := ⟨w.heap.size + 1, 2, none⟩) ll).trans l2; have p3 := (hSw.cell (p := ⟨w.heap.size + 1, 3, none⟩) ll).trans l3; have p4 := (hSw.cell (p := ⟨w.heap.size + 1, 4, none⟩) ll).trans l4; have s1 := Nat.lt_of_lt_of_le kl hSw.size; have s2 := Nat.lt_of_lt_of_le ll hSw.size; go_simp; try (with_reducible rfl))
        try simp only [Act.put, List.setIfInBounds_toArray, List.set_cons_zero, List.set_cons_succ]
        refine wpAnyH_take (i := 27) (v := ?_) rfl (by kernel_rfl) (by kernel_rfl) (by kernel_rfl) (fun _ _ _ h => h) (Or.inl ⟨by kernel_rfl, ?hy⟩) (by assumption) ?_
        case hy => (intro wq hSw; have q0 := (hSw.cell (p := ⟨w.heap.size, 0, none⟩) kl).trans k0; have q1 := (hSw.cell (p := ⟨w.heap.size, 1, none⟩) kl).trans k1; have q2 := (hSw.cell (p := ⟨w.heap.size, 2, none⟩) kl).trans k2; have q3 := (hSw.cell (p := ⟨w.heap.size, 3, none⟩) kl).trans k3; have q4 := (hSw.cell (p := ⟨w.heap.size, 4, none⟩) kl).trans k4; have p0 := (hSw.cell (p := ⟨w.heap.size + 1, 0, none⟩) ll).trans l0; have p1 := (hSw.cell (p := ⟨w.heap.size + 1, 1, none⟩) ll).trans l1; have p2 := (hSw.cell (p := ⟨w.heap.size + 1, 2, none⟩) ll).trans l2; have p3 := (hSw.cell (p := ⟨w.heap.size + 1, 3, none⟩) ll).trans l3; have p4 := (hSw.cell (p := ⟨w.heap.size + 1, 4, none⟩) ll).trans l4; have s1 := Nat.lt_of_lt_of_le kl hSw.size; have s2 := Nat.lt_of_lt_of_le ll hSw.size; go_simp; try (with_reducible rfl))
        try simp only [Act.put, List.setIfInBounds_toArray, List.set_cons_zero, List.set_cons_succ]
        refine wpAnyH_ready (rs := [26]) (by kernel_rfl) (by simp) ?_
        refine AllReadyH.cons rfl (fun K hK => ?_) AllReadyH.nil
        go_simp
        refine (HB2.out _).mono ?_; rintro e w6 ⟨rfl, b3⟩; have hS : Below W.heap.size W w6 := hS.trans (b3.mono hS.size); clear b3
        refine hK.out _ _ hS (fun hHeld => ?_)
        clear hK K hHeld
        try simp only [Act.put, List.setIfInBounds_toArray, List.set_cons_zero, List.set_cons_succ]
        refine wpAnyH_ready (rs := [28]) (by kernel_rfl) (by simp) ?_
        refine AllReadyH.cons rfl (fun K hK => ?_) AllReadyH.nil
        go_simp
        refine (HB1.out _).mono ?_; rintro e w7 ⟨rfl, b3⟩; have hS : Below W.heap.size W w7 := hS.trans (b3.mono hS.size); clear b3
        refine hK.out _ _ hS (fun hHeld => ?_)
        clear hK K hHeld
        try simp only [Act.put, List.setIfInBounds_toArray, List.set_cons_zero, List.set_cons_succ]
        refine wpAnyH_take (i := 29) (v := ?_) rfl (by kernel_rfl) (by kernel_rfl) (by kernel_rfl) (fun _ _ _ h => h) (Or.inl ⟨by kernel_rfl, ?hy⟩) (by assumption) ?_
        case hy => (intro wq hSw; have q0 := (hSw.cell (p := ⟨w.heap.size, 0, none⟩) kl).trans k0; have q1 := (hSw.cell (p := ⟨w.heap.size, 1, none⟩) kl).trans k1; have q2 := (hSw.cell (p := ⟨w.heap.size, 2, none⟩) kl).trans k2; have q3 := (hSw.cell (p := ⟨w.heap.size, 3, none⟩) kl).trans k3; have q4 := (hSw.cell (p := ⟨w.heap.size, 4, none⟩) kl).trans k4; have p0 := (hSw.cell (p := ⟨w.heap.size + 1, 0, none⟩) ll).trans l0; have p1 := (hSw.cell (p := ⟨w.heap.size + 1, 1, none⟩) ll).trans l1; have p2 := (hSw.cell (p := ⟨w.heap.size + 1, 2, none⟩) ll).trans l2; have p3 := (hSw.cell (p := ⟨w.heap.size + 1, 3, none⟩) ll).trans l3; have p4 := (hSw.cell (p := ⟨w.heap.size + 1, 4, none⟩) ll).trans l4; have s1 := Nat.lt_of_lt_of_le kl hSw.size; have s2 := Nat.lt_of_lt_of_le ll hSw.size; go_simp; try (with_reducible rfl))
        try simp only [Act.put, List.setIfInBounds_toArray, List.set_cons_zero, List.set_cons_succ]
        refine wpAnyH_take (i := 30) (v := ?_) rfl (by kernel_rfl) (by kernel_rfl) (by kernel_rfl) (fun _ _ _ h => h) (Or.inl ⟨by kernel_rfl, ?hy⟩) (by assumption) ?_
        case hy => (intro wq hSw; have q0 := (hSw.cell (p := ⟨w.heap.size, 0, none⟩) kl).trans k0; have q1 := (hSw.cell (p := ⟨w.heap.size, 1, none⟩) kl).trans k1; have q2 := (hSw.cell (p := ⟨w.heap.size, 2, none⟩) kl).trans k2; have q3 := (hSw.cell (p := ⟨w.heap.size, 3, none⟩) kl).trans k3; have q4 := (hSw.cell (p := ⟨w.heap.size, 4, none⟩) kl).trans k4; have p0 := (hSw.cell (p := ⟨w.heap.size + 1, 0, none⟩) ll).trans l0; have p1 := (hSw.cell (p := ⟨w.heap.size + 1, 1, none⟩) ll).trans l1; have p2 := (hSw.cell (p := ⟨w.heap.size + 1, 2, none⟩) ll).trans l2; have p3 := (hSw.cell (p := ⟨w.heap.size + 1, 3, none⟩) ll).trans l3; have p4 := (hSw.cell (p := ⟨w.heap.size + 1, 4, none⟩) ll).trans l4; have s1 := Nat.lt_of_lt_of_le kl hSw.size; have s2 := Nat.lt_of_lt_of_le ll hSw.size; go_simp; try (with_reducible rfl))
        try simp only [Act.put, List.setIfInBounds_toArray, List.set_cons_zero, List.set_cons_succ]
        refine wpAnyH_ready (rs := [31]) (by kernel_rfl) (by simp) ?_
        refine AllReadyH.cons rfl (fun K hK => ?_) AllReadyH.nil
        go_simp
        refine (bfaultIf_any _ _ _).mono ?_; rintro e w' ⟨rfl, rfl⟩
        refine hK.out _ _ hS (fun hHeld => ?_)
        clear hK K hHeld
        try simp only [Act.put, List.setIfInBounds_toArray, List.set_cons_zero, List.set_cons_succ]
        refine wpAnyH_ready (rs := [32]) (by kernel_rfl) (by simp) ?_
        refine AllReadyH.cons rfl (fun K hK => ?_) AllReadyH.nil
        go_simp
        have hS : Below W.heap.size W (w7.alloc (.cells #[.int .i64 LO, .int .i64 LW, .int .i64 (fIf TGB 6), .int .i64 (fIf false 11), .int .i64 (fIf (decide (B2 < B1)) 8)] 25)) := hS.alloc hS.size _
        refine hK.out _ _ hS (fun hHeld => ?_)
        clear hK K hHeld
        try simp only [Act.put, List.setIfInBounds_toArray, List.set_cons_zero, List.set_cons_succ]
        refine wpAnyH_ready (rs := [33]) (by kernel_rfl) (by simp) ?_
        refine AllReadyH.cons rfl (fun K hK => ?_) AllReadyH.nil
        go_simp
        refine (lfirst5 _ _ _ _ _ _).mono ?_; rintro e w' ⟨rfl, rfl⟩; rw [HZ2.out]
        refine hK.out _ _ hS (fun hHeld => ?_)
        clear hK K hHeld
        try simp only [Act.put, List.setIfInBounds_toArray, List.set_cons_zero, List.set_cons_succ]
        refine wpAnyH_take (i := 34) (v := ?_) rfl (by kernel_rfl) (by kernel_rfl) (by kernel_rfl) (fun _ _ _ h => h) (Or.inl ⟨by kernel_rfl, ?hy⟩) (by assumption) ?_
        case hy => (intro wq hSw; have q0 := (hSw.cell (p := ⟨w.heap.size, 0, none⟩) kl).trans k0; have q1 := (hSw.cell (p := ⟨w.heap.size, 1, none⟩) kl).trans k1; have q2 := (hSw.cell (p := ⟨w.heap.size, 2, none⟩) kl).trans k2; have q3 := (hSw.cell (p := ⟨w.heap.size, 3, none⟩) kl).trans k3; have q4 := (hSw.cell (p := ⟨w.heap.size, 4, none⟩) kl).trans k4; have p0 := (hSw.cell (p := ⟨w.heap.size + 1, 0, none⟩) ll).trans l0; have p1 := (hSw.cell (p := ⟨w.heap.size + 1, 1, none⟩) ll).trans l1; have p2 := (hSw.cell (p := ⟨w.heap.size + 1, 2, none⟩) ll).trans l2; have p3 := (hSw.cell (p := ⟨w.heap.size + 1, 3, none⟩) ll).trans l3; have p4 := (hSw.cell (p := ⟨w.heap.size + 1, 4, none⟩) ll).trans l4; have s1 := Nat.lt_of_lt_of_le kl hSw.size; have s2 := Nat.lt_of_lt_of_le ll hSw.size; go_simp; try (with_reducible rfl))
        try simp only [Act.put, List.setIfInBounds_toArray, List.set_cons_zero, List.set_cons_succ]
        refine wpAnyH_done (by kernel_rfl) ?_ _
        refine NoPanic.normal ?_
        try go_simp
        go_wp2_with fail
        go_meet
        exact ⟨rfl, hS⟩
      · have HZ2 : Hid (fstF [LO, LW, fIf TGB 6, fIf false 11, fIf true 8] = Z) := Lib.hid (HZ.out.symm)
        refine wp_region_noPanic ?_
        refine wp_region_held_drew (S := fun w' => Below W.heap.size W w') (by kernel_rfl) ?hS0 (fun hHeld => ?_)
        case hS0 => exact (Below.refl _ W).drew
        have hS : Below W.heap.size W W.drew := (Below.refl _ W).drew
        clear hHeld
        generalize W.drew = wd at *
        refine wpAnyH_take (i := 0) (v := ?_) rfl (by kernel_rfl) (by kernel_rfl) (by kernel_rfl) (fun _ _ _ h => h) (Or.inl ⟨by kernel_rfl, ?hy⟩) (by assumption) ?_
        case hy => (intro wq hSw; have q0 := (hSw.cell (p := ⟨w.heap.size, 0, none⟩) kl).trans k0; have q1 := (hSw.cell (p := ⟨w.heap.size, 1, none⟩) kl).trans k1; have q2 := (hSw.cell (p := ⟨w.heap.size, 2, none⟩) kl).trans k2; have q3 := (hSw.cell (p := ⟨w.heap.size, 3, none⟩) kl).trans k3; have q4 := (hSw.cell (p := ⟨w.heap.size, 4, none⟩) kl).trans k4; have p0 := (hSw.cell (p := ⟨w.heap.size + 1, 0, none⟩) ll).trans l0; have p1 := (hSw.cell (p := ⟨w.heap.size + 1, 1, none⟩) ll).trans l1; have p2 := (hSw.cell (p := ⟨w.heap.size + 1, 2, none⟩) ll).trans l2; have p3 := (hSw.cell (p := ⟨w.heap.size + 1, 3, none⟩) ll).trans l3; have p4 := (hSw.cell (p := ⟨w.heap.size + 1, 4, none⟩) ll).trans l4; have s1 := Nat.lt_of_lt_of_le kl hSw.size; have s2 := Nat.lt_of_lt_of_le ll hSw.size; go_simp; try (with_reducible rfl))
        try simp only [Act.put, List.setIfInBounds_toArray, List.set_cons_zero, List.set_cons_succ]
        refine wpAnyH_take (i := 2) (v := ?_) rfl (by kernel_rfl) (by kernel_rfl) (by kernel_rfl) (fun _ _ _ h => h) (Or.inl ⟨by kernel_rfl, ?hy⟩) (by assumption) ?_
        case hy => (intro wq hSw; have q0 := (hSw.cell (p := ⟨w.heap.size, 0, none⟩) kl).trans k0; have q1 := (hSw.cell (p := ⟨w.heap.size, 1, none⟩) kl).trans k1; have q2 := (hSw.cell (p := ⟨w.heap.size, 2, none⟩) kl).trans k2; have q3 := (hSw.cell (p := ⟨w.heap.size, 3, none⟩) kl).trans k3; have q4 := (hSw.cell (p := ⟨w.heap.size, 4, none⟩) kl).trans k4; have p0 := (hSw.cell (p := ⟨w.heap.size + 1, 0, none⟩) ll).trans l0; have p1 := (hSw.cell (p := ⟨w.heap.size + 1, 1, none⟩) ll).trans l1; have p2 := (hSw.cell (p := ⟨w.heap.size + 1, 2, none⟩) ll).trans l2; have p3 := (hSw.cell (p := ⟨w.heap.size + 1, 3, none⟩) ll).trans l3; have p4 := (hSw.cell (p := ⟨w.heap.size + 1, 4, none⟩) ll).trans l4; have s1 := Nat.lt_of_lt_of_le kl hSw.size; have s2 := Nat.lt_of_lt_of_le ll hSw.size; go_simp; try (with_reducible rfl))
        try simp only [Act.put, List.setIfInBounds_toArray, List.set_cons_zero, List.set_cons_succ]
        refine wpAnyH_take (i := 4) (v := ?_) rfl (by kernel_rfl) (by kernel_rfl) (by kernel_rfl) (fun _ _ _ h => h) (Or.inl ⟨by kernel_rfl, ?hy⟩) (by assumption) ?_
        case hy => (intro wq hSw; have q0 := (hSw.cell (p := ⟨w.heap.size, 0, none⟩) kl).trans k0; have q1 := (hSw.cell (p := ⟨w.heap.size, 1, none⟩) kl).trans k1; have q2 := (hSw.cell (p := ⟨w.heap.size, 2, none⟩) kl).trans k2; have q3 := (hSw.cell (p := ⟨w.heap.size, 3, none⟩) kl).trans k3; have q4 := (hSw.cell (p := ⟨w.heap.size, 4, none⟩) kl).trans k4; have p0 := (hSw.cell (p := ⟨w.heap.size + 1, 0, none⟩) ll).trans l0; have p1 := (hSw.cell (p := ⟨w.heap.size + 1, 1, none⟩) ll).trans l1; have p2 := (hSw.cell (p := ⟨w.heap.size + 1, 2, none⟩) ll).trans l2; have p3 := (hSw.cell (p := ⟨w.heap.size + 1, 3, none⟩) ll).trans l3; have p4 := (hSw.cell (p := ⟨w.heap.size + 1, 4, none⟩) ll).trans l4; have s1 := Nat.lt_of_lt_of_le kl hSw.size; have s2 := Nat.lt_of_lt_of_le ll hSw.size; go_simp; try (with_reducible rfl))
        try simp only [Act.put, List.setIfInBounds_toArray, List.set_cons_zero, List.set_cons_succ]
        refine wpAnyH_take (i := 5) (v := ?_) rfl (by kernel_rfl) (by kernel_rfl) (by kernel_rfl) (fun _ _ _ h => h) (Or.inl ⟨by kernel_rfl, ?hy⟩) (by assumption) ?_
        case hy => (intro wq hSw; have q0 := (hSw.cell (p := ⟨w.heap.size, 0, none⟩) kl).trans k0; have q1 := (hSw.cell (p := ⟨w.heap.size, 1, none⟩) kl).trans k1; have q2 := (hSw.cell (p := ⟨w.heap.size, 2, none⟩) kl).trans k2; have q3 := (hSw.cell (p := ⟨w.heap.size, 3, none⟩) kl).trans k3; have q4 := (hSw.cell (p := ⟨w.heap.size, 4, none⟩) kl).trans k4; have p0 := (hSw.cell (p := ⟨w.heap.size + 1, 0, none⟩) ll).trans l0; have p1 := (hSw.cell (p := ⟨w.heap.size + 1, 1, none⟩) ll).trans l1; have p2 := (hSw.cell (p := ⟨w.heap.size + 1, 2, none⟩) ll).trans l2; have p3 := (hSw.cell (p := ⟨w.heap.size + 1, 3, none⟩) ll).trans l3; have p4 := (hSw.cell (p := ⟨w.heap.size + 1, 4, none⟩) ll).trans l4; have s1 := Nat.lt_of_lt_of_le kl hSw.size; have s2 := Nat.lt_of_lt_of_le ll hSw.size; go_simp; try (with_reducible rfl))
        try simp only [Act.put, List.setIfInBounds_toArray, List.set_cons_zero, List.set_cons_succ]
        refine wpAnyH_take (i := 6) (v := ?_) rfl (by kernel_rfl) (by kernel_rfl) (by kernel_rfl) (fun _ _ _ h => h) (Or.inl ⟨by kernel_rfl, ?hy⟩) (by assumption) ?_
        case hy => (intro wq hSw; have q0 := (hSw.cell (p := ⟨w.heap.size, 0, none⟩) kl).trans k0; have q1 := (hSw.cell (p := ⟨w.heap.size, 1, none⟩) kl).trans k1; have q2 := (hSw.cell (p := ⟨w.heap.size, 2, none⟩) kl).trans k2; have q3 := (hSw.cell (p := ⟨w.heap.size, 3, none⟩) kl).trans k3; have q4 := (hSw.cell (p := ⟨w.heap.size, 4, none⟩) kl).trans k4; have p0 := (hSw.cell (p := ⟨w.heap.size + 1, 0, none⟩) ll).trans l0; have p1 := (hSw.cell (p := ⟨w.heap.size + 1, 1, none⟩) ll).trans l1; have p2 := (hSw.cell (p := ⟨w.heap.size + 1, 2, none⟩) ll).trans l2; have p3 := (hSw.cell (p := ⟨w.heap.size + 1, 3, none⟩) ll).trans l3; have p4 := (hSw.cell (p := ⟨w.heap.size + 1, 4, none⟩) ll).trans l4; have s1 := Nat.lt_of_lt_of_le kl hSw.size; have s2 := Nat.lt_of_lt_of_le ll hSw.size; go_simp; try (with_reducible rfl))
        try simp only [Act.put, List.setIfInBounds_toArray, List.set_cons_zero, List.set_cons_succ]
        refine wpAnyH_take (i := 7) (v := ?_) rfl (by kernel_rfl) (by kernel_rfl) (by kernel_rfl) (fun _ _ _ h => h) (Or.inl ⟨by kernel_rfl, ?hy⟩) (by assumption) ?_
        case hy => (intro wq hSw; have q0 := (hSw.cell (p := ⟨w.heap.size, 0, none⟩) kl).trans k0; have q1 := (hSw.cell (p := ⟨w.heap.size, 1, none⟩) kl).trans k1; have q2 := (hSw.cell (p := ⟨w.heap.size, 2, none⟩) kl).trans k2; have q3 := (hSw.cell (p := ⟨w.heap.size, 3, none⟩) kl).trans k3; have q4 := (hSw.cell (p := ⟨w.heap.size, 4, none⟩) kl).trans k4; have p0 := (hSw.cell (p := ⟨w.heap.size + 1, 0, none⟩) ll).trans l0; have p1 := (hSw.cell (p := ⟨w.heap.size + 1, 1, none⟩) ll).trans l1; have p2 := (hSw.cell (p := ⟨w.heap.size + 1, 2, none⟩) ll).trans l2; have p3 := (hSw.cell (p := ⟨w.heap.size + 1, 3, none⟩) ll).trans l3; have p4 := (hSw.cell (p := ⟨w.heap.size + 1, 4, none⟩) ll).trans l4; have s1 := Nat.lt_of_lt_of_le kl hSw.size; have s2 := Nat.lt_of_lt_of_le ll hSw.size; go_simp; try (with_reducible rfl))
        try simp only [Act.put, List.setIfInBounds_toArray, List.set_cons_zero, List.set_cons_succ]
        refine wpAnyH_take (i := 8) (v := ?_) rfl (by kernel_rfl) (by kernel_rfl) (by kernel_rfl) (fun _ _ _ h => h) (Or.inl ⟨by kernel_rfl, ?hy⟩) (by assumption) ?_
        case hy => (intro wq hSw; have q0 := (hSw.cell (p := ⟨w.heap.size, 0, none⟩) kl).trans k0; have q1 := (hSw.cell (p := ⟨w.heap.size, 1, none⟩) kl).trans k1; have q2 := (hSw.cell (p := ⟨w.heap.size, 2, none⟩) kl).trans k2; have q3 := (hSw.cell (p := ⟨w.heap.size, 3, none⟩) kl).trans k3; have q4 := (hSw.cell (p := ⟨w.heap.size, 4, none⟩) kl).trans k4; have p0 := (hSw.cell (p := ⟨w.heap.size + 1, 0, none⟩) ll).trans l0; have p1 := (hSw.cell (p := ⟨w.heap.size + 1, 1, none⟩) ll).trans l1; have p2 := (hSw.cell (p := ⟨w.heap.size + 1, 2, none⟩) ll).trans l2; have p3 := (hSw.cell (p := ⟨w.heap.size + 1, 3, none⟩) ll).trans l3; have p4 := (hSw.cell (p := ⟨w.heap.size + 1, 4, none⟩) ll).trans l4; have s1 := Nat.lt_of_lt_of_le kl hSw.size; have s2 := Nat.lt_of_lt_of_le ll hSw.size; go_simp; try (with_reducible rfl))
        try simp only [Act.put, List.setIfInBounds_toArray, List.set_cons_zero, List.set_cons_succ]
        refine wpAnyH_take (i := 10) (v := ?_) rfl (by kernel_rfl) (by kernel_rfl) (by kernel_rfl) (fun _ _ _ h => h) (Or.inl ⟨by kernel_rfl, ?hy⟩) (by assumption) ?_
        case hy => (intro wq hSw; have q0 := (hSw.cell (p := ⟨w.heap.size, 0, none⟩) kl).trans k0; have q1 := (hSw.cell (p := ⟨w.heap.size, 1, none⟩) kl).trans k1; have q2 := (hSw.cell (p := ⟨w.heap.size, 2, none⟩) kl).trans k2; have q3 := (hSw.cell (p := ⟨w.heap.size, 3, none⟩) kl).trans k3; have q4 := (hSw.cell (p := ⟨w.heap.size, 4, none⟩) kl).trans k4; have p0 := (hSw.cell (p := ⟨w.heap.size + 1, 0, none⟩) ll).trans l0; have p1 := (hSw.cell (p := ⟨w.heap.size + 1, 1, none⟩) ll).trans l1; have p2 := (hSw.cell (p := ⟨w.heap.size + 1, 2, none⟩) ll).trans l2; have p3 := (hSw.cell (p := ⟨w.heap.size + 1, 3, none⟩) ll).trans l3; have p4 := (hSw.cell (p := ⟨w.heap.size + 1, 4, none⟩) ll).trans l4; have s1 := Nat.lt_of_lt_of_le kl hSw.size; have s2 := Nat.lt_of_lt_of_le ll hSw.size; go_simp; try (with_reducible rfl))
        try simp only [Act.put, List.setIfInBounds_toArray, List.set_cons_zero, List.set_cons_succ]
        refine wpAnyH_take (i := 11) (v := ?_) rfl (by kernel_rfl) (by kernel_rfl) (by kernel_rfl) (fun _ _ _ h => h) (Or.inl ⟨by kernel_rfl, ?hy⟩) (by assumption) ?_
        case hy => (intro wq hSw; have q0 := (hSw.cell (p := ⟨w.heap.size, 0, none⟩) kl).trans k0; have q1 := (hSw.cell (p := ⟨w.heap.size, 1, none⟩) kl).trans k1; have q2 := (hSw.cell (p := ⟨w.heap.size, 2, none⟩) kl).trans k2; have q3 := (hSw.cell (p := ⟨w.heap.size, 3, none⟩) kl).trans k3; have q4 := (hSw.cell (p := ⟨w.heap.size, 4, none⟩) kl).trans k4; have p0 := (hSw.cell (p := ⟨w.heap.size + 1, 0, none⟩) ll).trans l0; have p1 := (hSw.cell (p := ⟨w.heap.size + 1, 1, none⟩) ll).trans l1; have p2 := (hSw.cell (p := ⟨w.heap.size + 1, 2, none⟩) ll).trans l2; have p3 := (hSw.cell (p := ⟨w.heap.size + 1, 3, none⟩) ll).trans l3; have p4 := (hSw.cell (p := ⟨w.heap.size + 1, 4, none⟩) ll).trans l4; have s1 := Nat.lt_of_lt_of_le kl hSw.size; have s2 := Nat.lt_of_lt_of_le ll hSw.size; go_simp; try (with_reducible rfl))
        try simp only [Act.put, List.setIfInBounds_toArray, List.set_cons_zero, List.set_cons_succ]
        refine wpAnyH_take (i := 19) (v := ?_) rfl (by kernel_rfl) (by kernel_rfl) (by kernel_rfl) (fun _ _ _ h => h) (Or.inl ⟨by kernel_rfl, ?hy⟩) (by assumption) ?_
        case hy => (intro wq hSw; have q0 := (hSw.cell (p := ⟨w.heap.size, 0, none⟩) kl).trans k0; have q1 := (hSw.cell (p := ⟨w.heap.size, 1, none⟩) kl).trans k1; have q2 := (hSw.cell (p := ⟨w.heap.size, 2, none⟩) kl).trans k2; have q3 := (hSw.cell (p := ⟨w.heap.size, 3, none⟩) kl).trans k3; have q4 := (hSw.cell (p := ⟨w.heap.size, 4, none⟩) kl).trans k4; have p0 := (hSw.cell (p := ⟨w.heap.size + 1, 0, none⟩) ll).trans l0; have p1 := (hSw.cell (p := ⟨w.heap.size + 1, 1, none⟩) ll).trans l1; have p2 := (hSw.cell (p := ⟨w.heap.size + 1, 2, none⟩) ll).trans l2; have p3 := (hSw.cell (p := ⟨w.heap.size + 1, 3, none⟩) ll).trans l3; have p4 := (hSw.cell (p := ⟨w.heap.size + 1, 4, none⟩) ll).trans l4; have s1 := Nat.lt_of_lt_of_le kl hSw.size; have s2 := Nat.lt_of_lt_of_le ll hSw.size; go_simp; try (with_reducible rfl))
        try simp only [Act.put, List.setIfInBounds_toArray, List.set_cons_zero, List.set_cons_succ]
        refine wpAnyH_take (i := 20) (v := ?_) rfl (by kernel_rfl) (by kernel_rfl) (by kernel_rfl) (fun _ _ _ h => h) (Or.inl ⟨by kernel_rfl, ?hy⟩) (by assumption) ?_
        case hy => (intro wq hSw; have q0 := (hSw.cell (p := ⟨w.heap.size, 0, none⟩) kl).trans k0; have q1 := (hSw.cell (p := ⟨w.heap.size, 1, none⟩) kl).trans k1; have q2 := (hSw.cell (p := ⟨w.heap.size, 2, none⟩) kl).trans k2; have q3 := (hSw.cell (p := ⟨w.heap.size, 3, none⟩) kl).trans k3; have q4 := (hSw.cell (p := ⟨w.heap.size, 4, none⟩) kl).trans k4; have p0 := (hSw.cell (p := ⟨w.heap.size + 1, 0, none⟩) ll).trans l0; have p1 := (hSw.cell (p := ⟨w.heap.size + 1, 1, none⟩) ll).trans l1; have p2 := (hSw.cell (p := ⟨w.heap.size + 1, 2, none⟩) ll).trans l2; have p3 := (hSw.cell (p := ⟨w.heap.size + 1, 3, none⟩) ll).trans l3; have p4 := (hSw.cell (p := ⟨w.heap.size + 1, 4, none⟩) ll).trans l4; have s1 := Nat.lt_of_lt_of_le kl hSw.size; have s2 := Nat.lt_of_lt_of_le ll hSw.size; go_simp; try (with_reducible rfl))
        try simp only [Act.put, List.setIfInBounds_toArray, List.set_cons_zero, List.set_cons_succ]
        refine wpAnyH_take (i := 21) (v := ?_) rfl (by kernel_rfl) (by kernel_rfl) (by kernel_rfl) (fun _ _ _ h => h) (Or.inl ⟨by kernel_rfl, ?hy⟩) (by assumption) ?_
        case hy => (intro wq hSw; have q0 := (hSw.cell (p := ⟨w.heap.size, 0, none⟩) kl).trans k0; have q1 := (hSw.cell (p := ⟨w.heap.size, 1, none⟩) kl).trans k1; have q2 := (hSw.cell (p := ⟨w.heap.size, 2, none⟩) kl).trans k2; have q3 := (hSw.cell (p := ⟨w.heap.size, 3, none⟩) kl).trans k3; have q4 := (hSw.cell (p := ⟨w.heap.size, 4, none⟩) kl).trans k4; have p0 := (hSw.cell (p := ⟨w.heap.size + 1, 0, none⟩) ll).trans l0; have p1 := (hSw.cell (p := ⟨w.heap.size + 1, 1, none⟩) ll).trans l1; have p2 := (hSw.cell (p := ⟨w.heap.size + 1, 2, none⟩) ll).trans l2; have p3 := (hSw.cell (p := ⟨w.heap.size + 1, 3, none⟩) ll).trans l3; have p4 := (hSw.cell (p := ⟨w.heap.size + 1, 4, none⟩) ll).trans l4; have s1 := Nat.lt_of_lt_of_le kl hSw.size; have s2 := Nat.lt_of_lt_of_le ll hSw.size; go_simp; try (with_reducible rfl))
        try simp only [Act.put, List.setIfInBounds_toArray, List.set_cons_zero, List.set_cons_succ]
        refine wpAnyH_take (i := 22) (v := ?_) rfl (by kernel_rfl) (by kernel_rfl) (by kernel_rfl) (fun _ _ _ h => h) (Or.inl ⟨by kernel_rfl, ?hy⟩) (by assumption) ?_
        case hy => (intro wq hSw; have q0 := (hSw.cell (p := ⟨w.heap.size, 0, none⟩) kl).trans k0; have q1 := (hSw.cell (p := ⟨w.heap.size, 1, none⟩) kl).trans k1; have q2 := (hSw.cell (p := ⟨w.heap.size, 2, none⟩) kl).trans k2; have q3 := (hSw.cell (p := ⟨w.heap.size, 3, none⟩) kl).trans k3; have q4 := (hSw.cell (p := ⟨w.heap.size, 4, none⟩) kl).trans k4; have p0 := (hSw.cell (p := ⟨w.heap.size + 1, 0, none⟩) ll).trans l0; have p1 := (hSw.cell (p := ⟨w.heap.size + 1, 1, none⟩) ll).trans l1; have p2 := (hSw.cell (p := ⟨w.heap.size + 1, 2, none⟩) ll).trans l2; have p3 := (hSw.cell (p := ⟨w.heap.size + 1, 3, none⟩) ll).trans l3; have p4 := (hSw.cell (p := ⟨w.heap.size + 1, 4, none⟩) ll).trans l4; have s1 := Nat.lt_of_lt_of_le kl hSw.size; have s2 := Nat.lt_of_lt_of_le ll hSw.size; go_simp; try (with_reducible rfl))
        try simp only [Act.put, List.setIfInBounds_toArray, List.set_cons_zero, List.set_cons_succ]
        refine wpAnyH_take (i := 23) (v := ?_) rfl (by kernel_rfl) (by kernel_rfl) (by kernel_rfl) (fun _ _ _ h => h) (Or.inl ⟨by kernel_rfl, ?hy⟩) (by assumption) ?_
        case hy => (intro wq hSw; have q0 := (hSw.cell (p := ⟨w.heap.size, 0, none⟩) kl).trans k0; have q1 := (hSw.cell (p := ⟨w.heap.size, 1, none⟩) kl).trans k1; have q2 := (hSw.cell (p := ⟨w.heap.size, 2, none⟩) kl).trans k2; have q3 := (hSw.cell (p := ⟨w.heap.size, 3, none⟩) kl).trans k3; have q4 := (hSw.cell (p := ⟨w.heap.size, 4, none⟩) kl).trans k4; have p0 := (hSw.cell (p := ⟨w.heap.size + 1, 0, none⟩) ll).trans l0; have p1 := (hSw.cell (p := ⟨w.heap.size + 1, 1, none⟩) ll).trans l1; have p2 := (hSw.cell (p := ⟨w.heap.size + 1, 2, none⟩) ll).trans l2; have p3 := (hSw.cell (p := ⟨w.heap.size + 1, 3, none⟩) ll).trans l3; have p4 := (hSw.cell (p := ⟨w.heap.size + 1, 4, none⟩) ll).trans l4; have s1 := Nat.lt_of_lt_of_le kl hSw.size; have s2 := Nat.lt_of_lt_of_le ll hSw.size; go_simp; try (with_reducible rfl))
        try simp only [Act.put, List.setIfInBounds_toArray, List.set_cons_zero, List.set_cons_succ]
        refine wpAnyH_ready (rs := [1]) (by kernel_rfl) (by simp) ?_
        refine AllReadyH.cons rfl (fun K hK => ?_) AllReadyH.nil
        go_simp
        refine (HC1.out _ (b1.trans (hS.mono b1.size))).mono ?_; rintro e w3 ⟨rfl, b3⟩; have hS : Below W.heap.size W w3 := hS.trans (b3.mono hS.size); clear b3
        refine hK.out _ _ hS (fun hHeld => ?_)
        clear hK K hHeld
        try simp only [Act.put, List.setIfInBounds_toArray, List.set_cons_zero, List.set_cons_succ]
        refine wpAnyH_ready (rs := [3]) (by kernel_rfl) (by simp) ?_
        refine AllReadyH.cons rfl (fun K hK => ?_) AllReadyH.nil
        go_simp
        refine (HC2.out _ (b1.trans (hS.mono b1.size))).mono ?_; rintro e w4 ⟨rfl, b3⟩; have hS : Below W.heap.size W w4 := hS.trans (b3.mono hS.size); clear b3
        refine hK.out _ _ hS (fun hHeld => ?_)
        clear hK K hHeld
        try simp only [Act.put, List.setIfInBounds_toArray, List.set_cons_zero, List.set_cons_succ]
        refine wpAnyH_ready (rs := [9]) (by kernel_rfl) (by simp) ?_
        refine AllReadyH.cons rfl (fun K hK => ?_) AllReadyH.nil
        go_simp
        refine (bfaultIf_any _ _ _).mono ?_; rintro e w' ⟨rfl, rfl⟩
        refine hK.out _ _ hS (fun hHeld => ?_)
        clear hK K hHeld
        try simp only [Act.put, List.setIfInBounds_toArray, List.set_cons_zero, List.set_cons_succ]
        refine wpAnyH_take (i := 12) (v := ?_) rfl (by kernel_rfl) (by kernel_rfl) (by kernel_rfl) (fun _ _ _ h => h) (Or.inl ⟨by kernel_rfl, ?hy⟩) (by assumption) ?_
        case hy => (intro wq hSw; have q0 := (hSw.cell (p := ⟨w.heap.size, 0, none⟩) kl).trans k0; have q1 := (hSw.cell (p := ⟨w.heap.size, 1, none⟩) kl).trans k1; have q2 := (hSw.cell (p := ⟨w.heap.size, 2, none⟩) kl).trans k2; have q3 := (hSw.cell (p := ⟨w.heap.size, 3, none⟩) kl).trans k3; have q4 := (hSw.cell (p := ⟨w.heap.size, 4, none⟩) kl).trans k4; have p0 := (hSw.cell (p := ⟨w.heap.size + 1, 0, none⟩) ll).trans l0; have p1 := (hSw.cell (p := ⟨w.heap.size + 1, 1, none⟩) ll).trans l1; have p2 := (hSw.cell (p := ⟨w.heap.size + 1, 2, none⟩) ll).trans l2; have p3 := (hSw.cell (p := ⟨w.heap.size + 1, 3, none⟩) ll).trans l3; have p4 := (hSw.cell (p := ⟨w.heap.size + 1, 4, none⟩) ll).trans l4; have s1 := Nat.lt_of_lt_of_le kl hSw.size; have s2 := Nat.lt_of_lt_of_le ll hSw.size; go_simp; try (with_reducible rfl))
        try simp only [Act.put, List.setIfInBounds_toArray, List.set_cons_zero, List.set_cons_succ]
        refine wpAnyH_take (i := 13) (v := undef) rfl (by kernel_rfl) (by kernel_rfl) (by kernel_rfl) (fun _ _ _ h => h) (Or.inr ⟨by kernel_rfl, rfl⟩) (by assumption) ?_
        try simp only [Act.put, List.setIfInBounds_toArray, List.set_cons_zero, List.set_cons_succ]
        refine wpAnyH_take (i := 14) (v := undef) rfl (by kernel_rfl) (by kernel_rfl) (by kernel_rfl) (fun _ _ _ h => h) (Or.inr ⟨by kernel_rfl, rfl⟩) (by assumption) ?_
        try simp only [Act.put, List.setIfInBounds_toArray, List.set_cons_zero, List.set_cons_succ]
        refine wpAnyH_take (i := 15) (v := undef) rfl (by kernel_rfl) (by kernel_rfl) (by kernel_rfl) (fun _ _ _ h => h) (Or.inr ⟨by kernel_rfl, rfl⟩) (by assumption) ?_
        try simp only [Act.put, List.setIfInBounds_toArray, List.set_cons_zero, List.set_cons_succ]
        refine wpAnyH_take (i := 16) (v := undef) rfl (by kernel_rfl) (by kernel_rfl) (by kernel_rfl) (fun _ _ _ h => h) (Or.inr ⟨by kernel_rfl, rfl⟩) (by assumption) ?_
        try simp only [Act.put, List.setIfInBounds_toArray, List.set_cons_zero, List.set_cons_succ]
        refine wpAnyH_take (i := 17) (v := ?_) rfl (by kernel_rfl) (by kernel_rfl) (by kernel_rfl) (fun _ _ _ h => h) (Or.inl ⟨by kernel_rfl, ?hy⟩) (by assumption) ?_
        case hy => (intro wq hSw; have q0 := (hSw.cell (p := ⟨w.heap.size, 0, none⟩) kl).trans k0; have q1 := (hSw.cell (p := ⟨w.heap.size, 1, none⟩) kl).trans k1; have q2 := (hSw.cell (p := ⟨w.heap.size, 2, none⟩) kl).trans k2; have q3 := (hSw.cell (p := ⟨w.heap.size, 3, none⟩) kl).trans k3; have q4 := (hSw.cell (p := ⟨w.heap.size, 4, none⟩) kl).trans k4; have p0 := (hSw.cell (p := ⟨w.heap.size + 1, 0, none⟩) ll).trans l0; have p1 := (hSw.cell (p := ⟨w.heap.size + 1, 1, none⟩) ll).trans l1; have p2 := (hSw.cell (p := ⟨w.heap.size + 1, 2, none⟩) ll).trans l2; have p3 := (hSw.cell (p := ⟨w.heap.size + 1, 3, none⟩) ll).trans l3; have p4 := (hSw.cell (p := ⟨w.heap.size + 1, 4, none⟩) ll).trans l4; have s1 := Nat.lt_of_lt_of_le kl hSw.size; have s2 := Nat.lt_of_lt_of_le ll hSw.size; go_simp; try (with_reducible rfl))
        try simp only [Act.put, List.setIfInBounds_toArray, List.set_cons_zero, List.set_cons_succ]
        refine wpAnyH_ready (rs := [18]) (by kernel_rfl) (by simp) ?_
        refine AllReadyH.cons rfl (fun K hK => ?_) AllReadyH.nil
        go_simp
        refine (bfaultIf_any _ _ _).mono ?_; rintro e w' ⟨rfl, rfl⟩
        refine hK.out _ _ hS (fun hHeld => ?_)
        clear hK K hHeld
        try simp only [Act.put, List.setIfInBounds_toArray, List.set_cons_zero, List.set_cons_succ]
        refine wpAnyH_take (i := 24) (v := ?_) rfl (by kernel_rfl) (by kernel_rfl) (by kernel_rfl) (fun _ _ _ h => h) (Or.inl ⟨by kernel_rfl, ?hy⟩) (by assumption) ?_
        case hy => (intro wq hSw; have q0 := (hSw.cell (p := ⟨w.heap.size, 0, none⟩) kl).trans k0; have q1 := (hSw.cell (p := ⟨w.heap.size, 1, none⟩) kl).trans k1; have q2 := (hSw.cell (p := ⟨w.heap.size, 2, none⟩) kl).trans k2; have q3 := (hSw.cell (p := ⟨w.heap.size, 3, none⟩) kl).trans k3; have q4 := (hSw.cell (p := ⟨w.heap.size, 4, none⟩) kl).trans k4; have p0 := (hSw.cell (p := ⟨w.heap.size + 1, 0, none⟩) ll).trans l0; have p1 := (hSw.cell (p := ⟨w.heap.size + 1, 1, none⟩) ll).trans l1; have p2 := (hSw.cell (p := ⟨w.heap.size + 1, 2, none⟩) ll).trans l2; have p3 := (hSw.cell (p := ⟨w.heap.size + 1, 3, none⟩) ll).trans l3; have p4 := (hSw.cell (p := ⟨w.heap.size + 1, 4, none⟩) ll).trans l4; have s1 := Nat.lt_of_lt_of_le kl hSw.size; have s2 := Nat.lt_of_lt_of_le ll hSw.size; go_simp; try (with_reducible rfl))
        try simp only [Act.put, List.setIfInBounds_toArray, List.set_cons_zero, List.set_cons_succ]
        refine wpAnyH_take (i := 25) (v := undef) rfl (by kernel_rfl) (by kernel_rfl) (by kernel_rfl) (fun _ _ _ h => h) (Or.inr ⟨by kernel_rfl, rfl⟩) (by assumption) ?_
        try simp only [Act.put, List.setIfInBounds_toArray, List.set_cons_zero, List.set_cons_succ]
        refine wpAnyH_take (i := 26) (v := undef) rfl (by kernel_rfl) (by kernel_rfl) (by kernel_rfl) (fun _ _ _ h => h) (Or.inr ⟨by kernel_rfl, rfl⟩) (by assumption) ?_
        try simp only [Act.put, List.setIfInBounds_toArray, List.set_cons_zero, List.set_cons_succ]
        refine wpAnyH_take (i := 27) (v := undef) rfl (by kernel_rfl) (by kernel_rfl) (by kernel_rfl) (fun _ _ _ h => h) (Or.inr ⟨by kernel_rfl, rfl⟩) (by assumption) ?_
        try simp only [Act.put, List.setIfInBounds_toArray, List.set_cons_zero, List.set_cons_succ]
        refine wpAnyH_take (i := 28) (v := undef) rfl (by kernel_rfl) (by kernel_rfl) (by kernel_rfl) (fun _ _ _ h => h) (Or.inr ⟨by kernel_rfl, rfl⟩) (by assumption) ?_
        try simp only [Act.put, List.setIfInBounds_toArray, List.set_cons_zero, List.set_cons_succ]
        refine wpAnyH_take (i := 29) (v := undef) rfl (by kernel_rfl) (by kernel_rfl) (by kernel_rfl) (fun _ _ _ h => h) (Or.inr ⟨by kernel_rfl, rfl⟩) (by assumption) ?_
        try simp only [Act.put, List.setIfInBounds_toArray, List.set_cons_zero, List.set_cons_succ]
        refine wpAnyH_take (i := 30) (v := ?_) rfl (by kernel_rfl) (by kernel_rfl) (by kernel_rfl) (fun _ _ _ h => h) (Or.inl ⟨by kernel_rfl, ?hy⟩) (by assumption) ?_
        case hy => (intro wq hSw; have q0 := (hSw.cell (p := ⟨w.heap.size, 0, none⟩) kl).trans k0; have q1 := (hSw.cell (p := ⟨w.heap.size, 1, none⟩) kl).trans k1; have q2 := (hSw.cell (p := ⟨w.heap.size, 2, none⟩) kl).trans k2; have q3 := (hSw.cell (p := ⟨w.heap.size, 3, none⟩) kl).trans k3; have q4 := (hSw.cell (p := ⟨w.heap.size, 4, none⟩) kl).trans k4; have p0 := (hSw.cell (p := ⟨w.heap.size + 1, 0, none⟩) ll).trans l0; have p1 := (hSw.cell (p := ⟨w.heap.size + 1, 1, none⟩) ll).trans l1; have p2 := (hSw.cell (p := ⟨w.heap.size + 1, 2, none⟩) ll).trans l2; have p3 := (hSw.cell (p := ⟨w.heap.size + 1, 3, none⟩) ll).trans l3; have p4 := (hSw.cell (p := ⟨w.heap.size + 1, 4, none⟩) ll).trans l4; have s1 := Nat.lt_of_lt_of_le kl hSw.size; have s2 := Nat.lt_of_lt_of_le ll hSw.size; go_simp; try (with_reducible rfl))
        try simp only [Act.put, List.setIfInBounds_toArray, List.set_cons_zero, List.set_cons_succ]
        refine wpAnyH_ready (rs := [31]) (by kernel_rfl) (by simp) ?_
        refine AllReadyH.cons rfl (fun K hK => ?_) AllReadyH.nil
        go_simp
        refine (bfaultIf_any _ _ _).mono ?_; rintro e w' ⟨rfl, rfl⟩
        refine hK.out _ _ hS (fun hHeld => ?_)
        clear hK K hHeld
        try simp only [Act.put, List.setIfInBounds_toArray, List.set_cons_zero, List.set_cons_succ]
        refine wpAnyH_ready (rs := [32]) (by kernel_rfl) (by simp) ?_
        refine AllReadyH.cons rfl (fun K hK => ?_) AllReadyH.nil
        go_simp
        have hS : Below W.heap.size W (w4.alloc (.cells #[.int .i64 LO, .int .i64 LW, .int .i64 (fIf TGB 6), .int .i64 (fIf false 11), .int .i64 (fIf true 8)] 25)) := hS.alloc hS.size _
        refine hK.out _ _ hS (fun hHeld => ?_)
        clear hK K hHeld
        try simp only [Act.put, List.setIfInBounds_toArray, List.set_cons_zero, List.set_cons_succ]
        refine wpAnyH_ready (rs := [33]) (by kernel_rfl) (by simp) ?_
        refine AllReadyH.cons rfl (fun K hK => ?_) AllReadyH.nil
        go_simp
        refine (lfirst5 _ _ _ _ _ _).mono ?_; rintro e w' ⟨rfl, rfl⟩; rw [HZ2.out]
        refine hK.out _ _ hS (fun hHeld => ?_)
        clear hK K hHeld
        try simp only [Act.put, List.setIfInBounds_toArray, List.set_cons_zero, List.set_cons_succ]
        refine wpAnyH_take (i := 34) (v := ?_) rfl (by kernel_rfl) (by kernel_rfl) (by kernel_rfl) (fun _ _ _ h => h) (Or.inl ⟨by kernel_rfl, ?hy⟩) (by assumption) ?_
        case hy => (intro wq hSw; have q0 := (hSw.cell (p := ⟨w.heap.size, 0, none⟩) kl).trans k0; have q1 := (hSw.cell (p := ⟨w.heap.size, 1, none⟩) kl).trans k1; have q2 := (hSw.cell (p := ⟨w.heap.size, 2, none⟩) kl).trans k2; have q3 := (hSw.cell (p := ⟨w.heap.size, 3, none⟩) kl).trans k3; have q4 := (hSw.cell (p := ⟨w.heap.size, 4, none⟩) kl).trans k4; have p0 := (hSw.cell (p := ⟨w.heap.size + 1, 0, none⟩) ll).trans l0; have p1 := (hSw.cell (p := ⟨w.heap.size + 1, 1, none⟩) ll).trans l1; have p2 := (hSw.cell (p := ⟨w.heap.size + 1, 2, none⟩) ll).trans l2; have p3 := (hSw.cell (p := ⟨w.heap.size + 1, 3, none⟩) ll).trans l3; have p4 := (hSw.cell (p := ⟨w.heap.size + 1, 4, none⟩) ll).trans l4; have s1 := Nat.lt_of_lt_of_le kl hSw.size; have s2 := Nat.lt_of_lt_of_le ll hSw.size; go_simp; try (with_reducible rfl))
        try simp only [Act.put, List.setIfInBounds_toArray, List.set_cons_zero, List.set_cons_succ]
        refine wpAnyH_done (by kernel_rfl) ?_ _
        refine NoPanic.normal ?_
        try go_simp
        go_wp2_with fail
        go_meet
        exact ⟨rfl, hS⟩
    · cases D1
      · have HZ2 : Hid (fstF [LO, LW, fIf TGB 6, fIf (!SM) 11, fIf (decide (B2 < B1)) 8] = Z) := Lib.hid (HZ.out.symm)
        refine wp_region_noPanic ?_
        refine wp_region_held_drew (S := fun w' => Below W.heap.size W w') (by kernel_rfl) ?hS0 (fun hHeld => ?_)
        case hS0 => exact (Below.refl _ W).drew
        have hS : Below W.heap.size W W.drew := (Below.refl _ W).drew
        clear hHeld
        generalize W.drew = wd at *
        refine wpAnyH_take (i := 0) (v := ?_) rfl (by kernel_rfl) (by kernel_rfl) (by kernel_rfl) (fun _ _ _ h => h) (Or.inl ⟨by kernel_rfl, ?hy⟩) (by assumption) ?_
        case hy => (intro wq hSw; have q0 := (hSw.cell (p := ⟨w.heap.size, 0, none⟩) kl).trans k0; have q1 := (hSw.cell (p := ⟨w.heap.size, 1, none⟩) kl).trans k1; have q2 := (hSw.cell (p := ⟨w.heap.size, 2, none⟩) kl).trans k2; have q3 := (hSw.cell (p := ⟨w.heap.size, 3, none⟩) kl).trans k3; have q4 := (hSw.cell (p := ⟨w.heap.size, 4, none⟩) kl).trans k4; have p0 := (hSw.cell (p := ⟨w.heap.size + 1, 0, none⟩) ll).trans l0; have p1 := (hSw.cell (p := ⟨w.heap.size + 1, 1, none⟩) ll).trans l1; have p2 := (hSw.cell (p := ⟨w.heap.size + 1, 2, none⟩) ll).trans l2; have p3 := (hSw.cell (p := ⟨w.heap.size + 1, 3, none⟩) ll).trans l3; have p4 := (hSw.cell (p := ⟨w.heap.size + 1, 4, none⟩) ll).trans l4; have s1 := Nat.lt_of_lt_of_le kl hSw.size; have s2 := Nat.lt_of_lt_of_le ll hSw.size; go_simp; try (with_reducible rfl))
        try simp only [Act.put, List.setIfInBounds_toArray, List.set_cons_zero, List.set_cons_succ]
        refine wpAnyH_take (i := 2) (v := ?_) rfl (by kernel_rfl) (by kernel_rfl) (by kernel_rfl) (fun _ _ _ h => h) (Or.inl ⟨by kernel_rfl, ?hy⟩) (by assumption) ?_
        case hy => (intro wq hSw; have q0 := (hSw.cell (p := ⟨w.heap.size, 0, none⟩) kl).trans k0; have q1 := (hSw.cell (p := ⟨w.heap.size, 1, none⟩) kl).trans k1; have q2 := (hSw.cell (p := ⟨w.heap.size, 2, none⟩) kl).trans k2; have q3 := (hSw.cell (p := ⟨w.heap.size, 3, none⟩) kl).trans k3; have q4 := (hSw.cell (p := ⟨w.heap.size, 4, none⟩) kl).trans k4; have p0 := (hSw.cell (p := ⟨w.heap.size + 1, 0, none⟩) ll).trans l0; have p1 := (hSw.cell (p := ⟨w.heap.size + 1, 1, none⟩) ll).trans l1; have p2 := (hSw.cell (p := ⟨w.heap.size + 1, 2, none⟩) ll).trans l2; have p3 := (hSw.cell (p := ⟨w.heap.size + 1, 3, none⟩) ll).trans l3; have p4 := (hSw.cell (p := ⟨w.heap.size + 1, 4, none⟩) ll).trans l4; have s1 := Nat.lt_of_lt_of_le kl hSw.size; have s2 := Nat.lt_of_lt_of_le ll hSw.size; go_simp; try (with_reducible rfl))
        try simp only [Act.put, List.setIfInBounds_toArray, List.set_cons_zero, List.set_cons_succ]
        refine wpAnyH_take (i := 4) (v := ?_) rfl (by kernel_rfl) (by kernel_rfl) (by kernel_rfl) (fun _ _ _ h => h) (Or.inl ⟨by kernel_rfl, ?hy⟩) (by assumption) ?_
        case hy => (intro wq hSw; have q0 := (hSw.cell (p := ⟨w.heap.size, 0, none⟩) kl).trans k0; have q1 := (hSw.cell (p := ⟨w.heap.size, 1, none⟩) kl).trans k1; have q2 := (hSw.cell (p := ⟨w.heap.size, 2, none⟩) kl).trans k2; have q3 := (hSw.cell (p := ⟨w.heap.size, 3, none⟩) kl).trans k3; have q4 := (hSw.cell (p := ⟨w.heap.size, 4, none⟩) kl).trans k4; have p0 := (hSw.cell (p := ⟨w.heap.size + 1, 0, none⟩) ll).trans l0; have p1 := (hSw.cell (p := ⟨w.heap.size + 1, 1, none⟩) ll).trans l1; have p2 := (hSw.cell (p := ⟨w.heap.size + 1, 2, none⟩) ll).trans l2; have p3 := (hSw.cell (p := ⟨w.heap.size + 1, 3, none⟩) ll).trans l3; have p4 := (hSw.cell (p := ⟨w.heap.size + 1, 4, none⟩) ll).trans l4; have s1 := Nat.lt_of_lt_of_le kl hSw.size; have s2 := Nat.lt_of_lt_of_le ll hSw.size; go_simp; try (with_reducible rfl))
        try simp only [Act.put, List.setIfInBounds_toArray, List.set_cons_zero, List.set_cons_succ]
        refine wpAnyH_take (i := 5) (v := ?_) rfl (by kernel_rfl) (by kernel_rfl) (by kernel_rfl) (fun _ _ _ h => h) (Or.inl ⟨by kernel_rfl, ?hy⟩) (by assumption) ?_
        case hy => (intro wq hSw; have q0 := (hSw.cell (p := ⟨w.heap.size, 0, none⟩) kl).trans k0; have q1 := (hSw.cell (p := ⟨w.heap.size, 1, none⟩) kl).trans k1; have q2 := (hSw.cell (p := ⟨w.heap.size, 2, none⟩) kl).trans k2; have q3 := (hSw.cell (p := ⟨w.heap.size, 3, none⟩) kl).trans k3; have q4 := (hSw.cell (p := ⟨w.heap.size, 4, none⟩) kl).trans k4; have p0 := (hSw.cell (p := ⟨w.heap.size + 1, 0, none⟩) ll).trans l0; have p1 := (hSw.cell (p := ⟨w.heap.size + 1, 1, none⟩) ll).trans l1; have p2 := (hSw.cell (p := ⟨w.heap.size + 1, 2, none⟩) ll).trans l2; have p3 := (hSw.cell (p := ⟨w.heap.size + 1, 3, none⟩) ll).trans l3; have p4 := (hSw.cell (p := ⟨w.heap.size + 1, 4, none⟩) ll).trans l4; have s1 := Nat.lt_of_lt_of_le kl hSw.size; have s2 := Nat.lt_of_lt_of_le ll hSw.size; go_simp; try (with_reducible rfl))
        try simp only [Act.put, List.setIfInBounds_toArray, List.set_cons_zero, List.set_cons_succ]
        refine wpAnyH_take (i := 6) (v := ?_) rfl (by kernel_rfl) (by kernel_rfl) (by kernel_rfl) (fun _ _ _ h => h) (Or.inl ⟨by kernel_rfl, ?hy⟩) (by assumption) ?_
        case hy => (intro wq hSw; have q0 := (hSw.cell (p := ⟨w.heap.size, 0, none⟩) kl).trans k0; have q1 := (hSw.cell (p := ⟨w.heap.size, 1, none⟩) kl).trans k1; have q2 := (hSw.cell (p := ⟨w.heap.size, 2, none⟩) kl).trans k2; have q3 := (hSw.cell (p := ⟨w.heap.size, 3, none⟩) kl).trans k3; have q4 := (hSw.cell (p := ⟨w.heap.size, 4, none⟩) kl).trans k4; have p0 := (hSw.cell (p := ⟨w.heap.size + 1, 0, none⟩) ll).trans l0; have p1 := (hSw.cell (p := ⟨w.heap.size + 1, 1, none⟩) ll).trans l1; have p2 := (hSw.cell (p := ⟨w.heap.size + 1, 2, none⟩) ll).trans l2; have p3 := (hSw.cell (p := ⟨w.heap.size + 1, 3, none⟩) ll).trans l3; have p4 := (hSw.cell (p := ⟨w.heap.size + 1, 4, none⟩) ll).trans l4; have s1 := Nat.lt_of_lt_of_le kl hSw.size; have s2 := Nat.lt_of_lt_of_le ll hSw.size; go_simp; try (with_reducible rfl))
        try simp only [Act.put, List.setIfInBounds_toArray, List.set_cons_zero, List.set_cons_succ]
        refine wpAnyH_take (i := 7) (v := ?_) rfl (by kernel_rfl) (by kernel_rfl) (by kernel_rfl) (fun _ _ _ h => h) (Or.inl ⟨by kernel_rfl, ?hy⟩) (by assumption) ?_
        case hy => (intro wq hSw; have q0 := (hSw.cell (p := ⟨w.heap.size, 0, none⟩) kl).trans k0; have q1 := (hSw.cell (p := ⟨w.heap.size, 1, none⟩) kl).trans k1; have q2 := (hSw.cell (p := ⟨w.heap.size, 2, none⟩) kl).trans k2; have q3 := (hSw.cell (p := ⟨w.heap.size, 3, none⟩) kl).trans k3; have q4 := (hSw.cell (p := ⟨w.heap.size, 4, none⟩) kl).trans k4; have p0 := (hSw.cell (p := ⟨w.heap.size + 1, 0, none⟩) ll).trans l0; have p1 := (hSw.cell (p := ⟨w.heap.size + 1, 1, none⟩) ll).trans l1; have p2 := (hSw.cell (p := ⟨w.heap.size + 1, 2, none⟩) ll).trans l2; have p3 := (hSw.cell (p := ⟨w.heap.size + 1, 3, none⟩) ll).trans l3; have p4 := (hSw.cell (p := ⟨w.heap.size + 1, 4, none⟩) ll).trans l4; have s1 := Nat.lt_of_lt_of_le kl hSw.size; have s2 := Nat.lt_of_lt_of_le ll hSw.size; go_simp; try (with_reducible rfl))
        try simp only [Act.put, List.setIfInBounds_toArray, List.set_cons_zero, List.set_cons_succ]
        refine wpAnyH_take (i := 8) (v := ?_) rfl (by kernel_rfl) (by kernel_rfl) (by kernel_rfl) (fun _ _ _ h => h) (Or.inl ⟨by kernel_rfl, ?hy⟩) (by assumption) ?_
        case hy => (intro wq hSw; have q0 := (hSw.cell (p := ⟨w.heap.size, 0, none⟩) kl).trans k0; have q1 := (hSw.cell (p := ⟨w.heap.size, 1, none⟩) kl).trans k1; have q2 := (hSw.cell (p := ⟨w.heap.size, 2, none⟩) kl).trans k2; have q3 := (hSw.cell (p := ⟨w.heap.size, 3, none⟩) kl).trans k3; have q4 := (hSw.cell (p := ⟨w.heap.size, 4, none⟩) kl).trans k4; have p0 := (hSw.cell (p := ⟨w.heap.size + 1, 0, none⟩) ll).trans l0; have p1 := (hSw.cell (p := ⟨w.heap.size + 1, 1, none⟩) ll).trans l1; have p2 := (hSw.cell (p := ⟨w.heap.size + 1, 2, none⟩) ll).trans l2; have p3 := (hSw.cell (p := ⟨w.heap.size + 1, 3, none⟩) ll).trans l3; have p4 := (hSw.cell (p := ⟨w.heap.size + 1, 4, none⟩) ll).trans l4; have s1 := Nat.lt_of_lt_of_le kl hSw.size; have s2 := Nat.lt_of_lt_of_le ll hSw.size; go_simp; try (with_reducible rfl))
        try simp only [Act.put, List.setIfInBounds_toArray, List.set_cons_zero, List.set_cons_succ]
        refine wpAnyH_take (i := 10) (v := ?_) rfl (by kernel_rfl) (by kernel_rfl) (by kernel_rfl) (fun _ _ _ h => h) (Or.inl ⟨by kernel_rfl, ?hy⟩) (by assumption) ?_
        case hy => (intro wq hSw; have q0 := (hSw.cell (p := ⟨w.heap.size, 0, none⟩) kl).trans k0; have q1 := (hSw.cell (p := ⟨w.heap.size, 1, none⟩) kl).trans k1; have q2 := (hSw.cell (p := ⟨w.heap.size, 2, none⟩) kl).trans k2; have q3 := (hSw.cell (p := ⟨w.heap.size, 3, none⟩) kl).trans k3; have q4 := (hSw.cell (p := ⟨w.heap.size, 4, none⟩) kl).trans k4; have p0 := (hSw.cell (p := ⟨w.heap.size + 1, 0, none⟩) ll).trans l0; have p1 := (hSw.cell (p := ⟨w.heap.size + 1, 1, none⟩) ll).trans l1; have p2 := (hSw.cell (p := ⟨w.heap.size + 1, 2, none⟩) ll).trans l2; have p3 := (hSw.cell (p := ⟨w.heap.size + 1, 3, none⟩) ll).trans l3; have p4 := (hSw.cell (p := ⟨w.heap.size + 1, 4, none⟩) ll).trans l4; have s1 := Nat.lt_of_lt_of_le kl hSw.size; have s2 := Nat.lt_of_lt_of_le ll hSw.size; go_simp; try (with_reducible rfl))
        try simp only [Act.put, List.setIfInBounds_toArray, List.set_cons_zero, List.set_cons_succ]
        refine wpAnyH_take (i := 11) (v := ?_) rfl (by kernel_rfl) (by kernel_rfl) (by kernel_rfl) (fun _ _ _ h => h) (Or.inl ⟨by kernel_rfl, ?hy⟩) (by assumption) ?_
        case hy => (intro wq hSw; have q0 := (hSw.cell (p := ⟨w.heap.size, 0, none⟩) kl).trans k0; have q1 := (hSw.cell (p := ⟨w.heap.size, 1, none⟩) kl).trans k1; have q2 := (hSw.cell (p := ⟨w.heap.size, 2, none⟩) kl).trans k2; have q3 := (hSw.cell (p := ⟨w.heap.size, 3, none⟩) kl).trans k3; have q4 := (hSw.cell (p := ⟨w.heap.size, 4, none⟩) kl).trans k4; have p0 := (hSw.cell (p := ⟨w.heap.size + 1, 0, none⟩) ll).trans l0; have p1 := (hSw.cell (p := ⟨w.heap.size + 1, 1, none⟩) ll).trans l1; have p2 := (hSw.cell (p := ⟨w.heap.size + 1, 2, none⟩) ll).trans l2; have p3 := (hSw.cell (p := ⟨w.heap.size + 1, 3, none⟩) ll).trans l3; have p4 := (hSw.cell (p := ⟨w.heap.size + 1, 4, none⟩) ll).trans l4; have s1 := Nat.lt_of_lt_of_le kl hSw.size; have s2 := Nat.lt_of_lt_of_le ll hSw.size; go_simp; try (with_reducible rfl))
        try simp only [Act.put, List.setIfInBounds_toArray, List.set_cons_zero, List.set_cons_succ]
        refine wpAnyH_take (i := 19) (v := ?_) rfl (by kernel_rfl) (by kernel_rfl) (by kernel_rfl) (fun _ _ _ h => h) (Or.inl ⟨by kernel_rfl, ?hy⟩) (by assumption) ?_
        case hy => (intro wq hSw; have q0 := (hSw.cell (p := ⟨w.heap.size, 0, none⟩) kl).trans k0; have q1 := (hSw.cell (p := ⟨w.heap.size, 1, none⟩) kl).trans k1; have q2 := (hSw.cell (p := ⟨w.heap.size, 2, none⟩) kl).trans k2; have q3 := (hSw.cell (p := ⟨w.heap.size, 3, none⟩) kl).trans k3; have q4 := (hSw.cell (p := ⟨w.heap.size, 4, none⟩) kl).trans k4; have p0 := (hSw.cell (p := ⟨w.heap.size + 1, 0, none⟩) ll).trans l0; have p1 := (hSw.cell (p := ⟨w.heap.size + 1, 1, none⟩) ll).trans l1; have p2 := (hSw.cell (p := ⟨w.heap.size + 1, 2, none⟩) ll).trans l2; have p3 := (hSw.cell (p := ⟨w.heap.size + 1, 3, none⟩) ll).trans l3; have p4 := (hSw.cell (p := ⟨w.heap.size + 1, 4, none⟩) ll).trans l4; have s1 := Nat.lt_of_lt_of_le kl hSw.size; have s2 := Nat.lt_of_lt_of_le ll hSw.size; go_simp; try (with_reducible rfl))
        try simp only [Act.put, List.setIfInBounds_toArray, List.set_cons_zero, List.set_cons_succ]
        refine wpAnyH_take (i := 20) (v := ?_) rfl (by kernel_rfl) (by kernel_rfl) (by kernel_rfl) (fun _ _ _ h => h) (Or.inl ⟨by kernel_rfl, ?hy⟩) (by assumption) ?_
        case hy => (intro wq hSw; have q0 := (hSw.cell (p := ⟨w.heap.size, 0, none⟩) kl).trans k0; have q1 := (hSw.cell (p := ⟨w.heap.size, 1, none⟩) kl).trans k1; have q2 := (hSw.cell (p := ⟨w.heap.size, 2, none⟩) kl).trans k2; have q3 := (hSw.cell (p := ⟨w.heap.size, 3, none⟩) kl).trans k3; have q4 := (hSw.cell (p := ⟨w.heap.size, 4, none⟩) kl).trans k4; have p0 := (hSw.cell (p := ⟨w.heap.size + 1, 0, none⟩) ll).trans l0; have p1 := (hSw.cell (p := ⟨w.heap.size + 1, 1, none⟩) ll).trans l1; have p2 := (hSw.cell (p := ⟨w.heap.size + 1, 2, none⟩) ll).trans l2; have p3 := (hSw.cell (p := ⟨w.heap.size + 1, 3, none⟩) ll).trans l3; have p4 := (hSw.cell (p := ⟨w.heap.size + 1, 4, none⟩) ll).trans l4; have s1 := Nat.lt_of_lt_of_le kl hSw.size; have s2 := Nat.lt_of_lt_of_le ll hSw.size; go_simp; try (with_reducible rfl))
        try simp only [Act.put, List.setIfInBounds_toArray, List.set_cons_zero, List.set_cons_succ]
        refine wpAnyH_take (i := 21) (v := ?_) rfl (by kernel_rfl) (by kernel_rfl) (by kernel_rfl) (fun _ _ _ h => h) (Or.inl ⟨by kernel_rfl, ?hy⟩) (by assumption) ?_
        case hy => (intro wq hSw; have q0 := (hSw.cell (p := ⟨w.heap.size, 0, none⟩) kl).trans k0; have q1 := (hSw.cell (p := ⟨w.heap.size, 1, none⟩) kl).trans k1; have q2 := (hSw.cell (p := ⟨w.heap.size, 2, none⟩) kl).trans k2; have q3 := (hSw.cell (p := ⟨w.heap.size, 3, none⟩) kl).trans k3; have q4 := (hSw.cell (p := ⟨w.heap.size, 4, none⟩) kl).trans k4; have p0 := (hSw.cell (p := ⟨w.heap.size + 1, 0, none⟩) ll).trans l0; have p1 := (hSw.cell (p := ⟨w.heap.size + 1, 1, none⟩) ll).trans l1; have p2 := (hSw.cell (p := ⟨w.heap.size + 1, 2, none⟩) ll).trans l2; have p3 := (hSw.cell (p := ⟨w.heap.size + 1, 3, none⟩) ll).trans l3; have p4 := (hSw.cell (p := ⟨w.heap.size + 1, 4, none⟩) ll).trans l4; have s1 := Nat.lt_of_lt_of_le kl hSw.size; have s2 := Nat.lt_of_lt_of_le ll hSw.size; go_simp; try (with_reducible rfl))
        try simp only [Act.put, List.setIfInBounds_toArray, List.set_cons_zero, List.set_cons_succ]
        refine wpAnyH_take (i := 22) (v := ?_) rfl (by kernel_rfl) (by kernel_rfl) (by kernel_rfl) (fun _ _ _ h => h) (Or.inl ⟨by kernel_rfl, ?hy⟩) (by assumption) ?_
        case hy => (intro wq hSw; have q0 := (hSw.cell (p := ⟨w.heap.size, 0, none⟩) kl).trans k0; have q1 := (hSw.cell (p := ⟨w.heap.size, 1, none⟩) kl).trans k1; have q2 := (hSw.cell (p := ⟨w.heap.size, 2, none⟩) kl).trans k2; have q3 := (hSw.cell (p := ⟨w.heap.size, 3, none⟩) kl).trans k3; have q4 := (hSw.cell (p := ⟨w.heap.size, 4, none⟩) kl).trans k4; have p0 := (hSw.cell (p := ⟨w.heap.size + 1, 0, none⟩) ll).trans l0; have p1 := (hSw.cell (p := ⟨w.heap.size + 1, 1, none⟩) ll).trans l1; have p2 := (hSw.cell (p := ⟨w.heap.size + 1, 2, none⟩) ll).trans l2; have p3 := (hSw.cell (p := ⟨w.heap.size + 1, 3, none⟩) ll).trans l3; have p4 := (hSw.cell (p := ⟨w.heap.size + 1, 4, none⟩) ll).trans l4; have s1 := Nat.lt_of_lt_of_le kl hSw.size; have s2 := Nat.lt_of_lt_of_le ll hSw.size; go_simp; try (with_reducible rfl))
        try simp only [Act.put, List.setIfInBounds_toArray, List.set_cons_zero, List.set_cons_succ]
        refine wpAnyH_take (i := 23) (v := ?_) rfl (by kernel_rfl) (by kernel_rfl) (by kernel_rfl) (fun _ _ _ h => h) (Or.inl ⟨by kernel_rfl, ?hy⟩) (by assumption) ?_
        case hy => (intro wq hSw; have q0 := (hSw.cell (p := ⟨w.heap.size, 0, none⟩) kl).trans k0; have q1 := (hSw.cell (p := ⟨w.heap.size, 1, none⟩) kl).trans k1; have q2 := (hSw.cell (p := ⟨w.heap.size, 2, none⟩) kl).trans k2; have q3 := (hSw.cell (p := ⟨w.heap.size, 3, none⟩) kl).trans k3; have q4 := (hSw.cell (p := ⟨w.heap.size, 4, none⟩) kl).trans k4; have p0 := (hSw.cell (p := ⟨w.heap.size + 1, 0, none⟩) ll).trans l0; have p1 := (hSw.cell (p := ⟨w.heap.size + 1, 1, none⟩) ll).trans l1; have p2 := (hSw.cell (p := ⟨w.heap.size + 1, 2, none⟩) ll).trans l2; have p3 := (hSw.cell (p := ⟨w.heap.size + 1, 3, none⟩) ll).trans l3; have p4 := (hSw.cell (p := ⟨w.heap.size + 1, 4, none⟩) ll).trans l4; have s1 := Nat.lt_of_lt_of_le kl hSw.size; have s2 := Nat.lt_of_lt_of_le ll hSw.size; go_simp; try (with_reducible rfl))
        try simp only [Act.put, List.setIfInBounds_toArray, List.set_cons_zero, List.set_cons_succ]
        refine wpAnyH_ready (rs := [1]) (by kernel_rfl) (by simp) ?_
        refine AllReadyH.cons rfl (fun K hK => ?_) AllReadyH.nil
        go_simp
        refine (HC1.out _ (b1.trans (hS.mono b1.size))).mono ?_; rintro e w3 ⟨rfl, b3⟩; have hS : Below W.heap.size W w3 := hS.trans (b3.mono hS.size); clear b3
        refine hK.out _ _ hS (fun hHeld => ?_)
        clear hK K hHeld
        try simp only [Act.put, List.setIfInBounds_toArray, List.set_cons_zero, List.set_cons_succ]
        refine wpAnyH_ready (rs := [3]) (by kernel_rfl) (by simp) ?_
        refine AllReadyH.cons rfl (fun K hK => ?_) AllReadyH.nil
        go_simp
        refine (HC2.out _ (b1.trans (hS.mono b1.size))).mono ?_; rintro e w4 ⟨rfl, b3⟩; have hS : Below W.heap.size W w4 := hS.trans (b3.mono hS.size); clear b3
        refine hK.out _ _ hS (fun hHeld => ?_)
        clear hK K hHeld
        try simp only [Act.put, List.setIfInBounds_toArray, List.set_cons_zero, List.set_cons_succ]
        refine wpAnyH_ready (rs := [9]) (by kernel_rfl) (by simp) ?_
        refine AllReadyH.cons rfl (fun K hK => ?_) AllReadyH.nil
        go_simp
        refine (bfaultIf_any _ _ _).mono ?_; rintro e w' ⟨rfl, rfl⟩
        refine hK.out _ _ hS (fun hHeld => ?_)
        clear hK K hHeld
        try simp only [Act.put, List.setIfInBounds_toArray, List.set_cons_zero, List.set_cons_succ]
        refine wpAnyH_take (i := 12) (v := ?_) rfl (by kernel_rfl) (by kernel_rfl) (by kernel_rfl) (fun _ _ _ h => h) (Or.inl ⟨by kernel_rfl, ?hy⟩) (by assumption) ?_
        case hy => (intro wq hSw; have q0 := (hSw.cell (p := ⟨w.heap.size, 0, none⟩) kl).trans k0; have q1 := (hSw.cell (p := ⟨w.heap.size, 1, none⟩) kl).trans k1; have q2 := (hSw.cell (p := ⟨w.heap.size, 2, none⟩) kl).trans k2; have q3 := (hSw.cell (p := ⟨w.heap.size, 3, none⟩) kl).trans k3; have q4 := (hSw.cell (p := ⟨w.heap.size, 4, none⟩) kl).trans k4; have p0 := (hSw.cell (p := ⟨w.heap.size + 1, 0, none⟩) ll).trans l0; have p1 := (hSw.cell (p := ⟨w.heap.size + 1, 1, none⟩) ll).trans l1; have p2 := (hSw.cell (p := ⟨w.heap.size + 1, 2, none⟩) ll).trans l2; have p3 := (hSw.cell (p := ⟨w.heap.size + 1, 3, none⟩) ll).trans l3; have p4 := (hSw.cell (p := ⟨w.heap.size + 1, 4, none⟩) ll).trans l4; have s1 := Nat.lt_of_lt_of_le kl hSw.size; have s2 := Nat.lt_of_lt_of_le ll hSw.size; go_simp; try (with_reducible rfl))
        try simp only [Act.put, List.setIfInBounds_toArray, List.set_cons_zero, List.set_cons_succ]
        refine wpAnyH_take (i := 13) (v := ?_) rfl (by kernel_rfl) (by kernel_rfl) (by kernel_rfl) (fun _ _ _ h => h) (Or.inl ⟨by kernel_rfl, ?hy⟩) (by assumption) ?_
        case hy => (intro wq hSw; have q0 := (hSw.cell (p := ⟨w.heap.size, 0, none⟩) kl).trans k0; have q1 := (hSw.cell (p := ⟨w.heap.size, 1, none⟩) kl).trans k1; have q2 := (hSw.cell (p := ⟨w.heap.size, 2, none⟩) kl).trans k2; have q3 := (hSw.cell (p := ⟨w.heap.size, 3, none⟩) kl).trans k3; have q4 := (hSw.cell (p := ⟨w.heap.size, 4, none⟩) kl).trans k4; have p0 := (hSw.cell (p := ⟨w.heap.size + 1, 0, none⟩) ll).trans l0; have p1 := (hSw.cell (p := ⟨w.heap.size + 1, 1, none⟩) ll).trans l1; have p2 := (hSw.cell (p := ⟨w.heap.size + 1, 2, none⟩) ll).trans l2; have p3 := (hSw.cell (p := ⟨w.heap.size + 1, 3, none⟩) ll).trans l3; have p4 := (hSw.cell (p := ⟨w.heap.size + 1, 4, none⟩) ll).trans l4; have s1 := Nat.lt_of_lt_of_le kl hSw.size; have s2 := Nat.lt_of_lt_of_le ll hSw.size; go_simp; try (with_reducible rfl))
        try simp only [Act.put, List.setIfInBounds_toArray, List.set_cons_zero, List.set_cons_succ]
        refine wpAnyH_take (i := 14) (v := ?_) rfl (by kernel_rfl) (by kernel_rfl) (by kernel_rfl) (fun _ _ _ h => h) (Or.inl ⟨by kernel_rfl, ?hy⟩) (by assumption) ?_
        case hy => (intro wq hSw; have q0 := (hSw.cell (p := ⟨w.heap.size, 0, none⟩) kl).trans k0; have q1 := (hSw.cell (p := ⟨w.heap.size, 1, none⟩) kl).trans k1; have q2 := (hSw.cell (p := ⟨w.heap.size, 2, none⟩) kl).trans k2; have q3 := (hSw.cell (p := ⟨w.heap.size, 3, none⟩) kl).trans k3; have q4 := (hSw.cell (p := ⟨w.heap.size, 4, none⟩) kl).trans k4; have p0 := (hSw.cell (p := ⟨w.heap.size + 1, 0, none⟩) ll).trans l0; have p1 := (hSw.cell (p := ⟨w.heap.size + 1, 1, none⟩) ll).trans l1; have p2 := (hSw.cell (p := ⟨w.heap.size + 1, 2, none⟩) ll).trans l2; have p3 := (hSw.cell (p := ⟨w.heap.size + 1, 3, none⟩) ll).trans l3; have p4 := (hSw.cell (p := ⟨w.heap.size + 1, 4, none⟩) ll).trans l4; have s1 := Nat.lt_of_lt_of_le kl hSw.size; have s2 := Nat.lt_of_lt_of_le ll hSw.size; go_simp; try (with_reducible rfl))
        try simp only [Act.put, List.setIfInBounds_toArray, List.set_cons_zero, List.set_cons_succ]
        refine wpAnyH_ready (rs := [15]) (by kernel_rfl) (by simp) ?_
        refine AllReadyH.cons rfl (fun K hK => ?_) AllReadyH.nil
        go_simp
        refine (HSA.out _ (b1.trans (hS.mono b1.size))).mono ?_; rintro e w5 ⟨rfl, b3⟩; have hS : Below W.heap.size W w5 := hS.trans (b3.mono hS.size); clear b3
        refine hK.out _ _ hS (fun hHeld => ?_)
        clear hK K hHeld
        try simp only [Act.put, List.setIfInBounds_toArray, List.set_cons_zero, List.set_cons_succ]
        refine wpAnyH_take (i := 16) (v := ?_) rfl (by kernel_rfl) (by kernel_rfl) (by kernel_rfl) (fun _ _ _ h => h) (Or.inl ⟨by kernel_rfl, ?hy⟩) (by assumption) ?_
        case hy => (intro wq hSw; have q0 := (hSw.cell (p := ⟨w.heap.size, 0, none⟩) kl).trans k0; have q1 := (hSw.cell (p := ⟨w.heap.size, 1, none⟩) kl).trans k1; have q2 := (hSw.cell (p := ⟨w.heap.size, 2, none⟩) kl).trans k2; have q3 := (hSw.cell (p := ⟨w.heap.size, 3, none⟩) kl).trans k3; have q4 := (hSw.cell (p := ⟨w.heap.size, 4, none⟩) kl).trans k4; have p0 := (hSw.cell (p := ⟨w.heap.size + 1, 0, none⟩) ll).trans l0; have p1 := (hSw.cell (p := ⟨w.heap.size + 1, 1, none⟩) ll).trans l1; have p2 := (hSw.cell (p := ⟨w.heap.size + 1, 2, none⟩) ll).trans l2; have p3 := (hSw.cell (p := ⟨w.heap.size + 1, 3, none⟩) ll).trans l3; have p4 := (hSw.cell (p := ⟨w.heap.size + 1, 4, none⟩) ll).trans l4; have s1 := Nat.lt_of_lt_of_le kl hSw.size; have s2 := Nat.lt_of_lt_of_le ll hSw.size; go_simp; try (with_reducible rfl))
        try simp only [Act.put, List.setIfInBounds_toArray, List.set_cons_zero, List.set_cons_succ]
        refine wpAnyH_take (i := 17) (v := ?_) rfl (by kernel_rfl) (by kernel_rfl) (by kernel_rfl) (fun _ _ _ h => h) (Or.inl ⟨by kernel_rfl, ?hy⟩) (by assumption) ?_
        case hy => (intro wq hSw; have q0 := (hSw.cell (p := ⟨w.heap.size, 0, none⟩) kl).trans k0; have q1 := (hSw.cell (p := ⟨w.heap.size, 1, none⟩) kl).trans k1; have q2 := (hSw.cell (p := ⟨w.heap.size, 2, none⟩) kl).trans k2; have q3 := (hSw.cell (p := ⟨w.heap.size, 3, none⟩) kl).trans k3; have q4 := (hSw.cell (p := ⟨w.heap.size, 4, none⟩) kl).trans k4; have p0 := (hSw.cell (p := ⟨w.heap.size + 1, 0, none⟩) ll).trans l0; have p1 := (hSw.cell (p := ⟨w.heap.size + 1, 1, none⟩) ll).trans l1; have p2 := (hSw.cell (p := ⟨w.heap.size + 1, 2, none⟩) ll).trans l2; have p3 := (hSw.cell (p := ⟨w.heap.size + 1, 3, none⟩) ll).trans l3; have p4 := (hSw.cell (p := ⟨w.heap.size + 1, 4, none⟩) ll).trans l4; have s1 := Nat.lt_of_lt_of_le kl hSw.size; have s2 := Nat.lt_of_lt_of_le ll hSw.size; go_simp; try (with_reducible rfl))
        try simp only [Act.put, List.setIfInBounds_toArray, List.set_cons_zero, List.set_cons_succ]
        refine wpAnyH_ready (rs := [18]) (by kernel_rfl) (by simp) ?_
        refine AllReadyH.cons rfl (fun K hK => ?_) AllReadyH.nil
        go_simp
        refine (bfaultIf_any _ _ _).mono ?_; rintro e w' ⟨rfl, rfl⟩
        refine hK.out _ _ hS (fun hHeld => ?_)
        clear hK K hHeld
        try simp only [Act.put, List.setIfInBounds_toArray, List.set_cons_zero, List.set_cons_succ]
        refine wpAnyH_take (i := 24) (v := ?_) rfl (by kernel_rfl) (by kernel_rfl) (by kernel_rfl) (fun _ _ _ h => h) (Or.inl ⟨by kernel_rfl, ?hy⟩) (by assumption) ?_
        case hy => (intro wq hSw; have q0 := (hSw.cell (p := ⟨w.heap.size, 0, none⟩) kl).trans k0; have q1 := (hSw.cell (p := ⟨w.heap.size, 1, none⟩) kl).trans k1; have q2 := (hSw.cell (p := ⟨w.heap.size, 2, none⟩) kl).trans k2; have q3 := (hSw.cell (p := ⟨w.heap.size, 3, none⟩) kl).trans k3; have q4 := (hSw.cell (p := ⟨w.heap.size, 4, none⟩) kl).trans k4; have p0 := (hSw.cell (p := ⟨w.heap.size + 1, 0, none⟩) ll).trans l0; have p1 := (hSw.cell (p := ⟨w.heap.size + 1, 1, none⟩) ll).trans l1; have p2 := (hSw.cell (p := ⟨w.heap.size + 1, 2, none⟩) ll).trans l2; have p3 := (hSw.cell (p := ⟨w.heap.size + 1, 3, none⟩) ll).trans l3; have p4 := (hSw.cell (p := ⟨w.heap.size + 1, 4, none⟩) ll).trans l4; have s1 := Nat.lt_of_lt_of_le kl hSw.size; have s2 := Nat.lt_of_lt_of_le ll hSw.size; go_simp; try (with_reducible rfl))
        try simp only [Act.put, List.setIfInBounds_toArray, List.set_cons_zero, List.set_cons_succ]
        refine wpAnyH_take (i := 25) (v := ?_) rfl (by kernel_rfl) (by kernel_rfl) (by kernel_rfl) (fun _ _ _ h => h) (Or.inl ⟨by kernel_rfl, ?hy⟩) (by assumption) ?_
        case hy => (intro wq hSw; have q0 := (hSw.cell (p := ⟨w.heap.size, 0, none⟩) kl).trans k0; have q1 := (hSw.cell (p := ⟨w.heap.size, 1, none⟩) kl).trans k1; have q2 := (hSw.cell (p := ⟨w.heap.size, 2, none⟩) kl).trans k2; have q3 := (hSw.cell (p := ⟨w.heap.size, 3, none⟩) kl).trans k3; have q4 := (hSw.cell (p := ⟨w.heap.size, 4, none⟩) kl).trans k4; have p0 := (hSw.cell (p := ⟨w.heap.size + 1, 0, none⟩) ll).trans l0; have p1 := (hSw.cell (p := ⟨w.heap.size + 1, 1, none⟩) ll).trans l1; have p2 := (hSw.cell (p := ⟨w.heap.size + 1, 2, none⟩) ll).trans l2; have p3 := (hSw.cell (p := ⟨w.heap.size + 1, 3, none⟩) ll).trans l3; have p4 := (hSw.cell (p := ⟨w.heap.size + 1, 4, none⟩) ll).trans l4; have s1 := Nat.lt_of_lt_of_le kl hSw.size; have s2 := Nat.lt_of_lt_of_le ll hSw.size; go_simp; try (with_reducible rfl))
        try simp only [Act.put, List.setIfInBounds_toArray, List.set_cons_zero, List.set_cons_succ]
        refine wpAnyH_take (i := 27) (v := ?_) rfl (by kernel_rfl) (by kernel_rfl) (by kernel_rfl) (fun _ _ _ h => h) (Or.inl ⟨by kernel_rfl, ?hy⟩) (by assumption) ?_
        case hy => (intro wq hSw; have q0 := (hSw.cell (p := ⟨w.heap.size, 0, none⟩) kl).trans k0; have q1 := (hSw.cell (p := ⟨w.heap.size, 1, none⟩) kl).trans k1; have q2 := (hSw.cell (p := ⟨w.heap.size, 2, none⟩) kl).trans k2; have q3 := (hSw.cell (p := ⟨w.heap.size, 3, none⟩) kl).trans k3; have q4 := (hSw.cell (p := ⟨w.heap.size, 4, none⟩) kl).trans k4; have p0 := (hSw.cell (p := ⟨w.heap.size + 1, 0, none⟩) ll).trans l0; have p1 := (hSw.cell (p := ⟨w.heap.size + 1, 1, none⟩) ll).trans l1; have p2 := (hSw.cell (p := ⟨w.heap.size + 1, 2, none⟩) ll).trans l2; have p3 := (hSw.cell (p := ⟨w.heap.size + 1, 3, none⟩) ll).trans l3; have p4 := (hSw.cell (p := ⟨w.heap.size + 1, 4, none⟩) ll).trans l4; have s1 := Nat.lt_of_lt_of_le kl hSw.size; have s2 := Nat.lt_of_lt_of_le ll hSw.size; go_simp; try (with_reducible rfl))
        try simp only [Act.put, List.setIfInBounds_toArray, List.set_cons_zero, List.set_cons_succ]
        refine wpAnyH_ready (rs := [26]) (by kernel_rfl) (by simp) ?_
        refine AllReadyH.cons rfl (fun K hK => ?_) AllReadyH.nil
        go_simp
        refine (HB2.out _).mono ?_; rintro e w6 ⟨rfl, b3⟩; have hS : Below W.heap.size W w6 := hS.trans (b3.mono hS.size); clear b3
        refine hK.out _ _ hS (fun hHeld => ?_)
        clear hK K hHeld
        try simp only [Act.put, List.setIfInBounds_toArray, List.set_cons_zero, List.set_cons_succ]
        refine wpAnyH_ready (rs := [28]) (by kernel_rfl) (by simp) ?_
        refine AllReadyH.cons rfl (fun K hK => ?_) AllReadyH.nil
        go_simp
        refine (HB1.out _).mono ?_; rintro e w7 ⟨rfl, b3⟩; have hS : Below W.heap.size W w7 := hS.trans (b3.mono hS.size); clear b3
        refine hK.out _ _ hS (fun hHeld => ?_)
        clear hK K hHeld
        try simp only [Act.put, List.setIfInBounds_toArray, List.set_cons_zero, List.set_cons_succ]
        refine wpAnyH_take (i := 29) (v := ?_) rfl (by kernel_rfl) (by kernel_rfl) (by kernel_rfl) (fun _ _ _ h => h) (Or.inl ⟨by kernel_rfl, ?hy⟩) (by assumption) ?_
        case hy => (intro wq hSw; have q0 := (hSw.cell (p := ⟨w.heap.size, 0, none⟩) kl).trans k0; have q1 := (hSw.cell (p := ⟨w.heap.size, 1, none⟩) kl).trans k1; have q2 := (hSw.cell (p := ⟨w.heap.size, 2, none⟩) kl).trans k2; have q3 := (hSw.cell (p := ⟨w.heap.size, 3, none⟩) kl).trans k3; have q4 := (hSw.cell (p := ⟨w.heap.size, 4, none⟩) kl).trans k4; have p0 := (hSw.cell (p := ⟨w.heap.size + 1, 0, none⟩) ll).trans l0; have p1 := (hSw.cell (p := ⟨w.heap.size + 1, 1, none⟩) ll).trans l1; have p2 := (hSw.cell (p := ⟨w.heap.size + 1, 2, none⟩) ll).trans l2; have p3 := (hSw.cell (p := ⟨w.heap.size + 1, 3, none⟩) ll).trans l3; have p4 := (hSw.cell (p := ⟨w.heap.size + 1, 4, none⟩) ll).trans l4; have s1 := Nat.lt_of_lt_of_le kl hSw.size; have s2 := Nat.lt_of_lt_of_le ll hSw.size; go_simp; try (with_reducible rfl))
        try simp only [Act.put, List.setIfInBounds_toArray, List.set_cons_zero, List.set_cons_succ]
        refine wpAnyH_take (i := 30) (v := ?_) rfl (by kernel_rfl) (by kernel_rfl) (by kernel_rfl) (fun _ _ _ h => h) (Or.inl ⟨by kernel_rfl, ?hy⟩) (by assumption) ?_
        case hy => (intro wq hSw; have q0 := (hSw.cell (p := ⟨w.heap.size, 0, none⟩) kl).trans k0; have q1 := (hSw.cell (p := ⟨w.heap.size, 1, none⟩) kl).trans k1; have q2 := (hSw.cell (p := ⟨w.heap.size, 2, none⟩) kl).trans k2; have q3 := (hSw.cell (p := ⟨w.heap.size, 3, none⟩) kl).trans k3; have q4 := (hSw.cell (p := ⟨w.heap.size, 4, none⟩) kl).trans k4; have p0 := (hSw.cell (p := ⟨w.heap.size + 1, 0, none⟩) ll).trans l0; have p1 := (hSw.cell (p := ⟨w.heap.size + 1, 1, none⟩) ll).trans l1; have p2 := (hSw.cell (p := ⟨w.heap.size + 1, 2, none⟩) ll).trans l2; have p3 := (hSw.cell (p := ⟨w.heap.size + 1, 3, none⟩) ll).trans l3; have p4 := (hSw.cell (p := ⟨w.heap.size + 1, 4, none⟩) ll).trans l4; have s1 := Nat.lt_of_lt_of_le kl hSw.size; have s2 := Nat.lt_of_lt_of_le ll hSw.size; go_simp; try (with_reducible rfl))
        try simp only [Act.put, List.setIfInBounds_toArray, List.set_cons_zero, List.set_cons_succ]
        refine wpAnyH_ready (rs := [31]) (by kernel_rfl) (by simp) ?_
        refine AllReadyH.cons rfl (fun K hK => ?_) AllReadyH.nil
        go_simp
        refine (bfaultIf_any _ _ _).mono ?_; rintro e w' ⟨rfl, rfl⟩
        refine hK.out _ _ hS (fun hHeld => ?_)
        clear hK K hHeld
        try simp only [Act.put, List.setIfInBounds_toArray, List.set_cons_zero, List.set_cons_succ]
        refine wpAnyH_ready (rs := [32]) (by kernel_rfl) (by simp) ?_
        refine AllReadyH.cons rfl (fun K hK => ?_) AllReadyH.nil
        go_simp
        have hS : Below W.heap.size W (w7.alloc (.cells #[.int .i64 LO, .int .i64 LW, .int .i64 (fIf TGB 6), .int .i64 (fIf (!SM) 11), .int .i64 (fIf (decide (B2 < B1)) 8)] 25)) := hS.alloc hS.size _
        refine hK.out _ _ hS (fun hHeld => ?_)
        clear hK K hHeld
        try simp only [Act.put, List.setIfInBounds_toArray, List.set_cons_zero, List.set_cons_succ]
        refine wpAnyH_ready (rs := [33]) (by kernel_rfl) (by simp) ?_
        refine AllReadyH.cons rfl (fun K hK => ?_) AllReadyH.nil
        go_simp
        refine (lfirst5 _ _ _ _ _ _).mono ?_; rintro e w' ⟨rfl, rfl⟩; rw [HZ2.out]
        refine hK.out _ _ hS (fun hHeld => ?_)
        clear hK K hHeld
        try simp only [Act.put, List.setIfInBounds_toArray, List.set_cons_zero, List.set_cons_succ]
        refine wpAnyH_take (i := 34) (v := ?_) rfl (by kernel_rfl) (by kernel_rfl) (by kernel_rfl) (fun _ _ _ h => h) (Or.inl ⟨by kernel_rfl, ?hy⟩) (by assumption) ?_
        case hy => (intro wq hSw; have q0 := (hSw.cell (p := ⟨w.heap.size, 0, none⟩) kl).trans k0; have q1 := (hSw.cell (p := ⟨w.heap.size, 1, none⟩) kl).trans k1; have q2 := (hSw.cell (p := ⟨w.heap.size, 2, none⟩) kl).trans k2; have q3 := (hSw.cell (p := ⟨w.heap.size, 3, none⟩) kl).trans k3; have q4 := (hSw.cell (p := ⟨w.heap.size, 4, none⟩) kl).trans k4; have p0 := (hSw.cell (p := ⟨w.heap.size + 1, 0, none⟩) ll).trans l0; have p1 := (hSw.cell (p := ⟨w.heap.size + 1, 1, none⟩) ll).trans l1; have p2 := (hSw.cell (p := ⟨w.heap.size + 1, 2, none⟩) ll).trans l2; have p3 := (hSw.cell (p := ⟨w.heap.size + 1, 3, none⟩) ll).trans l3; have p4 := (hSw.cell (p := ⟨w.heap.size + 1, 4, none⟩) ll).trans l4; have s1 := Nat.lt_of_lt_of_le kl hSw.size; have s2 := Nat.lt_of_lt_of_le ll hSw.size; go_simp; try (with_reducible rfl))
        try simp only [Act.put, List.setIfInBounds_toArray, List.set_cons_zero, List.set_cons_succ]
        refine wpAnyH_done (by kernel_rfl) ?_ _
        refine NoPanic.normal ?_
        try go_simp
        go_wp2_with fail
        go_meet
        exact ⟨rfl, hS⟩
      · have HZ2 : Hid (fstF [LO, LW, fIf TGB 6, fIf (!SM) 11, fIf true 8] = Z) := Lib.hid (HZ.out.symm)
        refine wp_region_noPanic ?_
        refine wp_region_held_drew (S := fun w' => Below W.heap.size W w') (by kernel_rfl) ?hS0 (fun hHeld => ?_)
        case hS0 => exact (Below.refl _ W).drew
        have hS : Below W.heap.size W W.drew := (Below.refl _ W).drew
        clear hHeld
        generalize W.drew = wd at *
        refine wpAnyH_take (i := 0) (v := ?_) rfl (by kernel_rfl) (by kernel_rfl) (by kernel_rfl) (fun _ _ _ h => h) (Or.inl ⟨by kernel_rfl, ?hy⟩) (by assumption) ?_
        case hy => (intro wq hSw; have q0 := (hSw.cell (p := ⟨w.heap.size, 0, none⟩) kl).trans k0; have q1 := (hSw.cell (p := ⟨w.heap.size, 1, none⟩) kl).trans k1; have q2 := (hSw.cell (p := ⟨w.heap.size, 2, none⟩) kl).trans k2; have q3 := (hSw.cell (p := ⟨w.heap.size, 3, none⟩) kl).trans k3; have q4 := (hSw.cell (p := ⟨w.heap.size, 4, none⟩) kl).trans k4; have p0 := (hSw.cell (p := ⟨w.heap.size + 1, 0, none⟩) ll).trans l0; have p1 := (hSw.cell (p := ⟨w.heap.size + 1, 1, none⟩) ll).trans l1; have p2 := (hSw.cell (p := ⟨w.heap.size + 1, 2, none⟩) ll).trans l2; have p3 := (hSw.cell (p := ⟨w.heap.size + 1, 3, none⟩) ll).trans l3; have p4 := (hSw.cell (p := ⟨w.heap.size + 1, 4, none⟩) ll).trans l4; have s1 := Nat.lt_of_lt_of_le kl hSw.size; have s2 := Nat.lt_of_lt_of_le ll hSw.size; go_simp; try (with_reducible rfl))
        try simp only [Act.put, List.setIfInBounds_toArray, List.set_cons_zero, List.set_cons_succ]
        refine wpAnyH_take (i := 2) (v := ?_) rfl (by kernel_rfl) (by kernel_rfl) (by kernel_rfl) (fun _ _ _ h => h) (Or.inl ⟨by kernel_rfl, ?hy⟩) (by assumption) ?_
        case hy => (intro wq hSw; have q0 := (hSw.cell (p := ⟨w.heap.size, 0, none⟩) kl).trans k0; have q1 := (hSw.cell (p := ⟨w.heap.size, 1, none⟩) kl).trans k1; have q2 := (hSw.cell (p := ⟨w.heap.size, 2, none⟩) kl).trans k2; have q3 := (hSw.cell (p := ⟨w.heap.size, 3, none⟩) kl).trans k3; have q4 := (hSw.cell (p := ⟨w.heap.size, 4, none⟩) kl).trans k4; have p0 := (hSw.cell (p := ⟨w.heap.size + 1, 0, none⟩) ll).trans l0; have p1 := (hSw.cell (p := ⟨w.heap.size + 1, 1, none⟩) ll).trans l1; have p2 := (hSw.cell (p := ⟨w.heap.size + 1, 2, none⟩) ll).trans l2; have p3 := (hSw.cell (p := ⟨w.heap.size + 1, 3, none⟩) ll).trans l3; have p4 := (hSw.cell (p := ⟨w.heap.size + 1, 4, none⟩) ll).trans l4; have s1 := Nat.lt_of_lt_of_le kl hSw.size; have s2 := Nat.lt_of_lt_of_le ll hSw.size; go_simp; try (with_reducible rfl))
        try simp only [Act.put, List.setIfInBounds_toArray, List.set_cons_zero, List.set_cons_succ]
        refine wpAnyH_take (i := 4) (v := ?_) rfl (by kernel_rfl) (by kernel_rfl) (by kernel_rfl) (fun _ _ _ h => h) (Or.inl ⟨by kernel_rfl, ?hy⟩) (by assumption) ?_
        case hy => (intro wq hSw; have q0 := (hSw.cell (p := ⟨w.heap.size, 0, none⟩) kl).trans k0; have q1 := (hSw.cell (p := ⟨w.heap.size, 1, none⟩) kl).trans k1; have q2 := (hSw.cell (p := ⟨w.heap.size, 2, none⟩) kl).trans k2; have q3 := (hSw.cell (p := ⟨w.heap.size, 3, none⟩) kl).trans k3; have q4 := (hSw.cell (p := ⟨w.heap.size, 4, none⟩) kl).trans k4; have p0 := (hSw.cell (p := ⟨w.heap.size + 1, 0, none⟩) ll).trans l0; have p1 := (hSw.cell (p := ⟨w.heap.size + 1, 1, none⟩) ll).trans l1; have p2 := (hSw.cell (p := ⟨w.heap.size + 1, 2, none⟩) ll).trans l2; have p3 := (hSw.cell (p := ⟨w.heap.size + 1, 3, none⟩) ll).trans l3; have p4 := (hSw.cell (p := ⟨w.heap.size + 1, 4, none⟩) ll).trans l4; have s1 := Nat.lt_of_lt_of_le kl hSw.size; have s2 := Nat.lt_of_lt_of_le ll hSw.size; go_simp; try (with_reducible rfl))
        try simp only [Act.put, List.setIfInBounds_toArray, List.set_cons_zero, List.set_cons_succ]
        refine wpAnyH_take (i := 5) (v := ?_) rfl (by kernel_rfl) (by kernel_rfl) (by kernel_rfl) (fun _ _ _ h => h) (Or.inl ⟨by kernel_rfl, ?hy⟩) (by assumption) ?_
        case hy => (intro wq hSw; have q0 := (hSw.cell (p := ⟨w.heap.size, 0, none⟩) kl).trans k0; have q1 := (hSw.cell (p := ⟨w.heap.size, 1, none⟩) kl).trans k1; have q2 := (hSw.cell (p := ⟨w.heap.size, 2, none⟩) kl).trans k2; have q3 := (hSw.cell (p := ⟨w.heap.size, 3, none⟩) kl).trans k3; have q4 := (hSw.cell (p := ⟨w.heap.size, 4, none⟩) kl).trans k4; have p0 := (hSw.cell (p := ⟨w.heap.size + 1, 0, none⟩) ll).trans l0; have p1 := (hSw.cell (p := ⟨w.heap.size + 1, 1, none⟩) ll).trans l1; have p2 := (hSw.cell (p := ⟨w.heap.size + 1, 2, none⟩) ll).trans l2; have p3 := (hSw.cell (p := ⟨w.heap.size + 1, 3, none⟩) ll).trans l3; have p4 := (hSw.cell (p := ⟨w.heap.size + 1, 4, none⟩) ll).trans l4; have s1 := Nat.lt_of_lt_of_le kl hSw.size; have s2 := Nat.lt_of_lt_of_le ll hSw.size; go_simp; try (with_reducible rfl))
        try simp only [Act.put, List.setIfInBounds_toArray, List.set_cons_zero, List.set_cons_succ]
        refine wpAnyH_take (i := 6) (v := ?_) rfl (by kernel_rfl) (by kernel_rfl) (by kernel_rfl) (fun _ _ _ h => h) (Or.inl ⟨by kernel_rfl, ?hy⟩) (by assumption) ?_
        case hy => (intro wq hSw; have q0 := (hSw.cell (p := ⟨w.heap.size, 0, none⟩) kl).trans k0; have q1 := (hSw.cell (p := ⟨w.heap.size, 1, none⟩) kl).trans k1; have q2 := (hSw.cell (p := ⟨w.heap.size, 2, none⟩) kl).trans k2; have q3 := (hSw.cell (p := ⟨w.heap.size, 3, none⟩) kl).trans k3; have q4 := (hSw.cell (p := ⟨w.heap.size, 4, none⟩) kl).trans k4; have p0 := (hSw.cell (p := ⟨w.heap.size + 1, 0, none⟩) ll).trans l0; have p1 := (hSw.cell (p := ⟨w.heap.size + 1, 1, none⟩) ll).trans l1; have p2 := (hSw.cell (p := ⟨w.heap.size + 1, 2, none⟩) ll).trans l2; have p3 := (hSw.cell (p := ⟨w.heap.size + 1, 3, none⟩) ll).trans l3; have p4 := (hSw.cell (p := ⟨w.heap.size + 1, 4, none⟩) ll).trans l4; have s1 := Nat.lt_of_lt_of_le kl hSw.size; have s2 := Nat.lt_of_lt_of_le ll hSw.size; go_simp; try (with_reducible rfl))
        try simp only [Act.put, List.setIfInBounds_toArray, List.set_cons_zero, List.set_cons_succ]
        refine wpAnyH_take (i := 7) (v := ?_) rfl (by kernel_rfl) (by kernel_rfl) (by kernel_rfl) (fun _ _ _ h => h) (Or.inl ⟨by kernel_rfl, ?hy⟩) (by assumption) ?_
        case hy => (intro wq hSw; have q0 := (hSw.cell (p := ⟨w.heap.size, 0, none⟩) kl).trans k0; have q1 := (hSw.cell (p := ⟨w.heap.size, 1, none⟩) kl).trans k1; have q2 := (hSw.cell (p := ⟨w.heap.size, 2, none⟩) kl).trans k2; have q3 := (hSw.cell (p := ⟨w.heap.size, 3, none⟩) kl).trans k3; have q4 := (hSw.cell (p := ⟨w.heap.size, 4, none⟩) kl).trans k4; have p0 := (hSw.cell (p := ⟨w.heap.size + 1, 0, none⟩) ll).trans l0; have p1 := (hSw.cell (p := ⟨w.heap.size + 1, 1, none⟩) ll).trans l1; have p2 := (hSw.cell (p := ⟨w.heap.size + 1, 2, none⟩) ll).trans l2; have p3 := (hSw.cell (p := ⟨w.heap.size + 1, 3, none⟩) ll).trans l3; have p4 := (hSw.cell (p := ⟨w.heap.size + 1, 4, none⟩) ll).trans l4; have s1 := Nat.lt_of_lt_of_le kl hSw.size; have s2 := Nat.lt_of_lt_of_le ll hSw.size; go_simp; try (with_reducible rfl))
        try simp only [Act.put, List.setIfInBounds_toArray, List.set_cons_zero, List.set_cons_succ]
        refine wpAnyH_take (i := 8) (v := ?_) rfl (by kernel_rfl) (by kernel_rfl) (by kernel_rfl) (fun _ _ _ h => h) (Or.inl ⟨by kernel_rfl, ?hy⟩) (by assumption) ?_
        case hy => (intro wq hSw; have q0 := (hSw.cell (p := ⟨w.heap.size, 0, none⟩) kl).trans k0; have q1 := (hSw.cell (p := ⟨w.heap.size, 1, none⟩) kl).trans k1; have q2 := (hSw.cell (p := ⟨w.heap.size, 2, none⟩) kl).trans k2; have q3 := (hSw.cell (p := ⟨w.heap.size, 3, none⟩) kl).trans k3; have q4 := (hSw.cell (p := ⟨w.heap.size, 4, none⟩) kl).trans k4; have p0 := (hSw.cell (p := ⟨w.heap.size + 1, 0, none⟩) ll).trans l0; have p1 := (hSw.cell (p := ⟨w.heap.size + 1, 1, none⟩) ll).trans l1; have p2 := (hSw.cell (p := ⟨w.heap.size + 1, 2, none⟩) ll).trans l2; have p3 := (hSw.cell (p := ⟨w.heap.size + 1, 3, none⟩) ll).trans l3; have p4 := (hSw.cell (p := ⟨w.heap.size + 1, 4, none⟩) ll).trans l4; have s1 := Nat.lt_of_lt_of_le kl hSw.size; have s2 := Nat.lt_of_lt_of_le ll hSw.size; go_simp; try (with_reducible rfl))
        try simp only [Act.put, List.setIfInBounds_toArray, List.set_cons_zero, List.set_cons_succ]
        refine wpAnyH_take (i := 10) (v := ?_) rfl (by kernel_rfl) (by kernel_rfl) (by kernel_rfl) (fun _ _ _ h => h) (Or.inl ⟨by kernel_rfl, ?hy⟩) (by assumption) ?_
        case hy => (intro wq hSw; have q0 := (hSw.cell (p := ⟨w.heap.size, 0, none⟩) kl).trans k0; have q1 := (hSw.cell (p := ⟨w.heap.size, 1, none⟩) kl).trans k1; have q2 := (hSw.cell (p := ⟨w.heap.size, 2, none⟩) kl).trans k2; have q3 := (hSw.cell (p := ⟨w.heap.size, 3, none⟩) kl).trans k3; have q4 := (hSw.cell (p := ⟨w.heap.size, 4, none⟩) kl).trans k4; have p0 := (hSw.cell (p := ⟨w.heap.size + 1, 0, none⟩) ll).trans l0; have p1 := (hSw.cell (p := ⟨w.heap.size + 1, 1, none⟩) ll).trans l1; have p2 := (hSw.cell (p := ⟨w.heap.size + 1, 2, none⟩) ll).trans l2; have p3 := (hSw.cell (p := ⟨w.heap.size + 1, 3, none⟩) ll).trans l3; have p4 := (hSw.cell (p := ⟨w.heap.size + 1, 4, none⟩) ll).trans l4; have s1 := Nat.lt_of_lt_of_le kl hSw.size; have s2 := Nat.lt_of_lt_of_le ll hSw.size; go_simp; try (with_reducible rfl))
        try simp only [Act.put, List.setIfInBounds_toArray, List.set_cons_zero, List.set_cons_succ]
        refine wpAnyH_take (i := 11) (v := ?_) rfl (by kernel_rfl) (by kernel_rfl) (by kernel_rfl) (fun _ _ _ h => h) (Or.inl ⟨by kernel_rfl, ?hy⟩) (by assumption) ?_
        case hy => (intro wq hSw; have q0 := (hSw.cell (p := ⟨w.heap.size, 0, none⟩) kl).trans k0; have q1 := (hSw.cell (p := ⟨w.heap.size, 1, none⟩) kl).trans k1; have q2 := (hSw.cell (p := ⟨w.heap.size, 2, none⟩) kl).trans k2; have q3 := (hSw.cell (p := ⟨w.heap.size, 3, none⟩) kl).trans k3; have q4 := (hSw.cell (p := ⟨w.heap.size, 4, none⟩) kl).trans k4; have p0 := (hSw.cell (p := ⟨w.heap.size + 1, 0, none⟩) ll).trans l0; have p1 := (hSw.cell (p := ⟨w.heap.size + 1, 1, none⟩) ll).trans l1; have p2 := (hSw.cell (p := ⟨w.heap.size + 1, 2, none⟩) ll).trans l2; have p3 := (hSw.cell (p := ⟨w.heap.size + 1, 3, none⟩) ll).trans l3; have p4 := (hSw.cell (p := ⟨w.heap.size + 1, 4, none⟩) ll).trans l4; have s1 := Nat.lt_of_lt_of_le kl hSw.size; have s2 := Nat.lt_of_lt_of_le ll hSw.size; go_simp; try (with_reducible rfl))
        try simp only [Act.put, List.setIfInBounds_toArray, List.set_cons_zero, List.set_cons_succ]
        refine wpAnyH_take (i := 19) (v := ?_) rfl (by kernel_rfl) (by kernel_rfl) (by kernel_rfl) (fun _ _ _ h => h) (Or.inl ⟨by kernel_rfl, ?hy⟩) (by assumption) ?_
        case hy => (intro wq hSw; have q0 := (hSw.cell (p := ⟨w.heap.size, 0, none⟩) kl).trans k0; have q1 := (hSw.cell (p := ⟨w.heap.size, 1, none⟩) kl).trans k1; have q2 := (hSw.cell (p := ⟨w.heap.size, 2, none⟩) kl).trans k2; have q3 := (hSw.cell (p := ⟨w.heap.size, 3, none⟩) kl).trans k3; have q4 := (hSw.cell (p := ⟨w.heap.size, 4, none⟩) kl).trans k4; have p0 := (hSw.cell (p := ⟨w.heap.size + 1, 0, none⟩) ll).trans l0; have p1 := (hSw.cell (p := ⟨w.heap.size + 1, 1, none⟩) ll).trans l1; have p2 := (hSw.cell (p := ⟨w.heap.size + 1, 2, none⟩) ll).trans l2; have p3 := (hSw.cell (p := ⟨w.heap.size + 1, 3, none⟩) ll).trans l3; have p4 := (hSw.cell (p := ⟨w.heap.size + 1, 4, none⟩) ll).trans l4; have s1 := Nat.lt_of_lt_of_le kl hSw.size; have s2 := Nat.lt_of_lt_of_le ll hSw.size; go_simp; try (with_reducible rfl))
        try simp only [Act.put, List.setIfInBounds_toArray, List.set_cons_zero, List.set_cons_succ]
        refine wpAnyH_take (i := 20) (v := ?_) rfl (by kernel_rfl) (by kernel_rfl) (by kernel_rfl) (fun _ _ _ h => h) (Or.inl ⟨by kernel_rfl, ?hy⟩) (by assumption) ?_
        case hy => (intro wq hSw; have q0 := (hSw.cell (p := ⟨w.heap.size, 0, none⟩) kl).trans k0; have q1 := (hSw.cell (p := ⟨w.heap.size, 1, none⟩) kl).trans k1; have q2 := (hSw.cell (p := ⟨w.heap.size, 2, none⟩) kl).trans k2; have q3 := (hSw.cell (p := ⟨w.heap.size, 3, none⟩) kl).trans k3; have q4 := (hSw.cell (p := ⟨w.heap.size, 4, none⟩) kl).trans k4; have p0 := (hSw.cell (p := ⟨w.heap.size + 1, 0, none⟩) ll).trans l0; have p1 := (hSw.cell (p := ⟨w.heap.size + 1, 1, none⟩) ll).trans l1; have p2 := (hSw.cell (p := ⟨w.heap.size + 1, 2, none⟩) ll).trans l2; have p3 := (hSw.cell (p := ⟨w.heap.size + 1, 3, none⟩) ll).trans l3; have p4 := (hSw.cell (p := ⟨w.heap.size + 1, 4, none⟩) ll).trans l4; have s1 := Nat.lt_of_lt_of_le kl hSw.size; have s2 := Nat.lt_of_lt_of_le ll hSw.size; go_simp; try (with_reducible rfl))
        try simp only [Act.put, List.setIfInBounds_toArray, List.set_cons_zero, List.set_cons_succ]
        refine wpAnyH_take (i := 21) (v := ?_) rfl (by kernel_rfl) (by kernel_rfl) (by kernel_rfl) (fun _ _ _ h => h) (Or.inl ⟨by kernel_rfl, ?hy⟩) (by assumption) ?_
        case hy => (intro wq hSw; have q0 := (hSw.cell (p := ⟨w.heap.size, 0, none⟩) kl).trans k0; have q1 := (hSw.cell (p := ⟨w.heap.size, 1, none⟩) kl).trans k1; have q2 := (hSw.cell (p := ⟨w.heap.size, 2, none⟩) kl).trans k2; have q3 := (hSw.cell (p := ⟨w.heap.size, 3, none⟩) kl).trans k3; have q4 := (hSw.cell (p := ⟨w.heap.size, 4, none⟩) kl).trans k4; have p0 := (hSw.cell (p := ⟨w.heap.size + 1, 0, none⟩) ll).trans l0; have p1 := (hSw.cell (p := ⟨w.heap.size + 1, 1, none⟩) ll).trans l1; have p2 := (hSw.cell (p := ⟨w.heap.size + 1, 2, none⟩) ll).trans l2; have p3 := (hSw.cell (p := ⟨w.heap.size + 1, 3, none⟩) ll).trans l3; have p4 := (hSw.cell (p := ⟨w.heap.size + 1, 4, none⟩) ll).trans l4; have s1 := Nat.lt_of_lt_of_le kl hSw.size; have s2 := Nat.lt_of_lt_of_le ll hSw.size; go_simp; try (with_reducible rfl))
        try simp only [Act.put, List.setIfInBounds_toArray, List.set_cons_zero, List.set_cons_succ]
        refine wpAnyH_take (i := 22) (v := ?_) rfl (by kernel_rfl) (by kernel_rfl) (by kernel_rfl) (fun _ _ _ h => h) (Or.inl ⟨by kernel_rfl, ?hy⟩) (by assumption) ?_
        case hy => (intro wq hSw; have q0 := (hSw.cell (p := ⟨w.heap.size, 0, none⟩) kl).trans k0; have q1 := (hSw.cell (p := ⟨w.heap.size, 1, none⟩) kl).trans k1; have q2 := (hSw.cell (p := ⟨w.heap.size, 2, none⟩) kl).trans k2; have q3 := (hSw.cell (p := ⟨w.heap.size, 3, none⟩) kl).trans k3; have q4 := (hSw.cell (p := ⟨w.heap.size, 4, none⟩) kl).trans k4; have p0 := (hSw.cell (p := ⟨w.heap.size + 1, 0, none⟩) ll).trans l0; have p1 := (hSw.cell (p := ⟨w.heap.size + 1, 1, none⟩) ll).trans l1; have p2 := (hSw.cell (p := ⟨w.heap.size + 1, 2, none⟩) ll).trans l2; have p3 := (hSw.cell (p := ⟨w.heap.size + 1, 3, none⟩) ll).trans l3; have p4 := (hSw.cell (p := ⟨w.heap.size + 1, 4, none⟩) ll).trans l4; have s1 := Nat.lt_of_lt_of_le kl hSw.size; have s2 := Nat.lt_of_lt_of_le ll hSw.size; go_simp; try (with_reducible rfl))
        try simp only [Act.put, List.setIfInBounds_toArray, List.set_cons_zero, List.set_cons_succ]
        refine wpAnyH_take (i := 23) (v := ?_) rfl (by kernel_rfl) (by kernel_rfl) (by kernel_rfl) (fun _ _ _ h => h) (Or.inl ⟨by kernel_rfl, ?hy⟩) (by assumption) ?_
        case hy => (intro wq hSw; have q0 := (hSw.cell (p := ⟨w.heap.size, 0, none⟩) kl).trans k0; have q1 := (hSw.cell (p := ⟨w.heap.size, 1, none⟩) kl).trans k1; have q2 := (hSw.cell (p := ⟨w.heap.size, 2, none⟩) kl).trans k2; have q3 := (hSw.cell (p := ⟨w.heap.size, 3, none⟩) kl).trans k3; have q4 := (hSw.cell (p := ⟨w.heap.size, 4, none⟩) kl).trans k4; have p0 := (hSw.cell (p := ⟨w.heap.size + 1, 0, none⟩) ll).trans l0; have p1 := (hSw.cell (p := ⟨w.heap.size + 1, 1, none⟩) ll).trans l1; have p2 := (hSw.cell (p := ⟨w.heap.size + 1, 2, none⟩) ll).trans l2; have p3 := (hSw.cell (p := ⟨w.heap.size + 1, 3, none⟩) ll).trans l3; have p4 := (hSw.cell (p := ⟨w.heap.size + 1, 4, none⟩) ll).trans l4; have s1 := Nat.lt_of_lt_of_le kl hSw.size; have s2 := Nat.lt_of_lt_of_le ll hSw.size; go_simp; try (with_reducible rfl))
        try simp only [Act.put, List.setIfInBounds_toArray, List.set_cons_zero, List.set_cons_succ]
        refine wpAnyH_ready (rs := [1]) (by kernel_rfl) (by simp) ?_
        refine AllReadyH.cons rfl (fun K hK => ?_) AllReadyH.nil
        go_simp
        refine (HC1.out _ (b1.trans (hS.mono b1.size))).mono ?_; rintro e w3 ⟨rfl, b3⟩; have hS : Below W.heap.size W w3 := hS.trans (b3.mono hS.size); clear b3
        refine hK.out _ _ hS (fun hHeld => ?_)
        clear hK K hHeld
        try simp only [Act.put, List.setIfInBounds_toArray, List.set_cons_zero, List.set_cons_succ]
        refine wpAnyH_ready (rs := [3]) (by kernel_rfl) (by simp) ?_
        refine AllReadyH.cons rfl (fun K hK => ?_) AllReadyH.nil
        go_simp
        refine (HC2.out _ (b1.trans (hS.mono b1.size))).mono ?_; rintro e w4 ⟨rfl, b3⟩; have hS : Below W.heap.size W w4 := hS.trans (b3.mono hS.size); clear b3
        refine hK.out _ _ hS (fun hHeld => ?_)
        clear hK K hHeld
        try simp only [Act.put, List.setIfInBounds_toArray, List.set_cons_zero, List.set_cons_succ]
        refine wpAnyH_ready (rs := [9]) (by kernel_rfl) (by simp) ?_
        refine AllReadyH.cons rfl (fun K hK => ?_) AllReadyH.nil
        go_simp
        refine (bfaultIf_any _ _ _).mono ?_; rintro e w' ⟨rfl, rfl⟩
        refine hK.out _ _ hS (fun hHeld => ?_)
        clear hK K hHeld
        try simp only [Act.put, List.setIfInBounds_toArray, List.set_cons_zero, List.set_cons_succ]
        refine wpAnyH_take (i := 12) (v := ?_) rfl (by kernel_rfl) (by kernel_rfl) (by kernel_rfl) (fun _ _ _ h => h) (Or.inl ⟨by kernel_rfl, ?hy⟩) (by assumption) ?_
        case hy => (intro wq hSw; have q0 := (hSw.cell (p := ⟨w.heap.size, 0, none⟩) kl).trans k0; have q1 := (hSw.cell (p := ⟨w.heap.size, 1, none⟩) kl).trans k1; have q2 := (hSw.cell (p := ⟨w.heap.size, 2, none⟩) kl).trans k2; have q3 := (hSw.cell (p := ⟨w.heap.size, 3, none⟩) kl).trans k3; have q4 := (hSw.cell (p := ⟨w.heap.size, 4, none⟩) kl).trans k4; have p0 := (hSw.cell (p := ⟨w.heap.size + 1, 0, none⟩) ll).trans l0; have p1 := (hSw.cell (p := ⟨w.heap.size + 1, 1, none⟩) ll).trans l1; have p2 := (hSw.cell (p := ⟨w.heap.size + 1, 2, none⟩) ll).trans l2; have p3 := (hSw.cell (p := ⟨w.heap.size + 1, 3, none⟩) ll).trans l3; have p4 := (hSw.cell (p := ⟨w.heap.size + 1, 4, none⟩) ll).trans l4; have s1 := Nat.lt_of_lt_of_le kl hSw.size; have s2 := Nat.lt_of_lt_of_le ll hSw.size; go_simp; try (with_reducible rfl))
        try simp only [Act.put, List.setIfInBounds_toArray, List.set_cons_zero, List.set_cons_succ]
        refine wpAnyH_take (i := 13) (v := ?_) rfl (by kernel_rfl) (by kernel_rfl) (by kernel_rfl) (fun _ _ _ h => h) (Or.inl ⟨by kernel_rfl, ?hy⟩) (by assumption) ?_
        case hy => (intro wq hSw; have q0 := (hSw.cell (p := ⟨w.heap.size, 0, none⟩) kl).trans k0; have q1 := (hSw.cell (p := ⟨w.heap.size, 1, none⟩) kl).trans k1; have q2 := (hSw.cell (p := ⟨w.heap.size, 2, none⟩) kl).trans k2; have q3 := (hSw.cell (p := ⟨w.heap.size, 3, none⟩) kl).trans k3; have q4 := (hSw.cell (p := ⟨w.heap.size, 4, none⟩) kl).trans k4; have p0 := (hSw.cell (p := ⟨w.heap.size + 1, 0, none⟩) ll).trans l0; have p1 := (hSw.cell (p := ⟨w.heap.size + 1, 1, none⟩) ll).trans l1; have p2 := (hSw.cell (p := ⟨w.heap.size + 1, 2, none⟩) ll).trans l2; have p3 := (hSw.cell (p := ⟨w.heap.size + 1, 3, none⟩) ll).trans l3; have p4 := (hSw.cell (p := ⟨w.heap.size + 1, 4, none⟩) ll).trans l4; have s1 := Nat.lt_of_lt_of_le kl hSw.size; have s2 := Nat.lt_of_lt_of_le ll hSw.size; go_simp; try (with_reducible rfl))
        try simp only [Act.put, List.setIfInBounds_toArray, List.set_cons_zero, List.set_cons_succ]
        refine wpAnyH_take (i := 14) (v := ?_) rfl (by kernel_rfl) (by kernel_rfl) (by kernel_rfl) (fun _ _ _ h => h) (Or.inl ⟨by kernel_rfl, ?hy⟩) (by assumption) ?_
        case hy => (intro wq hSw; have q0 := (hSw.cell (p := ⟨w.heap.size, 0, none⟩) kl).trans k0; have q1 := (hSw.cell (p := ⟨w.heap.size, 1, none⟩) kl).trans k1; have q2 := (hSw.cell (p := ⟨w.heap.size, 2, none⟩) kl).trans k2; have q3 := (hSw.cell (p := ⟨w.heap.size, 3, none⟩) kl).trans k3; have q4 := (hSw.cell (p := ⟨w.heap.size, 4, none⟩) kl).trans k4; have p0 := (hSw.cell (p := ⟨w.heap.size + 1, 0, none⟩) ll).trans l0; have p1 := (hSw.cell (p := ⟨w.heap.size + 1, 1, none⟩) ll).trans l1; have p2 := (hSw.cell (p := ⟨w.heap.size + 1, 2, none⟩) ll).trans l2; have p3 := (hSw.cell (p := ⟨w.heap.size + 1, 3, none⟩) ll).trans l3; have p4 := (hSw.cell (p := ⟨w.heap.size + 1, 4, none⟩) ll).trans l4; have s1 := Nat.lt_of_lt_of_le kl hSw.size; have s2 := Nat.lt_of_lt_of_le ll hSw.size; go_simp; try (with_reducible rfl))
        try simp only [Act.put, List.setIfInBounds_toArray, List.set_cons_zero, List.set_cons_succ]
        refine wpAnyH_ready (rs := [15]) (by kernel_rfl) (by simp) ?_
        refine AllReadyH.cons rfl (fun K hK => ?_) AllReadyH.nil
        go_simp
        refine (HSA.out _ (b1.trans (hS.mono b1.size))).mono ?_; rintro e w5 ⟨rfl, b3⟩; have hS : Below W.heap.size W w5 := hS.trans (b3.mono hS.size); clear b3
        refine hK.out _ _ hS (fun hHeld => ?_)
        clear hK K hHeld
        try simp only [Act.put, List.setIfInBounds_toArray, List.set_cons_zero, List.set_cons_succ]
        refine wpAnyH_take (i := 16) (v := ?_) rfl (by kernel_rfl) (by kernel_rfl) (by kernel_rfl) (fun _ _ _ h => h) (Or.inl ⟨by kernel_rfl, ?hy⟩) (by assumption) ?_
        case hy => (intro wq hSw; have q0 := (hSw.cell (p := ⟨w.heap.size, 0, none⟩) kl).trans k0; have q1 := (hSw.cell (p := ⟨w.heap.size, 1, none⟩) kl).trans k1; have q2 := (hSw.cell (p := ⟨w.heap.size, 2, none⟩) kl).trans k2; have q3 := (hSw.cell (p := ⟨w.heap.size, 3, none⟩) kl).trans k3; have q4 := (hSw.cell (p := ⟨w.heap.size, 4, none⟩) kl).trans k4; have p0 := (hSw.cell (p := ⟨w.heap.size + 1, 0, none⟩) ll).trans l0; have p1 := (hSw.cell (p := ⟨w.heap.size + 1, 1, none⟩) ll).trans l1; have p2 := (hSw.cell (p := ⟨w.heap.size + 1, 2, none⟩) ll).trans l2; have p3 := (hSw.cell (p := ⟨w.heap.size + 1, 3, none⟩) ll).trans l3; have p4 := (hSw.cell (p := ⟨w.heap.size + 1, 4, none⟩) ll).trans l4; have s1 := Nat.lt_of_lt_of_le kl hSw.size; have s2 := Nat.lt_of_lt_of_le ll hSw.size; go_simp; try (with_reducible rfl))
        try simp only [Act.put, List.setIfInBounds_toArray, List.set_cons_zero, List.set_cons_succ]
        refine wpAnyH_take (i := 17) (v := ?_) rfl (by kernel_rfl) (by kernel_rfl) (by kernel_rfl) (fun _ _ _ h => h) (Or.inl ⟨by kernel_rfl, ?hy⟩) (by assumption) ?_
        case hy => (intro wq hSw; have q0 := (hSw.cell (p := ⟨w.heap.size, 0, none⟩) kl).trans k0; have q1 := (hSw.cell (p := ⟨w.heap.size, 1, none⟩) kl).trans k1; have q2 := (hSw.cell (p := ⟨w.heap.size, 2, none⟩) kl).trans k2; have q3 := (hSw.cell (p := ⟨w.heap.size, 3, none⟩) kl).trans k3; have q4 := (hSw.cell (p := ⟨w.heap.size, 4, none⟩) kl).trans k4; have p0 := (hSw.cell (p := ⟨w.heap.size + 1, 0, none⟩) ll).trans l0; have p1 := (hSw.cell (p := ⟨w.heap.size + 1, 1, none⟩) ll).trans l1; have p2 := (hSw.cell (p := ⟨w.heap.size + 1, 2, none⟩) ll).trans l2; have p3 := (hSw.cell (p := ⟨w.heap.size + 1, 3, none⟩) ll).trans l3; have p4 := (hSw.cell (p := ⟨w.heap.size + 1, 4, none⟩) ll).trans l4; have s1 := Nat.lt_of_lt_of_le kl hSw.size; have s2 := Nat.lt_of_lt_of_le ll hSw.size; go_simp; try (with_reducible rfl))
        try simp only [Act.put, List.setIfInBounds_toArray, List.set_cons_zero, List.set_cons_succ]
        refine wpAnyH_ready (rs := [18]) (by kernel_rfl) (by simp) ?_
        refine AllReadyH.cons rfl (fun K hK => ?_) AllReadyH.nil
        go_simp
        refine (bfaultIf_any _ _ _).mono ?_; rintro e w' ⟨rfl, rfl⟩
        refine hK.out _ _ hS (fun hHeld => ?_)
        clear hK K hHeld
        try simp only [Act.put, List.setIfInBounds_toArray, List.set_cons_zero, List.set_cons_succ]
        refine wpAnyH_take (i := 24) (v := ?_) rfl (by kernel_rfl) (by kernel_rfl) (by kernel_rfl) (fun _ _ _ h => h) (Or.inl ⟨by kernel_rfl, ?hy⟩) (by assumption) ?_
        case hy => (intro wq hSw; have q0 := (hSw.cell (p := ⟨w.heap.size, 0, none⟩) kl).trans k0; have q1 := (hSw.cell (p := ⟨w.heap.size, 1, none⟩) kl).trans k1; have q2 := (hSw.cell (p := ⟨w.heap.size, 2, none⟩) kl).trans k2; have q3 := (hSw.cell (p := ⟨w.heap.size, 3, none⟩) kl).trans k3; have q4 := (hSw.cell (p := ⟨w.heap.size, 4, none⟩) kl).trans k4; have p0 := (hSw.cell (p := ⟨w.heap.size + 1, 0, none⟩) ll).trans l0; have p1 := (hSw.cell (p := ⟨w.heap.size + 1, 1, none⟩) ll).trans l1; have p2 := (hSw.cell (p := ⟨w.heap.size + 1, 2, none⟩) ll).trans l2; have p3 := (hSw.cell (p := ⟨w.heap.size + 1, 3, none⟩) ll).trans l3; have p4 := (hSw.cell (p := ⟨w.heap.size + 1, 4, none⟩) ll).trans l4; have s1 := Nat.lt_of_lt_of_le kl hSw.size; have s2 := Nat.lt_of_lt_of_le ll hSw.size; go_simp; try (with_reducible rfl))
        try simp only [Act.put, List.setIfInBounds_toArray, List.set_cons_zero, List.set_cons_succ]
        refine wpAnyH_take (i := 25) (v := undef) rfl (by kernel_rfl) (by kernel_rfl) (by kernel_rfl) (fun _ _ _ h => h) (Or.inr ⟨by kernel_rfl, rfl⟩) (by assumption) ?_
        try simp only [Act.put, List.setIfInBounds_toArray, List.set_cons_zero, List.set_cons_succ]
        refine wpAnyH_take (i := 26) (v := undef) rfl (by kernel_rfl) (by kernel_rfl) (by kernel_rfl) (fun _ _ _ h => h) (Or.inr ⟨by kernel_rfl, rfl⟩) (by assumption) ?_
        try simp only [Act.put, List.setIfInBounds_toArray, List.set_cons_zero, List.set_cons_succ]
        refine wpAnyH_take (i := 27) (v := undef) rfl (by kernel_rfl) (by kernel_rfl) (by kernel_rfl) (fun _ _ _ h => h) (Or.inr ⟨by kernel_rfl, rfl⟩) (by assumption) ?_
        try simp only [Act.put, List.setIfInBounds_toArray, List.set_cons_zero, List.set_cons_succ]
        refine wpAnyH_take (i := 28) (v := undef) rfl (by kernel_rfl) (by kernel_rfl) (by kernel_rfl) (fun _ _ _ h => h) (Or.inr ⟨by kernel_rfl, rfl⟩) (by assumption) ?_
        try simp only [Act.put, List.setIfInBounds_toArray, List.set_cons_zero, List.set_cons_succ]
        refine wpAnyH_take (i := 29) (v := undef) rfl (by kernel_rfl) (by kernel_rfl) (by kernel_rfl) (fun _ _ _ h => h) (Or.inr ⟨by kernel_rfl, rfl⟩) (by assumption) ?_
        try simp only [Act.put, List.setIfInBounds_toArray, List.set_cons_zero, List.set_cons_succ]
        refine wpAnyH_take (i := 30) (v := ?_) rfl (by kernel_rfl) (by kernel_rfl) (by kernel_rfl) (fun _ _ _ h => h) (Or.inl ⟨by kernel_rfl, ?hy⟩) (by assumption) ?_
        case hy => (intro wq hSw; have q0 := (hSw.cell (p := ⟨w.heap.size, 0, none⟩) kl).trans k0; have q1 := (hSw.cell (p := ⟨w.heap.size, 1, none⟩) kl).trans k1; have q2 := (hSw.cell (p := ⟨w.heap.size, 2, none⟩) kl).trans k2; have q3 := (hSw.cell (p := ⟨w.heap.size, 3, none⟩) kl).trans k3; have q4 := (hSw.cell (p := ⟨w.heap.size, 4, none⟩) kl).trans k4; have p0 := (hSw.cell (p := ⟨w.heap.size + 1, 0, none⟩) ll).trans l0; have p1 := (hSw.cell (p := ⟨w.heap.size + 1, 1, none⟩) ll).trans l1; have p2 := (hSw.cell (p := ⟨w.heap.size + 1, 2, none⟩) ll).trans l2; have p3 := (hSw.cell (p := ⟨w.heap.size + 1, 3, none⟩) ll).trans l3; have p4 := (hSw.cell (p := ⟨w.heap.size + 1, 4, none⟩) ll).trans l4; have s1 := Nat.lt_of_lt_of_le kl hSw.size; have s2 := Nat.lt_of_lt_of_le ll hSw.size; go_simp; try (with_reducible rfl))
        try simp only [Act.put, List.setIfInBounds_toArray, List.set_cons_zero, List.set_cons_succ]
        refine wpAnyH_ready (rs := [31]) (by kernel_rfl) (by simp) ?_
        refine AllReadyH.cons rfl (fun K hK => ?_) AllReadyH.nil
        go_simp
        refine (bfaultIf_any _ _ _).mono ?_; rintro e w' ⟨rfl, rfl⟩
        refine hK.out _ _ hS (fun hHeld => ?_)
        clear hK K hHeld
        try simp only [Act.put, List.setIfInBounds_toArray, List.set_cons_zero, List.set_cons_succ]
        refine wpAnyH_ready (rs := [32]) (by kernel_rfl) (by simp) ?_
        refine AllReadyH.cons rfl (fun K hK => ?_) AllReadyH.nil
        go_simp
        have hS : Below W.heap.size W (w5.alloc (.cells #[.int .i64 LO, .int .i64 LW, .int .i64 (fIf TGB 6), .int .i64 (fIf (!SM) 11), .int .i64 (fIf true 8)] 25)) := hS.alloc hS.size _
        refine hK.out _ _ hS (fun hHeld => ?_)
        clear hK K hHeld
        try simp only [Act.put, List.setIfInBounds_toArray, List.set_cons_zero, List.set_cons_succ]
        refine wpAnyH_ready (rs := [33]) (by kernel_rfl) (by simp) ?_
        refine AllReadyH.cons rfl (fun K hK => ?_) AllReadyH.nil
        go_simp
        refine (lfirst5 _ _ _ _ _ _).mono ?_; rintro e w' ⟨rfl, rfl⟩; rw [HZ2.out]
        refine hK.out _ _ hS (fun hHeld => ?_)
        clear hK K hHeld
        try simp only [Act.put, List.setIfInBounds_toArray, List.set_cons_zero, List.set_cons_succ]
        refine wpAnyH_take (i := 34) (v := ?_) rfl (by kernel_rfl) (by kernel_rfl) (by kernel_rfl) (fun _ _ _ h => h) (Or.inl ⟨by kernel_rfl, ?hy⟩) (by assumption) ?_
        case hy => (intro wq hSw; have q0 := (hSw.cell (p := ⟨w.heap.size, 0, none⟩) kl).trans k0; have q1 := (hSw.cell (p := ⟨w.heap.size, 1, none⟩) kl).trans k1; have q2 := (hSw.cell (p := ⟨w.heap.size, 2, none⟩) kl).trans k2; have q3 := (hSw.cell (p := ⟨w.heap.size, 3, none⟩) kl).trans k3; have q4 := (hSw.cell (p := ⟨w.heap.size, 4, none⟩) kl).trans k4; have p0 := (hSw.cell (p := ⟨w.heap.size + 1, 0, none⟩) ll).trans l0; have p1 := (hSw.cell (p := ⟨w.heap.size + 1, 1, none⟩) ll).trans l1; have p2 := (hSw.cell (p := ⟨w.heap.size + 1, 2, none⟩) ll).trans l2; have p3 := (hSw.cell (p := ⟨w.heap.size + 1, 3, none⟩) ll).trans l3; have p4 := (hSw.cell (p := ⟨w.heap.size + 1, 4, none⟩) ll).trans l4; have s1 := Nat.lt_of_lt_of_le kl hSw.size; have s2 := Nat.lt_of_lt_of_le ll hSw.size; go_simp; try (with_reducible rfl))
        try simp only [Act.put, List.setIfInBounds_toArray, List.set_cons_zero, List.set_cons_succ]
        refine wpAnyH_done (by kernel_rfl) ?_ _
        refine NoPanic.normal ?_
        try go_simp
        go_wp2_with fail
        go_meet
        exact ⟨rfl, hS⟩
  case rest =>
    obtain ⟨rfl, bx⟩ := hcut
    have FX := FX.below bx FX.lt
    have FY := FY.below bx FY.lt
    have b1 := b1.trans (bx.mono b1.size)
    clear bx HZ HC1 HC2 HSA HB1 HB2 hD1 hTGB
    by_cases hz : Z = 0
    rotate_left
    · have hne : (Z == 0) = false := by simp; exact hz
      have hne2 : (Z != 0) = true := by simp; exact hz
      have e1 := HF1.out hz
      subst e1
      clear hz
      go_wp2_with fail
      go_ret
      exact ⟨rfl, b1⟩
    · have hfo := HF2.out hz
      have HFT : Hid (R = folT ⟨tg, fi, bk, es, en⟩ ⟨tg', fi', bk', fs, en'⟩) := Lib.hid (by rw [← HR.out]; exact hfo.fol)
      have HK1' := Lib.hid (HK1.out hfo.oko); have HK2' := Lib.hid (HK2.out hfo.okn)
      have hle : fi ≤ fi' := hfo.le
      have hfi : 0 ≤ fi := hfo.oko.fi.1
      have hfi' : fi' ≤ 999999999999000 := hfo.okn.fi.2
      have hn5 : n ≤ 1000 := by have := hfo.oko.len; rw [← HN.out]; exact this
      have hm5 : m ≤ 1000 := by have := hfo.okn.len; rw [← HM.out]; exact this
      have hbeh : fi + (n : Int) ≤ fi' + (m : Int) := by
        have h5 := hfo.bh
        unfold beh at h5
        rw [show (⟨tg, fi, bk, es, en⟩ : Lst).es.length = n from HN.out, show (⟨tg', fi', bk', fs, en'⟩ : Lst).es.length = m from HM.out] at h5
        exact h5
      obtain ⟨g, hg⟩ : ∃ g : Nat, fi' - fi = (g : Int) := ⟨(fi' - fi).toNat, by omega⟩
      have HG : Hid (gn ⟨tg, fi, bk, es, en⟩ ⟨tg', fi', bk', fs, en'⟩ = g) := Lib.hid (by unfold gn; show (fi' - fi).toNat = g; rw [hg]; simp)
      have HGO : Hid (n ≤ g → R = fIf (decide (bk' < bkTo bk es n)) 8) := Lib.hid (fun h => by
        rw [HFT.out, folT, if_pos (by rw [HG.out]; show es.length ≤ g; rw [HN.out]; exact h)]
        show (if bk' < bkTo bk es es.length then (8 : Int) else 0) = _
        rw [HN.out]
        unfold fIf
        by_cases h5 : bk' < bkTo bk es n
        · rw [if_pos h5, decide_eq_true h5, if_pos rfl]
        · rw [if_neg h5, decide_eq_false h5, if_neg (by decide)])
      have HGL : Hid (¬ n ≤ g → R = fstF (clL ⟨tg, fi, bk, es, en⟩ ⟨tg', fi', bk', fs, en'⟩ g (n - g))) := Lib.hid (fun h => by
        rw [HFT.out, folT, HG.out, if_neg (by show ¬ es.length ≤ g; rw [HN.out]; exact h)]
        show fstF (clL ⟨tg, fi, bk, es, en⟩ ⟨tg', fi', bk', fs, en'⟩ g (es.length - g)) = _
        rw [HN.out])
      have hgb : g ≤ 1000000000000000 := by omega
      subst hz
      have wg : IntKind.i64.wrap (fi' - fi) = (g : Int) := by rw [hg]; exact IntWalk.i64_in _ ⟨by omega, by omega⟩
      have wg2 : wrap64 (fi' - fi) = (g : Int) := by rw [← IntWalk.i64_left]; exact wg
      have hmg : ¬ n ≤ g → n - g ≤ m := by omega
      clear hfo HF1 HF2 HR HFT HK1 HK2 hle hfi hfi' hbeh hg HG
      obtain ⟨BO, hBO⟩ : ∃ BO, bkTo bk es n = BO := ⟨_, rfl⟩
      obtain ⟨BW, hBW⟩ : ∃ BW, bkTo bk' fs m = BW := ⟨_, rfl⟩
      rw [hBO] at HK1' HGO
      rw [hBW] at HK2'
      clear hBO hBW
      have k0 := FX.c0; have k1 := FX.c1; have k2 := FX.c2; have k3 := FX.c3; have k4 := FX.c4; have kl := FX.lt
      go_wp2_with fail
      refine (HK1'.out _ b1).mono ?_; rintro e w3 ⟨⟨v1, rfl, n1⟩, b3⟩
      have FX := FX.below b3 FX.lt
      have FY := FY.below b3 FY.lt
      have b1 := b1.trans (b3.mono b1.size)
      have N1 := Lib.hid n1
      clear k0 k1 k2 k3 k4 kl b3 n1
      have l0 := FY.c0; have l1 := FY.c1; have l2 := FY.c2; have l3 := FY.c3; have l4 := FY.c4; have ll := FY.lt
      go_wp2_with fail
      refine (HK2'.out _ b1).mono ?_; rintro e w4 ⟨⟨v2, rfl, n2⟩, b4⟩
      have FX := FX.below b4 FX.lt
      have FY := FY.below b4 FY.lt
      have b1 := b1.trans (b4.mono b1.size)
      have N1 := Lib.hid (N1.out.below b4 (Nat.le_refl _))
      have N2 := Lib.hid n2
      clear l0 l1 l2 l3 l4 ll b4 n2
      have k1 := FX.c1; have k3 := FX.c3; have kl := FX.lt
      have l1 := FY.c1; have l2 := FY.c2; have l3 := FY.c3; have ll := FY.lt
      by_cases hng : n ≤ g
      · have e1 := HGO.out hng
        have d1 : decide ((n : Int) ≤ (g : Int)) = true := by simp; omega
        have d2 : decide (n ≤ g) = true := decide_eq_true hng
        subst e1
        clear hng hmg HGL HGO
        go_wp2_with fail
        refine (bfaultIf_any _ _ _).mono ?_; rintro e w' ⟨rfl, rfl⟩
        go_wp2_with fail
        go_ret
        exact ⟨rfl, b1⟩
      · have hR1 := HGL.out hng
        have hnm := hmg hng
        have d1 : decide ((n : Int) ≤ (g : Int)) = false := by simp; omega
        have d2 : decide (n ≤ g) = false := decide_eq_false hng
        have hbr := b1
        have hEW := HEN.out.below hbr (Nat.le_refl _)
        obtain ⟨b, off, cap1, hv, hlt, hcl, -⟩ := hEW.spot (by rw [HN.out]; omega)
        simp only [Value.slice.injEq] at hv
        obtain ⟨rfl, -, rfl⟩ := hv
        have hFW := HFN.out.below hbr (Nat.le_refl _)
        obtain ⟨b', off', cap2, hv, hlt', -, -⟩ := hFW.spot (by rw [HM.out]; omega)
        simp only [Value.slice.injEq] at hv
        obtain ⟨rfl, -, rfl⟩ := hv
        rw [HN.out] at hcl
        obtain ⟨q1, o1, p1, rfl, hq1, hc1⟩ := nums_at N1.out (by rw [bkL_len]; omega)
        obtain ⟨q2, o2, p2, rfl, hq2, hc2⟩ := nums_at N2.out (by rw [bkL_len]; omega)
        rw [bkL_len] at hc1 hc2
        have HQ1 : Hid (∀ j, j < n → w4.cell? ⟨q1, o1 + j, none⟩ = some (.int .i64 (bkTo bk es (j + 1)))) := Lib.hid (fun j hj => by rw [hc1 j hj, bkL_at _ _ _ _ hj])
        have HQ2 : Hid (∀ j, j < m → w4.cell? ⟨q2, o2 + j, none⟩ = some (.int .i64 (bkTo bk' fs (j + 1)))) := Lib.hid (fun j hj => by rw [hc2 j hj, bkL_at _ _ _ _ hj])
        rw [bkL_len, bkL_len]
        obtain ⟨N, hN⟩ : ∃ N, n - g = N := ⟨_, rfl⟩
        have HNG := Lib.hid hN
        rw [hN] at hR1 hnm
        have HR1 := Lib.hid hR1
        have hN5 : N ≤ 1000 := by omega
        have j0 : (0 : Int) ≤ (g : Int) := by omega
        have j1 : (g : Int) ≤ (n : Int) := by omega
        have j2 : ((g : Nat) : Int).toNat = g := by simp
        have hcz : (cap - g == 0) = false := by simp; omega
        clear hEW hFW N1 N2 hc1 hc2 hR1 HGO HGL hmg
        go_wp2_with fail
        go_loopw [81] (fun v wr => ∃ k : Nat, k ≤ N ∧ v = .int .i64 k ∧ Below w4.heap.size w4 wr ∧ Hid (fstF ((clL ⟨tg, fi, bk, es, en⟩ ⟨tg', fi', bk', fs, en'⟩ g N).drop k) = R)) (fun v _ => N - (intOf v).toNat)
        case atStart => exact ⟨0, Nat.zero_le _, rfl, Below.refl _ _, Lib.hid (by rw [List.drop_zero]; exact HR1.out.symm)⟩
        case round =>
          obtain ⟨k, hk, rfl, hbr4, HD2⟩ := hrel
          have hbr := b1.trans (hbr4.mono b1.size)
          by_cases hk2 : k < N
          rotate_left
          · have e1 : R = 0 := by rw [← HD2.out, List.drop_of_length_le (by simp [clL]; omega)]; rfl
            have kD : decide ((k : Int) < (N : Int)) = false := by simp; omega
            have kD2 : decide (k < N) = false := by simp; omega
            subst e1
            clear hk2
            go_wp2_with fail
            go_ret
            exact ⟨rfl, hbr⟩
          · obtain ⟨e, he⟩ : ∃ e, g + k = e := ⟨_, rfl⟩
            have hgk : (g : Int) + (k : Int) = (e : Int) := by omega
            have hen : e < n := by omega
            have hkm : k < m := by omega
            have hEW := HEN.out.below hbr (Nat.le_refl _)
            obtain ⟨c0, c1, c2, c3, c4, c5, c6⟩ := hEW.cells e (by rw [HN.out]; exact hen)
            have hsx := hEW.strs e (by rw [HN.out]; exact hen)
            obtain ⟨x, hx⟩ : ∃ x, es.getD e ent0 = x := ⟨_, rfl⟩
            rw [hx] at hsx c0 c1 c2 c3 c4 c5
            obtain ⟨ax, cx, hux⟩ := hsx.parts
            rw [hux] at hsx c6
            rw [show off + e * 7 = off + g * 7 + k * 7 by omega] at c0 c1 c2 c3 c4 c5 c6
            have hst := clL_drop ⟨tg, fi, bk, es, en⟩ ⟨tg', fi', bk', fs, en'⟩ g N k hk2
            rw [HD2.out] at hst
            have kI : (k : Int) < (N : Int) := by omega
            have kI2 : (k : Int) < (m : Int) := by omega
            have eI : (e : Int) < (n : Int) := by omega
            have hwI : IntKind.i64.wrap ((k : Int) + 1) = (k : Int) + 1 := IntWalk.i64_in _ ⟨by omega, by omega⟩
            have wge : IntKind.i64.wrap ((g : Int) + (k : Int)) = (e : Int) := by rw [hgk]; exact IntWalk.i64_in _ ⟨by omega, by omega⟩
            have we : IntKind.i64.wrap (e : Int) = (e : Int) := IntWalk.i64_in _ ⟨by omega, by omega⟩
            have EX := EBox.new wr x (.slice ax x.ex.length cx) 32
            have hsx := hsx.below ((Below.refl wr.heap.size wr).alloc (Nat.le_refl _) (.cells #[.string x.uri, .int .i64 x.mi, .bool x.br, .int .i64 x.da, .string x.key, .bool x.gap, .slice ax x.ex.length cx] 32)) (Nat.le_refl _)
            have hbr4 := hbr4.alloc (o := .cells #[.string x.uri, .int .i64 x.mi, .bool x.br, .int .i64 x.da, .string x.key, .bool x.gap, .slice ax x.ex.length cx] 32) hbr4.size
            have hbr := hbr.alloc (o := .cells #[.string x.uri, .int .i64 x.mi, .bool x.br, .int .i64 x.da, .string x.key, .bool x.gap, .slice ax x.ex.length cx] 32) hbr.size
            clear hEW hux
            go_upto_region 12 with fail
            generalize wr.alloc (.cells #[.string x.uri, .int .i64 x.mi, .bool x.br, .int .i64 x.da, .string x.key, .bool x.gap, .slice ax x.ex.length cx] 32) = W9 at *
            generalize wr.heap.size = X9 at *
            clear c0 c1 c2 c3 c4 c5 c6
            have hFW := HFN.out.below hbr (Nat.le_refl _)
            obtain ⟨f0, f1, f2, f3, f4, f5, f6⟩ := hFW.cells k (by rw [HM.out]; exact hkm)
            have hsy := hFW.strs k (by rw [HM.out]; exact hkm)
            obtain ⟨y, hy⟩ : ∃ y, fs.getD k ent0 = y := ⟨_, rfl⟩
            rw [hy] at hsy f0 f1 f2 f3 f4 f5
            obtain ⟨ay, cy, huy⟩ := hsy.parts
            rw [huy] at hsy f6
            have FY9 := FY.below hbr4 FY.lt
            have l3 := FY9.c3; have ll := FY9.lt
            have y0 := EX.c0; have y1 := EX.c1; have y2 := EX.c2; have y3 := EX.c3; have y4 := EX.c4; have y5 := EX.c5; have y6 := EX.c6; have yl := EX.lt
            have m1 := (hbr4.cell (p := ⟨q1, o1 + e, none⟩) hq1).trans (HQ1.out e hen)
            have m2 := (hbr4.cell (p := ⟨q2, o2 + k, none⟩) hq2).trans (HQ2.out k hkm)
            have hq1' := Nat.lt_of_lt_of_le hq1 hbr4.size
            have hq2' := Nat.lt_of_lt_of_le hq2 hbr4.size
            have hblt' := Nat.lt_of_lt_of_le hlt' hbr4.size
            obtain ⟨BN, hBN⟩ : ∃ BN, bkTo bk' fs (k + 1) = BN := ⟨_, rfl⟩
            obtain ⟨BE, hBE⟩ : ∃ BE, bkTo bk es (e + 1) = BE := ⟨_, rfl⟩
            rw [hBE] at m1
            rw [hBN] at m2
            obtain ⟨NEB, hNEB⟩ : ∃ NEB, (BN != BE) = NEB := ⟨_, rfl⟩
            obtain ⟨D, hD⟩ : ∃ D, sameE y x = D := ⟨_, rfl⟩
            have HCA : Hid (∀ W, Below W9.heap.size W9 W → Calls Try.prog 56 #[.agg #[.string y.uri, .int .i64 y.mi, .bool y.br, .int .i64 y.da, .string y.key, .bool y.gap, .slice ay y.ex.length cy], .agg #[.string x.uri, .int .i64 x.mi, .bool x.br, .int .i64 x.da, .string x.key, .bool x.gap, .slice ax x.ex.length cx]] W fun e w' => e = .returned (.bool D) ∧ Below W.heap.size W w') := Lib.hid (fun W hb => by rw [← hD]; exact sameEnt_any y x _ _ W (hsy.below hb (Nat.le_refl _)) (hsx.below hb (Nat.le_refl _)))
            have hz : clE ⟨tg, fi, bk, es, en⟩ ⟨tg', fi', bk', fs, en'⟩ g k = fstF [fIf (!D) 12, fIf NEB 3] := by
              unfold clE
              show fstF [fIf (!sameE (fs.getD k ent0) (es.getD (g + k) ent0)) 12, fIf (bkTo bk' fs (k + 1) != bkTo bk es (g + k + 1)) 3] = _
              rw [he, hy, hx, hD, hBN, hBE, hNEB]
            obtain ⟨z, hzz⟩ : ∃ z, clE ⟨tg, fi, bk, es, en⟩ ⟨tg', fi', bk', fs, en'⟩ g k = z := ⟨_, rfl⟩
            rw [hzz] at hz hst
            have HZZ := Lib.hid hz.symm
            have HST := Lib.hid hst
            clear hst hz hzz hD hBN hBE hFW hsy huy hx hy EX FY9 hsx he
            go_cut [13] (fun s13 wx => s13 = .int .i64 z ∧ Below W9.heap.size W9 wx)
            case first =>
              refine wp_region_noPanic ?_
              refine wp_region_held_drew (S := fun w' => Below W9.heap.size W9 w') (by kernel_rfl) ?hS0 (fun hHeld => ?_)
              case hS0 => exact (Below.refl _ W9).drew
              have hS : Below W9.heap.size W9 W9.drew := (Below.refl _ W9).drew
              clear hHeld
              generalize W9.drew = wd at *
              refine wpAnyH_take (i := 0) (v := ?_) rfl (by kernel_rfl) (by kernel_rfl) (by kernel_rfl) (fun _ _ _ h => h) (Or.inl ⟨by kernel_rfl, ?hy⟩) (by assumption) ?_
              case hy => (intro wq hSw; have g3 := (hSw.cell (p := ⟨w.heap.size + 1, 3, none⟩) ll).trans l3; have u0 := (hSw.cell (p := ⟨b', off' + k * 7, none⟩) hblt').trans f0; have u1 := (hSw.cell (p := ⟨b', off' + k * 7 + 1, none⟩) hblt').trans f1; have u2 := (hSw.cell (p := ⟨b', off' + k * 7 + 2, none⟩) hblt').trans f2; have u3 := (hSw.cell (p := ⟨b', off' + k * 7 + 3, none⟩) hblt').trans f3; have u4 := (hSw.cell (p := ⟨b', off' + k * 7 + 4, none⟩) hblt').trans f4; have u5 := (hSw.cell (p := ⟨b', off' + k * 7 + 5, none⟩) hblt').trans f5; have u6 := (hSw.cell (p := ⟨b', off' + k * 7 + 6, none⟩) hblt').trans f6; have t0 := (hSw.cell (p := ⟨X9, 0, none⟩) yl).trans y0; have t1 := (hSw.cell (p := ⟨X9, 1, none⟩) yl).trans y1; have t2 := (hSw.cell (p := ⟨X9, 2, none⟩) yl).trans y2; have t3 := (hSw.cell (p := ⟨X9, 3, none⟩) yl).trans y3; have t4 := (hSw.cell (p := ⟨X9, 4, none⟩) yl).trans y4; have t5 := (hSw.cell (p := ⟨X9, 5, none⟩) yl).trans y5; have t6 := (hSw.cell (p := ⟨X9, 6, none⟩) yl).trans y6; have n1 := (hSw.cell (p := ⟨q1, o1 + e, none⟩) hq1').trans m1; have n2 := (hSw.cell (p := ⟨q2, o2 + k, none⟩) hq2').trans m2; have s1 := Nat.lt_of_lt_of_le ll hSw.size; have s2 := Nat.lt_of_lt_of_le hblt' hSw.size; have s3 := Nat.lt_of_lt_of_le yl hSw.size; have s4 := Nat.lt_of_lt_of_le hq1' hSw.size; have s5 := Nat.lt_of_lt_of_le hq2' hSw.size; go_simp; try (with_reducible rfl))
              try simp only [Act.put, List.setIfInBounds_toArray, List.set_cons_zero, List.set_cons_succ]
              refine wpAnyH_take (i := 1) (v := ?_) rfl (by kernel_rfl) (by kernel_rfl) (by kernel_rfl) (fun _ _ _ h => h) (Or.inl ⟨by kernel_rfl, ?hy⟩) (by assumption) ?_
              case hy => (intro wq hSw; have g3 := (hSw.cell (p := ⟨w.heap.size + 1, 3, none⟩) ll).trans l3; have u0 := (hSw.cell (p := ⟨b', off' + k * 7, none⟩) hblt').trans f0; have u1 := (hSw.cell (p := ⟨b', off' + k * 7 + 1, none⟩) hblt').trans f1; have u2 := (hSw.cell (p := ⟨b', off' + k * 7 + 2, none⟩) hblt').trans f2; have u3 := (hSw.cell (p := ⟨b', off' + k * 7 + 3, none⟩) hblt').trans f3; have u4 := (hSw.cell (p := ⟨b', off' + k * 7 + 4, none⟩) hblt').trans f4; have u5 := (hSw.cell (p := ⟨b', off' + k * 7 + 5, none⟩) hblt').trans f5; have u6 := (hSw.cell (p := ⟨b', off' + k * 7 + 6, none⟩) hblt').trans f6; have t0 := (hSw.cell (p := ⟨X9, 0, none⟩) yl).trans y0; have t1 := (hSw.cell (p := ⟨X9, 1, none⟩) yl).trans y1; have t2 := (hSw.cell (p := ⟨X9, 2, none⟩) yl).trans y2; have t3 := (hSw.cell (p := ⟨X9, 3, none⟩) yl).trans y3; have t4 := (hSw.cell (p := ⟨X9, 4, none⟩) yl).trans y4; have t5 := (hSw.cell (p := ⟨X9, 5, none⟩) yl).trans y5; have t6 := (hSw.cell (p := ⟨X9, 6, none⟩) yl).trans y6; have n1 := (hSw.cell (p := ⟨q1, o1 + e, none⟩) hq1').trans m1; have n2 := (hSw.cell (p := ⟨q2, o2 + k, none⟩) hq2').trans m2; have s1 := Nat.lt_of_lt_of_le ll hSw.size; have s2 := Nat.lt_of_lt_of_le hblt' hSw.size; have s3 := Nat.lt_of_lt_of_le yl hSw.size; have s4 := Nat.lt_of_lt_of_le hq1' hSw.size; have s5 := Nat.lt_of_lt_of_le hq2' hSw.size; go_simp; try (with_reducible rfl))
              try simp only [Act.put, List.setIfInBounds_toArray, List.set_cons_zero, List.set_cons_succ]
              refine wpAnyH_take (i := 2) (v := ?_) rfl (by kernel_rfl) (by kernel_rfl) (by kernel_rfl) (fun _ _ _ h => h) (Or.inl ⟨by kernel_rfl, ?hy⟩) (by assumption) ?_
              case hy => (intro wq hSw; have g3 := (hSw.cell (p := ⟨w.heap.size + 1, 3, none⟩) ll).trans l3; have u0 := (hSw.cell (p := ⟨b', off' + k * 7, none⟩) hblt').trans f0; have u1 := (hSw.cell (p := ⟨b', off' + k * 7 + 1, none⟩) hblt').trans f1; have u2 := (hSw.cell (p := ⟨b', off' + k * 7 + 2, none⟩) hblt').trans f2; have u3 := (hSw.cell (p := ⟨b', off' + k * 7 + 3, none⟩) hblt').trans f3; have u4 := (hSw.cell (p := ⟨b', off' + k * 7 + 4, none⟩) hblt').trans f4; have u5 := (hSw.cell (p := ⟨b', off' + k * 7 + 5, none⟩) hblt').trans f5; have u6 := (hSw.cell (p := ⟨b', off' + k * 7 + 6, none⟩) hblt').trans f6; have t0 := (hSw.cell (p := ⟨X9, 0, none⟩) yl).trans y0; have t1 := (hSw.cell (p := ⟨X9, 1, none⟩) yl).trans y1; have t2 := (hSw.cell (p := ⟨X9, 2, none⟩) yl).trans y2; have t3 := (hSw.cell (p := ⟨X9, 3, none⟩) yl).trans y3; have t4 := (hSw.cell (p := ⟨X9, 4, none⟩) yl).trans y4; have t5 := (hSw.cell (p := ⟨X9, 5, none⟩) yl).trans y5; have t6 := (hSw.cell (p := ⟨X9, 6, none⟩) yl).trans y6; have n1 := (hSw.cell (p := ⟨q1, o1 + e, none⟩) hq1').trans m1; have n2 := (hSw.cell (p := ⟨q2, o2 + k, none⟩) hq2').trans m2; have s1 := Nat.lt_of_lt_of_le ll hSw.size; have s2 := Nat.lt_of_lt_of_le hblt' hSw.size; have s3 := Nat.lt_of_lt_of_le yl hSw.size; have s4 := Nat.lt_of_lt_of_le hq1' hSw.size; have s5 := Nat.lt_of_lt_of_le hq2' hSw.size; go_simp; try (with_reducible rfl))
              try simp only [Act.put, List.setIfInBounds_toArray, List.set_cons_zero, List.set_cons_succ]
              refine wpAnyH_take (i := 3) (v := ?_) rfl (by kernel_rfl) (by kernel_rfl) (by kernel_rfl) (fun _ _ _ h => h) (Or.inl ⟨by kernel_rfl, ?hy⟩) (by assumption) ?_
              case hy => (intro wq hSw; have g3 := (hSw.cell (p := ⟨w.heap.size + 1, 3, none⟩) ll).trans l3; have u0 := (hSw.cell (p := ⟨b', off' + k * 7, none⟩) hblt').trans f0; have u1 := (hSw.cell (p := ⟨b', off' + k * 7 + 1, none⟩) hblt').trans f1; have u2 := (hSw.cell (p := ⟨b', off' + k * 7 + 2, none⟩) hblt').trans f2; have u3 := (hSw.cell (p := ⟨b', off' + k * 7 + 3, none⟩) hblt').trans f3; have u4 := (hSw.cell (p := ⟨b', off' + k * 7 + 4, none⟩) hblt').trans f4; have u5 := (hSw.cell (p := ⟨b', off' + k * 7 + 5, none⟩) hblt').trans f5; have u6 := (hSw.cell (p := ⟨b', off' + k * 7 + 6, none⟩) hblt').trans f6; have t0 := (hSw.cell (p := ⟨X9, 0, none⟩) yl).trans y0; have t1 := (hSw.cell (p := ⟨X9, 1, none⟩) yl).trans y1; have t2 := (hSw.cell (p := ⟨X9, 2, none⟩) yl).trans y2; have t3 := (hSw.cell (p := ⟨X9, 3, none⟩) yl).trans y3; have t4 := (hSw.cell (p := ⟨X9, 4, none⟩) yl).trans y4; have t5 := (hSw.cell (p := ⟨X9, 5, none⟩) yl).trans y5; have t6 := (hSw.cell (p := ⟨X9, 6, none⟩) yl).trans y6; have n1 := (hSw.cell (p := ⟨q1, o1 + e, none⟩) hq1').trans m1; have n2 := (hSw.cell (p := ⟨q2, o2 + k, none⟩) hq2').trans m2; have s1 := Nat.lt_of_lt_of_le ll hSw.size; have s2 := Nat.lt_of_lt_of_le hblt' hSw.size; have s3 := Nat.lt_of_lt_of_le yl hSw.size; have s4 := Nat.lt_of_lt_of_le hq1' hSw.size; have s5 := Nat.lt_of_lt_of_le hq2' hSw.size; go_simp; try (with_reducible rfl))
              try simp only [Act.put, List.setIfInBounds_toArray, List.set_cons_zero, List.set_cons_succ]
              refine wpAnyH_take (i := 4) (v := ?_) rfl (by kernel_rfl) (by kernel_rfl) (by kernel_rfl) (fun _ _ _ h => h) (Or.inl ⟨by kernel_rfl, ?hy⟩) (by assumption) ?_
              case hy => (intro wq hSw; have g3 := (hSw.cell (p := ⟨w.heap.size + 1, 3, none⟩) ll).trans l3; have u0 := (hSw.cell (p := ⟨b', off' + k * 7, none⟩) hblt').trans f0; have u1 := (hSw.cell (p := ⟨b', off' + k * 7 + 1, none⟩) hblt').trans f1; have u2 := (hSw.cell (p := ⟨b', off' + k * 7 + 2, none⟩) hblt').trans f2; have u3 := (hSw.cell (p := ⟨b', off' + k * 7 + 3, none⟩) hblt').trans f3; have u4 := (hSw.cell (p := ⟨b', off' + k * 7 + 4, none⟩) hblt').trans f4; have u5 := (hSw.cell (p := ⟨b', off' + k * 7 + 5, none⟩) hblt').trans f5; have u6 := (hSw.cell (p := ⟨b', off' + k * 7 + 6, none⟩) hblt').trans f6; have t0 := (hSw.cell (p := ⟨X9, 0, none⟩) yl).trans y0; have t1 := (hSw.cell (p := ⟨X9, 1, none⟩) yl).trans y1; have t2 := (hSw.cell (p := ⟨X9, 2, none⟩) yl).trans y2; have t3 := (hSw.cell (p := ⟨X9, 3, none⟩) yl).trans y3; have t4 := (hSw.cell (p := ⟨X9, 4, none⟩) yl).trans y4; have t5 := (hSw.cell (p := ⟨X9, 5, none⟩) yl).trans y5; have t6 := (hSw.cell (p := ⟨X9, 6, none⟩) yl).trans y6; have n1 := (hSw.cell (p := ⟨q1, o1 + e, none⟩) hq1').trans m1; have n2 := (hSw.cell (p := ⟨q2, o2 + k, none⟩) hq2').trans m2; have s1 := Nat.lt_of_lt_of_le ll hSw.size; have s2 := Nat.lt_of_lt_of_le hblt' hSw.size; have s3 := Nat.lt_of_lt_of_le yl hSw.size; have s4 := Nat.lt_of_lt_of_le hq1' hSw.size; have s5 := Nat.lt_of_lt_of_le hq2' hSw.size; go_simp; try (with_reducible rfl))
              try simp only [Act.put, List.setIfInBounds_toArray, List.set_cons_zero, List.set_cons_succ]
              refine wpAnyH_take (i := 5) (v := ?_) rfl (by kernel_rfl) (by kernel_rfl) (by kernel_rfl) (fun _ _ _ h => h) (Or.inl ⟨by kernel_rfl, ?hy⟩) (by assumption) ?_
              case hy => (intro wq hSw; have g3 := (hSw.cell (p := ⟨w.heap.size + 1, 3, none⟩) ll).trans l3; have u0 := (hSw.cell (p := ⟨b', off' + k * 7, none⟩) hblt').trans f0; have u1 := (hSw.cell (p := ⟨b', off' + k * 7 + 1, none⟩) hblt').trans f1; have u2 := (hSw.cell (p := ⟨b', off' + k * 7 + 2, none⟩) hblt').trans f2; have u3 := (hSw.cell (p := ⟨b', off' + k * 7 + 3, none⟩) hblt').trans f3; have u4 := (hSw.cell (p := ⟨b', off' + k * 7 + 4, none⟩) hblt').trans f4; have u5 := (hSw.cell (p := ⟨b', off' + k * 7 + 5, none⟩) hblt').trans f5; have u6 := (hSw.cell (p := ⟨b', off' + k * 7 + 6, none⟩) hblt').trans f6; have t0 := (hSw.cell (p := ⟨X9, 0, none⟩) yl).trans y0; have t1 := (hSw.cell (p := ⟨X9, 1, none⟩) yl).trans y1; have t2 := (hSw.cell (p := ⟨X9, 2, none⟩) yl).trans y2; have t3 := (hSw.cell (p := ⟨X9, 3, none⟩) yl).trans y3; have t4 := (hSw.cell (p := ⟨X9, 4, none⟩) yl).trans y4; have t5 := (hSw.cell (p := ⟨X9, 5, none⟩) yl).trans y5; have t6 := (hSw.cell (p := ⟨X9, 6, none⟩) yl).trans y6; have n1 := (hSw.cell (p := ⟨q1, o1 + e, none⟩) hq1').trans m1; have n2 := (hSw.cell (p := ⟨q2, o2 + k, none⟩) hq2').trans m2; have s1 := Nat.lt_of_lt_of_le ll hSw.size; have s2 := Nat.lt_of_lt_of_le hblt' hSw.size; have s3 := Nat.lt_of_lt_of_le yl hSw.size; have s4 := Nat.lt_of_lt_of_le hq1' hSw.size; have s5 := Nat.lt_of_lt_of_le hq2' hSw.size; go_simp; try (with_reducible rfl))
              try simp only [Act.put, List.setIfInBounds_toArray, List.set_cons_zero, List.set_cons_succ]
              refine wpAnyH_take (i := 9) (v := ?_) rfl (by kernel_rfl) (by kernel_rfl) (by kernel_rfl) (fun _ _ _ h => h) (Or.inl ⟨by kernel_rfl, ?hy⟩) (by assumption) ?_
              case hy => (intro wq hSw; have g3 := (hSw.cell (p := ⟨w.heap.size + 1, 3, none⟩) ll).trans l3; have u0 := (hSw.cell (p := ⟨b', off' + k * 7, none⟩) hblt').trans f0; have u1 := (hSw.cell (p := ⟨b', off' + k * 7 + 1, none⟩) hblt').trans f1; have u2 := (hSw.cell (p := ⟨b', off' + k * 7 + 2, none⟩) hblt').trans f2; have u3 := (hSw.cell (p := ⟨b', off' + k * 7 + 3, none⟩) hblt').trans f3; have u4 := (hSw.cell (p := ⟨b', off' + k * 7 + 4, none⟩) hblt').trans f4; have u5 := (hSw.cell (p := ⟨b', off' + k * 7 + 5, none⟩) hblt').trans f5; have u6 := (hSw.cell (p := ⟨b', off' + k * 7 + 6, none⟩) hblt').trans f6; have t0 := (hSw.cell (p := ⟨X9, 0, none⟩) yl).trans y0; have t1 := (hSw.cell (p := ⟨X9, 1, none⟩) yl).trans y1; have t2 := (hSw.cell (p := ⟨X9, 2, none⟩) yl).trans y2; have t3 := (hSw.cell (p := ⟨X9, 3, none⟩) yl).trans y3; have t4 := (hSw.cell (p := ⟨X9, 4, none⟩) yl).trans y4; have t5 := (hSw.cell (p := ⟨X9, 5, none⟩) yl).trans y5; have t6 := (hSw.cell (p := ⟨X9, 6, none⟩) yl).trans y6; have n1 := (hSw.cell (p := ⟨q1, o1 + e, none⟩) hq1').trans m1; have n2 := (hSw.cell (p := ⟨q2, o2 + k, none⟩) hq2').trans m2; have s1 := Nat.lt_of_lt_of_le ll hSw.size; have s2 := Nat.lt_of_lt_of_le hblt' hSw.size; have s3 := Nat.lt_of_lt_of_le yl hSw.size; have s4 := Nat.lt_of_lt_of_le hq1' hSw.size; have s5 := Nat.lt_of_lt_of_le hq2' hSw.size; go_simp; try (with_reducible rfl))
              try simp only [Act.put, List.setIfInBounds_toArray, List.set_cons_zero, List.set_cons_succ]
              refine wpAnyH_take (i := 10) (v := ?_) rfl (by kernel_rfl) (by kernel_rfl) (by kernel_rfl) (fun _ _ _ h => h) (Or.inl ⟨by kernel_rfl, ?hy⟩) (by assumption) ?_
              case hy => (intro wq hSw; have g3 := (hSw.cell (p := ⟨w.heap.size + 1, 3, none⟩) ll).trans l3; have u0 := (hSw.cell (p := ⟨b', off' + k * 7, none⟩) hblt').trans f0; have u1 := (hSw.cell (p := ⟨b', off' + k * 7 + 1, none⟩) hblt').trans f1; have u2 := (hSw.cell (p := ⟨b', off' + k * 7 + 2, none⟩) hblt').trans f2; have u3 := (hSw.cell (p := ⟨b', off' + k * 7 + 3, none⟩) hblt').trans f3; have u4 := (hSw.cell (p := ⟨b', off' + k * 7 + 4, none⟩) hblt').trans f4; have u5 := (hSw.cell (p := ⟨b', off' + k * 7 + 5, none⟩) hblt').trans f5; have u6 := (hSw.cell (p := ⟨b', off' + k * 7 + 6, none⟩) hblt').trans f6; have t0 := (hSw.cell (p := ⟨X9, 0, none⟩) yl).trans y0; have t1 := (hSw.cell (p := ⟨X9, 1, none⟩) yl).trans y1; have t2 := (hSw.cell (p := ⟨X9, 2, none⟩) yl).trans y2; have t3 := (hSw.cell (p := ⟨X9, 3, none⟩) yl).trans y3; have t4 := (hSw.cell (p := ⟨X9, 4, none⟩) yl).trans y4; have t5 := (hSw.cell (p := ⟨X9, 5, none⟩) yl).trans y5; have t6 := (hSw.cell (p := ⟨X9, 6, none⟩) yl).trans y6; have n1 := (hSw.cell (p := ⟨q1, o1 + e, none⟩) hq1').trans m1; have n2 := (hSw.cell (p := ⟨q2, o2 + k, none⟩) hq2').trans m2; have s1 := Nat.lt_of_lt_of_le ll hSw.size; have s2 := Nat.lt_of_lt_of_le hblt' hSw.size; have s3 := Nat.lt_of_lt_of_le yl hSw.size; have s4 := Nat.lt_of_lt_of_le hq1' hSw.size; have s5 := Nat.lt_of_lt_of_le hq2' hSw.size; go_simp; try (with_reducible rfl))
              try simp only [Act.put, List.setIfInBounds_toArray, List.set_cons_zero, List.set_cons_succ]
              refine wpAnyH_take (i := 11) (v := ?_) rfl (by kernel_rfl) (by kernel_rfl) (by kernel_rfl) (fun _ _ _ h => h) (Or.inl ⟨by kernel_rfl, ?hy⟩) (by assumption) ?_
              case hy => (intro wq hSw; have g3 := (hSw.cell (p := ⟨w.heap.size + 1, 3, none⟩) ll).trans l3; have u0 := (hSw.cell (p := ⟨b', off' + k * 7, none⟩) hblt').trans f0; have u1 := (hSw.cell (p := ⟨b', off' + k * 7 + 1, none⟩) hblt').trans f1; have u2 := (hSw.cell (p := ⟨b', off' + k * 7 + 2, none⟩) hblt').trans f2; have u3 := (hSw.cell (p := ⟨b', off' + k * 7 + 3, none⟩) hblt').trans f3; have u4 := (hSw.cell (p := ⟨b', off' + k * 7 + 4, none⟩) hblt').trans f4; have u5 := (hSw.cell (p := ⟨b', off' + k * 7 + 5, none⟩) hblt').trans f5; have u6 := (hSw.cell (p := ⟨b', off' + k * 7 + 6, none⟩) hblt').trans f6; have t0 := (hSw.cell (p := ⟨X9, 0, none⟩) yl).trans y0; have t1 := (hSw.cell (p := ⟨X9, 1, none⟩) yl).trans y1; have t2 := (hSw.cell (p := ⟨X9, 2, none⟩) yl).trans y2; have t3 := (hSw.cell (p := ⟨X9, 3, none⟩) yl).trans y3; have t4 := (hSw.cell (p := ⟨X9, 4, none⟩) yl).trans y4; have t5 := (hSw.cell (p := ⟨X9, 5, none⟩) yl).trans y5; have t6 := (hSw.cell (p := ⟨X9, 6, none⟩) yl).trans y6; have n1 := (hSw.cell (p := ⟨q1, o1 + e, none⟩) hq1').trans m1; have n2 := (hSw.cell (p := ⟨q2, o2 + k, none⟩) hq2').trans m2; have s1 := Nat.lt_of_lt_of_le ll hSw.size; have s2 := Nat.lt_of_lt_of_le hblt' hSw.size; have s3 := Nat.lt_of_lt_of_le yl hSw.size; have s4 := Nat.lt_of_lt_of_le hq1' hSw.size; have s5 := Nat.lt_of_lt_of_le hq2' hSw.size; go_simp; try (with_reducible rfl))
              try simp only [Act.put, List.setIfInBounds_toArray, List.set_cons_zero, List.set_cons_succ]
              refine wpAnyH_take (i := 12) (v := ?_) rfl (by kernel_rfl) (by kernel_rfl) (by kernel_rfl) (fun _ _ _ h => h) (Or.inl ⟨by kernel_rfl, ?hy⟩) (by assumption) ?_
              case hy => (intro wq hSw; have g3 := (hSw.cell (p := ⟨w.heap.size + 1, 3, none⟩) ll).trans l3; have u0 := (hSw.cell (p := ⟨b', off' + k * 7, none⟩) hblt').trans f0; have u1 := (hSw.cell (p := ⟨b', off' + k * 7 + 1, none⟩) hblt').trans f1; have u2 := (hSw.cell (p := ⟨b', off' + k * 7 + 2, none⟩) hblt').trans f2; have u3 := (hSw.cell (p := ⟨b', off' + k * 7 + 3, none⟩) hblt').trans f3; have u4 := (hSw.cell (p := ⟨b', off' + k * 7 + 4, none⟩) hblt').trans f4; have u5 := (hSw.cell (p := ⟨b', off' + k * 7 + 5, none⟩) hblt').trans f5; have u6 := (hSw.cell (p := ⟨b', off' + k * 7 + 6, none⟩) hblt').trans f6; have t0 := (hSw.cell (p := ⟨X9, 0, none⟩) yl).trans y0; have t1 := (hSw.cell (p := ⟨X9, 1, none⟩) yl).trans y1; have t2 := (hSw.cell (p := ⟨X9, 2, none⟩) yl).trans y2; have t3 := (hSw.cell (p := ⟨X9, 3, none⟩) yl).trans y3; have t4 := (hSw.cell (p := ⟨X9, 4, none⟩) yl).trans y4; have t5 := (hSw.cell (p := ⟨X9, 5, none⟩) yl).trans y5; have t6 := (hSw.cell (p := ⟨X9, 6, none⟩) yl).trans y6; have n1 := (hSw.cell (p := ⟨q1, o1 + e, none⟩) hq1').trans m1; have n2 := (hSw.cell (p := ⟨q2, o2 + k, none⟩) hq2').trans m2; have s1 := Nat.lt_of_lt_of_le ll hSw.size; have s2 := Nat.lt_of_lt_of_le hblt' hSw.size; have s3 := Nat.lt_of_lt_of_le yl hSw.size; have s4 := Nat.lt_of_lt_of_le hq1' hSw.size; have s5 := Nat.lt_of_lt_of_le hq2' hSw.size; go_simp; try (with_reducible rfl))
              try simp only [Act.put, List.setIfInBounds_toArray, List.set_cons_zero, List.set_cons_succ]
              refine wpAnyH_take (i := 13) (v := ?_) rfl (by kernel_rfl) (by kernel_rfl) (by kernel_rfl) (fun _ _ _ h => h) (Or.inl ⟨by kernel_rfl, ?hy⟩) (by assumption) ?_
              case hy => (intro wq hSw; have g3 := (hSw.cell (p := ⟨w.heap.size + 1, 3, none⟩) ll).trans l3; have u0 := (hSw.cell (p := ⟨b', off' + k * 7, none⟩) hblt').trans f0; have u1 := (hSw.cell (p := ⟨b', off' + k * 7 + 1, none⟩) hblt').trans f1; have u2 := (hSw.cell (p := ⟨b', off' + k * 7 + 2, none⟩) hblt').trans f2; have u3 := (hSw.cell (p := ⟨b', off' + k * 7 + 3, none⟩) hblt').trans f3; have u4 := (hSw.cell (p := ⟨b', off' + k * 7 + 4, none⟩) hblt').trans f4; have u5 := (hSw.cell (p := ⟨b', off' + k * 7 + 5, none⟩) hblt').trans f5; have u6 := (hSw.cell (p := ⟨b', off' + k * 7 + 6, none⟩) hblt').trans f6; have t0 := (hSw.cell (p := ⟨X9, 0, none⟩) yl).trans y0; have t1 := (hSw.cell (p := ⟨X9, 1, none⟩) yl).trans y1; have t2 := (hSw.cell (p := ⟨X9, 2, none⟩) yl).trans y2; have t3 := (hSw.cell (p := ⟨X9, 3, none⟩) yl).trans y3; have t4 := (hSw.cell (p := ⟨X9, 4, none⟩) yl).trans y4; have t5 := (hSw.cell (p := ⟨X9, 5, none⟩) yl).trans y5; have t6 := (hSw.cell (p := ⟨X9, 6, none⟩) yl).trans y6; have n1 := (hSw.cell (p := ⟨q1, o1 + e, none⟩) hq1').trans m1; have n2 := (hSw.cell (p := ⟨q2, o2 + k, none⟩) hq2').trans m2; have s1 := Nat.lt_of_lt_of_le ll hSw.size; have s2 := Nat.lt_of_lt_of_le hblt' hSw.size; have s3 := Nat.lt_of_lt_of_le yl hSw.size; have s4 := Nat.lt_of_lt_of_le hq1' hSw.size; have s5 := Nat.lt_of_lt_of_le hq2' hSw.size; go_simp; try (with_reducible rfl))
              try simp only [Act.put, List.setIfInBounds_toArray, List.set_cons_zero, List.set_cons_succ]
              refine wpAnyH_take (i := 14) (v := ?_) rfl (by kernel_rfl) (by kernel_rfl) (by kernel_rfl) (fun _ _ _ h => h) (Or.inl ⟨by kernel_rfl, ?hy⟩) (by assumption) ?_
              case hy => (intro wq hSw; have g3 := (hSw.cell (p := ⟨w.heap.size + 1, 3, none⟩) ll).trans l3; have u0 := (hSw.cell (p := ⟨b', off' + k * 7, none⟩) hblt').trans f0; have u1 := (hSw.cell (p := ⟨b', off' + k * 7 + 1, none⟩) hblt').trans f1; have u2 := (hSw.cell (p := ⟨b', off' + k * 7 + 2, none⟩) hblt').trans f2; have u3 := (hSw.cell (p := ⟨b', off' + k * 7 + 3, none⟩) hblt').trans f3; have u4 := (hSw.cell (p := ⟨b', off' + k * 7 + 4, none⟩) hblt').trans f4; have u5 := (hSw.cell (p := ⟨b', off' + k * 7 + 5, none⟩) hblt').trans f5; have u6 := (hSw.cell (p := ⟨b', off' + k * 7 + 6, none⟩) hblt').trans f6; have t0 := (hSw.cell (p := ⟨X9, 0, none⟩) yl).trans y0; have t1 := (hSw.cell (p := ⟨X9, 1, none⟩) yl).trans y1; have t2 := (hSw.cell (p := ⟨X9, 2, none⟩) yl).trans y2; have t3 := (hSw.cell (p := ⟨X9, 3, none⟩) yl).trans y3; have t4 := (hSw.cell (p := ⟨X9, 4, none⟩) yl).trans y4; have t5 := (hSw.cell (p := ⟨X9, 5, none⟩) yl).trans y5; have t6 := (hSw.cell (p := ⟨X9, 6, none⟩) yl).trans y6; have n1 := (hSw.cell (p := ⟨q1, o1 + e, none⟩) hq1').trans m1; have n2 := (hSw.cell (p := ⟨q2, o2 + k, none⟩) hq2').trans m2; have s1 := Nat.lt_of_lt_of_le ll hSw.size; have s2 := Nat.lt_of_lt_of_le hblt' hSw.size; have s3 := Nat.lt_of_lt_of_le yl hSw.size; have s4 := Nat.lt_of_lt_of_le hq1' hSw.size; have s5 := Nat.lt_of_lt_of_le hq2' hSw.size; go_simp; try (with_reducible rfl))
              try simp only [Act.put, List.setIfInBounds_toArray, List.set_cons_zero, List.set_cons_succ]
              refine wpAnyH_take (i := 15) (v := ?_) rfl (by kernel_rfl) (by kernel_rfl) (by kernel_rfl) (fun _ _ _ h => h) (Or.inl ⟨by kernel_rfl, ?hy⟩) (by assumption) ?_
              case hy => (intro wq hSw; have g3 := (hSw.cell (p := ⟨w.heap.size + 1, 3, none⟩) ll).trans l3; have u0 := (hSw.cell (p := ⟨b', off' + k * 7, none⟩) hblt').trans f0; have u1 := (hSw.cell (p := ⟨b', off' + k * 7 + 1, none⟩) hblt').trans f1; have u2 := (hSw.cell (p := ⟨b', off' + k * 7 + 2, none⟩) hblt').trans f2; have u3 := (hSw.cell (p := ⟨b', off' + k * 7 + 3, none⟩) hblt').trans f3; have u4 := (hSw.cell (p := ⟨b', off' + k * 7 + 4, none⟩) hblt').trans f4; have u5 := (hSw.cell (p := ⟨b', off' + k * 7 + 5, none⟩) hblt').trans f5; have u6 := (hSw.cell (p := ⟨b', off' + k * 7 + 6, none⟩) hblt').trans f6; have t0 := (hSw.cell (p := ⟨X9, 0, none⟩) yl).trans y0; have t1 := (hSw.cell (p := ⟨X9, 1, none⟩) yl).trans y1; have t2 := (hSw.cell (p := ⟨X9, 2, none⟩) yl).trans y2; have t3 := (hSw.cell (p := ⟨X9, 3, none⟩) yl).trans y3; have t4 := (hSw.cell (p := ⟨X9, 4, none⟩) yl).trans y4; have t5 := (hSw.cell (p := ⟨X9, 5, none⟩) yl).trans y5; have t6 := (hSw.cell (p := ⟨X9, 6, none⟩) yl).trans y6; have n1 := (hSw.cell (p := ⟨q1, o1 + e, none⟩) hq1').trans m1; have n2 := (hSw.cell (p := ⟨q2, o2 + k, none⟩) hq2').trans m2; have s1 := Nat.lt_of_lt_of_le ll hSw.size; have s2 := Nat.lt_of_lt_of_le hblt' hSw.size; have s3 := Nat.lt_of_lt_of_le yl hSw.size; have s4 := Nat.lt_of_lt_of_le hq1' hSw.size; have s5 := Nat.lt_of_lt_of_le hq2' hSw.size; go_simp; try (with_reducible rfl))
              try simp only [Act.put, List.setIfInBounds_toArray, List.set_cons_zero, List.set_cons_succ]
              refine wpAnyH_take (i := 16) (v := ?_) rfl (by kernel_rfl) (by kernel_rfl) (by kernel_rfl) (fun _ _ _ h => h) (Or.inl ⟨by kernel_rfl, ?hy⟩) (by assumption) ?_
              case hy => (intro wq hSw; have g3 := (hSw.cell (p := ⟨w.heap.size + 1, 3, none⟩) ll).trans l3; have u0 := (hSw.cell (p := ⟨b', off' + k * 7, none⟩) hblt').trans f0; have u1 := (hSw.cell (p := ⟨b', off' + k * 7 + 1, none⟩) hblt').trans f1; have u2 := (hSw.cell (p := ⟨b', off' + k * 7 + 2, none⟩) hblt').trans f2; have u3 := (hSw.cell (p := ⟨b', off' + k * 7 + 3, none⟩) hblt').trans f3; have u4 := (hSw.cell (p := ⟨b', off' + k * 7 + 4, none⟩) hblt').trans f4; have u5 := (hSw.cell (p := ⟨b', off' + k * 7 + 5, none⟩) hblt').trans f5; have u6 := (hSw.cell (p := ⟨b', off' + k * 7 + 6, none⟩) hblt').trans f6; have t0 := (hSw.cell (p := ⟨X9, 0, none⟩) yl).trans y0; have t1 := (hSw.cell (p := ⟨X9, 1, none⟩) yl).trans y1; have t2 := (hSw.cell (p := ⟨X9, 2, none⟩) yl).trans y2; have t3 := (hSw.cell (p := ⟨X9, 3, none⟩) yl).trans y3; have t4 := (hSw.cell (p := ⟨X9, 4, none⟩) yl).trans y4; have t5 := (hSw.cell (p := ⟨X9, 5, none⟩) yl).trans y5; have t6 := (hSw.cell (p := ⟨X9, 6, none⟩) yl).trans y6; have n1 := (hSw.cell (p := ⟨q1, o1 + e, none⟩) hq1').trans m1; have n2 := (hSw.cell (p := ⟨q2, o2 + k, none⟩) hq2').trans m2; have s1 := Nat.lt_of_lt_of_le ll hSw.size; have s2 := Nat.lt_of_lt_of_le hblt' hSw.size; have s3 := Nat.lt_of_lt_of_le yl hSw.size; have s4 := Nat.lt_of_lt_of_le hq1' hSw.size; have s5 := Nat.lt_of_lt_of_le hq2' hSw.size; go_simp; try (with_reducible rfl))
              try simp only [Act.put, List.setIfInBounds_toArray, List.set_cons_zero, List.set_cons_succ]
              refine wpAnyH_take (i := 17) (v := ?_) rfl (by kernel_rfl) (by kernel_rfl) (by kernel_rfl) (fun _ _ _ h => h) (Or.inl ⟨by kernel_rfl, ?hy⟩) (by assumption) ?_
              case hy => (intro wq hSw; have g3 := (hSw.cell (p := ⟨w.heap.size + 1, 3, none⟩) ll).trans l3; have u0 := (hSw.cell (p := ⟨b', off' + k * 7, none⟩) hblt').trans f0; have u1 := (hSw.cell (p := ⟨b', off' + k * 7 + 1, none⟩) hblt').trans f1; have u2 := (hSw.cell (p := ⟨b', off' + k * 7 + 2, none⟩) hblt').trans f2; have u3 := (hSw.cell (p := ⟨b', off' + k * 7 + 3, none⟩) hblt').trans f3; have u4 := (hSw.cell (p := ⟨b', off' + k * 7 + 4, none⟩) hblt').trans f4; have u5 := (hSw.cell (p := ⟨b', off' + k * 7 + 5, none⟩) hblt').trans f5; have u6 := (hSw.cell (p := ⟨b', off' + k * 7 + 6, none⟩) hblt').trans f6; have t0 := (hSw.cell (p := ⟨X9, 0, none⟩) yl).trans y0; have t1 := (hSw.cell (p := ⟨X9, 1, none⟩) yl).trans y1; have t2 := (hSw.cell (p := ⟨X9, 2, none⟩) yl).trans y2; have t3 := (hSw.cell (p := ⟨X9, 3, none⟩) yl).trans y3; have t4 := (hSw.cell (p := ⟨X9, 4, none⟩) yl).trans y4; have t5 := (hSw.cell (p := ⟨X9, 5, none⟩) yl).trans y5; have t6 := (hSw.cell (p := ⟨X9, 6, none⟩) yl).trans y6; have n1 := (hSw.cell (p := ⟨q1, o1 + e, none⟩) hq1').trans m1; have n2 := (hSw.cell (p := ⟨q2, o2 + k, none⟩) hq2').trans m2; have s1 := Nat.lt_of_lt_of_le ll hSw.size; have s2 := Nat.lt_of_lt_of_le hblt' hSw.size; have s3 := Nat.lt_of_lt_of_le yl hSw.size; have s4 := Nat.lt_of_lt_of_le hq1' hSw.size; have s5 := Nat.lt_of_lt_of_le hq2' hSw.size; go_simp; try (with_reducible rfl))
              try simp only [Act.put, List.setIfInBounds_toArray, List.set_cons_zero, List.set_cons_succ]
              refine wpAnyH_take (i := 18) (v := ?_) rfl (by kernel_rfl) (by kernel_rfl) (by kernel_rfl) (fun _ _ _ h => h) (Or.inl ⟨by kernel_rfl, ?hy⟩) (by assumption) ?_
              case hy => (intro wq hSw; have g3 := (hSw.cell (p := ⟨w.heap.size + 1, 3, none⟩) ll).trans l3; have u0 := (hSw.cell (p := ⟨b', off' + k * 7, none⟩) hblt').trans f0; have u1 := (hSw.cell (p := ⟨b', off' + k * 7 + 1, none⟩) hblt').trans f1; have u2 := (hSw.cell (p := ⟨b', off' + k * 7 + 2, none⟩) hblt').trans f2; have u3 := (hSw.cell (p := ⟨b', off' + k * 7 + 3, none⟩) hblt').trans f3; have u4 := (hSw.cell (p := ⟨b', off' + k * 7 + 4, none⟩) hblt').trans f4; have u5 := (hSw.cell (p := ⟨b', off' + k * 7 + 5, none⟩) hblt').trans f5; have u6 := (hSw.cell (p := ⟨b', off' + k * 7 + 6, none⟩) hblt').trans f6; have t0 := (hSw.cell (p := ⟨X9, 0, none⟩) yl).trans y0; have t1 := (hSw.cell (p := ⟨X9, 1, none⟩) yl).trans y1; have t2 := (hSw.cell (p := ⟨X9, 2, none⟩) yl).trans y2; have t3 := (hSw.cell (p := ⟨X9, 3, none⟩) yl).trans y3; have t4 := (hSw.cell (p := ⟨X9, 4, none⟩) yl).trans y4; have t5 := (hSw.cell (p := ⟨X9, 5, none⟩) yl).trans y5; have t6 := (hSw.cell (p := ⟨X9, 6, none⟩) yl).trans y6; have n1 := (hSw.cell (p := ⟨q1, o1 + e, none⟩) hq1').trans m1; have n2 := (hSw.cell (p := ⟨q2, o2 + k, none⟩) hq2').trans m2; have s1 := Nat.lt_of_lt_of_le ll hSw.size; have s2 := Nat.lt_of_lt_of_le hblt' hSw.size; have s3 := Nat.lt_of_lt_of_le yl hSw.size; have s4 := Nat.lt_of_lt_of_le hq1' hSw.size; have s5 := Nat.lt_of_lt_of_le hq2' hSw.size; go_simp; try (with_reducible rfl))
              try simp only [Act.put, List.setIfInBounds_toArray, List.set_cons_zero, List.set_cons_succ]
              refine wpAnyH_take (i := 19) (v := ?_) rfl (by kernel_rfl) (by kernel_rfl) (by kernel_rfl) (fun _ _ _ h => h) (Or.inl ⟨by kernel_rfl, ?hy⟩) (by assumption) ?_
              case hy => (intro wq hSw; have g3 := (hSw.cell (p := ⟨w.heap.size + 1, 3, none⟩) ll).trans l3; have u0 := (hSw.cell (p := ⟨b', off' + k * 7, none⟩) hblt').trans f0; have u1 := (hSw.cell (p := ⟨b', off' + k * 7 + 1, none⟩) hblt').trans f1; have u2 := (hSw.cell (p := ⟨b', off' + k * 7 + 2, none⟩) hblt').trans f2; have u3 := (hSw.cell (p := ⟨b', off' + k * 7 + 3, none⟩) hblt').trans f3; have u4 := (hSw.cell (p := ⟨b', off' + k * 7 + 4, none⟩) hblt').trans f4; have u5 := (hSw.cell (p := ⟨b', off' + k * 7 + 5, none⟩) hblt').trans f5; have u6 := (hSw.cell (p := ⟨b', off' + k * 7 + 6, none⟩) hblt').trans f6; have t0 := (hSw.cell (p := ⟨X9, 0, none⟩) yl).trans y0; have t1 := (hSw.cell (p := ⟨X9, 1, none⟩) yl).trans y1; have t2 := (hSw.cell (p := ⟨X9, 2, none⟩) yl).trans y2; have t3 := (hSw.cell (p := ⟨X9, 3, none⟩) yl).trans y3; have t4 := (hSw.cell (p := ⟨X9, 4, none⟩) yl).trans y4; have t5 := (hSw.cell (p := ⟨X9, 5, none⟩) yl).trans y5; have t6 := (hSw.cell (p := ⟨X9, 6, none⟩) yl).trans y6; have n1 := (hSw.cell (p := ⟨q1, o1 + e, none⟩) hq1').trans m1; have n2 := (hSw.cell (p := ⟨q2, o2 + k, none⟩) hq2').trans m2; have s1 := Nat.lt_of_lt_of_le ll hSw.size; have s2 := Nat.lt_of_lt_of_le hblt' hSw.size; have s3 := Nat.lt_of_lt_of_le yl hSw.size; have s4 := Nat.lt_of_lt_of_le hq1' hSw.size; have s5 := Nat.lt_of_lt_of_le hq2' hSw.size; go_simp; try (with_reducible rfl))
              try simp only [Act.put, List.setIfInBounds_toArray, List.set_cons_zero, List.set_cons_succ]
              refine wpAnyH_ready (rs := [6]) (by kernel_rfl) (by simp) ?_
              refine AllReadyH.cons rfl (fun K hK => ?_) AllReadyH.nil
              go_simp
              refine (HCA.out _ hS).mono ?_; rintro e w5 ⟨rfl, b3⟩; have hS : Below W9.heap.size W9 w5 := hS.trans (b3.mono hS.size)
              refine hK.out _ _ hS (fun hHeld => ?_)
              clear hK K hHeld
              try simp only [Act.put, List.setIfInBounds_toArray, List.set_cons_zero, List.set_cons_succ]
              refine wpAnyH_take (i := 7) (v := ?_) rfl (by kernel_rfl) (by kernel_rfl) (by kernel_rfl) (fun _ _ _ h => h) (Or.inl ⟨by kernel_rfl, ?hy⟩) (by assumption) ?_
              case hy => (intro wq hSw; have g3 := (hSw.cell (p := ⟨w.heap.size + 1, 3, none⟩) ll).trans l3; have u0 := (hSw.cell (p := ⟨b', off' + k * 7, none⟩) hblt').trans f0; have u1 := (hSw.cell (p := ⟨b', off' + k * 7 + 1, none⟩) hblt').trans f1; have u2 := (hSw.cell (p := ⟨b', off' + k * 7 + 2, none⟩) hblt').trans f2; have u3 := (hSw.cell (p := ⟨b', off' + k * 7 + 3, none⟩) hblt').trans f3; have u4 := (hSw.cell (p := ⟨b', off' + k * 7 + 4, none⟩) hblt').trans f4; have u5 := (hSw.cell (p := ⟨b', off' + k * 7 + 5, none⟩) hblt').trans f5; have u6 := (hSw.cell (p := ⟨b', off' + k * 7 + 6, none⟩) hblt').trans f6; have t0 := (hSw.cell (p := ⟨X9, 0, none⟩) yl).trans y0; have t1 := (hSw.cell (p := ⟨X9, 1, none⟩) yl).trans y1; have t2 := (hSw.cell (p := ⟨X9, 2, none⟩) yl).trans y2; have t3 := (hSw.cell (p := ⟨X9, 3, none⟩) yl).trans y3; have t4 := (hSw.cell (p := ⟨X9, 4, none⟩) yl).trans y4; have t5 := (hSw.cell (p := ⟨X9, 5, none⟩) yl).trans y5; have t6 := (hSw.cell (p := ⟨X9, 6, none⟩) yl).trans y6; have n1 := (hSw.cell (p := ⟨q1, o1 + e, none⟩) hq1').trans m1; have n2 := (hSw.cell (p := ⟨q2, o2 + k, none⟩) hq2').trans m2; have s1 := Nat.lt_of_lt_of_le ll hSw.size; have s2 := Nat.lt_of_lt_of_le hblt' hSw.size; have s3 := Nat.lt_of_lt_of_le yl hSw.size; have s4 := Nat.lt_of_lt_of_le hq1' hSw.size; have s5 := Nat.lt_of_lt_of_le hq2' hSw.size; go_simp; try (with_reducible rfl))
              try simp only [Act.put, List.setIfInBounds_toArray, List.set_cons_zero, List.set_cons_succ]
              refine wpAnyH_ready (rs := [8]) (by kernel_rfl) (by simp) ?_
              refine AllReadyH.cons rfl (fun K hK => ?_) AllReadyH.nil
              go_simp
              refine (bfaultIf_any _ _ _).mono ?_; rintro e w' ⟨rfl, rfl⟩
              refine hK.out _ _ hS (fun hHeld => ?_)
              clear hK K hHeld
              try simp only [Act.put, List.setIfInBounds_toArray, List.set_cons_zero, List.set_cons_succ]
              refine wpAnyH_ready (rs := [20]) (by kernel_rfl) (by simp) ?_
              refine AllReadyH.cons rfl (fun K hK => ?_) AllReadyH.nil
              go_simp
              refine (bfaultIf_any _ _ _).mono ?_; rintro e w' ⟨rfl, rfl⟩
              refine hK.out _ _ hS (fun hHeld => ?_)
              clear hK K hHeld
              try simp only [Act.put, List.setIfInBounds_toArray, List.set_cons_zero, List.set_cons_succ]
              refine wpAnyH_ready (rs := [21]) (by kernel_rfl) (by simp) ?_
              refine AllReadyH.cons rfl (fun K hK => ?_) AllReadyH.nil
              go_simp
              have hS : Below W9.heap.size W9 (w5.alloc (.cells #[.int .i64 (fIf (!D) 12), .int .i64 (fIf NEB 3)] 25)) := hS.alloc hS.size _
              refine hK.out _ _ hS (fun hHeld => ?_)
              clear hK K hHeld
              try simp only [Act.put, List.setIfInBounds_toArray, List.set_cons_zero, List.set_cons_succ]
              refine wpAnyH_ready (rs := [22]) (by kernel_rfl) (by simp) ?_
              refine AllReadyH.cons rfl (fun K hK => ?_) AllReadyH.nil
              go_simp
              refine (lfirst2 _ _ _).mono ?_; rintro e w' ⟨rfl, rfl⟩; rw [HZZ.out]
              refine hK.out _ _ hS (fun hHeld => ?_)
              clear hK K hHeld
              try simp only [Act.put, List.setIfInBounds_toArray, List.set_cons_zero, List.set_cons_succ]
              refine wpAnyH_take (i := 23) (v := ?_) rfl (by kernel_rfl) (by kernel_rfl) (by kernel_rfl) (fun _ _ _ h => h) (Or.inl ⟨by kernel_rfl, ?hy⟩) (by assumption) ?_
              case hy => (intro wq hSw; have g3 := (hSw.cell (p := ⟨w.heap.size + 1, 3, none⟩) ll).trans l3; have u0 := (hSw.cell (p := ⟨b', off' + k * 7, none⟩) hblt').trans f0; have u1 := (hSw.cell (p := ⟨b', off' + k * 7 + 1, none⟩) hblt').trans f1; have u2 := (hSw.cell (p := ⟨b', off' + k * 7 + 2, none⟩) hblt').trans f2; have u3 := (hSw.cell (p := ⟨b', off' + k * 7 + 3, none⟩) hblt').trans f3; have u4 := (hSw.cell (p := ⟨b', off' + k * 7 + 4, none⟩) hblt').trans f4; have u5 := (hSw.cell (p := ⟨b', off' + k * 7 + 5, none⟩) hblt').trans f5; have u6 := (hSw.cell (p := ⟨b', off' + k * 7 + 6, none⟩) hblt').trans f6; have t0 := (hSw.cell (p := ⟨X9, 0, none⟩) yl).trans y0; have t1 := (hSw.cell (p := ⟨X9, 1, none⟩) yl).trans y1; have t2 := (hSw.cell (p := ⟨X9, 2, none⟩) yl).trans y2; have t3 := (hSw.cell (p := ⟨X9, 3, none⟩) yl).trans y3; have t4 := (hSw.cell (p := ⟨X9, 4, none⟩) yl).trans y4; have t5 := (hSw.cell (p := ⟨X9, 5, none⟩) yl).trans y5; have t6 := (hSw.cell (p := ⟨X9, 6, none⟩) yl).trans y6; have n1 := (hSw.cell (p := ⟨q1, o1 + e, none⟩) hq1').trans m1; have n2 := (hSw.cell (p := ⟨q2, o2 + k, none⟩) hq2').trans m2; have s1 := Nat.lt_of_lt_of_le ll hSw.size; have s2 := Nat.lt_of_lt_of_le hblt' hSw.size; have s3 := Nat.lt_of_lt_of_le yl hSw.size; have s4 := Nat.lt_of_lt_of_le hq1' hSw.size; have s5 := Nat.lt_of_lt_of_le hq2' hSw.size; go_simp; try (with_reducible rfl))
              try simp only [Act.put, List.setIfInBounds_toArray, List.set_cons_zero, List.set_cons_succ]
              refine wpAnyH_done (by kernel_rfl) ?_ _
              refine NoPanic.normal ?_
              try go_simp
              go_wp2_with fail
              go_meet
              exact ⟨rfl, hS⟩
            case rest =>
              obtain ⟨rfl, bx⟩ := hcut
              have hbn4 := hbr4.trans (bx.mono hbr4.size)
              have hbn := hbr.trans (bx.mono hbr.size)
              clear f0 f1 f2 f3 f4 f5 f6 y0 y1 y2 y3 y4 y5 y6 yl m1 m2 l3 ll bx
              by_cases h0 : z = 0
              · have HN2 : Hid (fstF ((clL ⟨tg, fi, bk, es, en⟩ ⟨tg', fi', bk', fs, en'⟩ g N).drop (k + 1)) = R) := Lib.hid (by have := HST.out; rw [if_pos h0] at this; exact this.symm)
                subst h0
                go_wp2_with fail
                go_roundw
                case rel => exact ⟨k + 1, by omega, by go_num, hbn4, HN2⟩
                case measure => simp [intOf]; omega
              · have hne : (z == 0) = false := by simp; exact h0
                have hne2 : (z != 0) = true := by simp; exact h0
                have e1 : R = z := by have := HST.out; rw [if_neg h0] at this; exact this
                subst e1
                go_wp2_with fail
                go_ret
                exact ⟨rfl, hbn⟩

end Go.Proofs.Ytikpemmfmkdndaa
