/- ListFollowsMatchSpec: whatever the input, the law returns true: the walk. -/
import Derived.Test.YtikpemmfmkdndaaFol
import Derived.Test.YtikpemmfmkdndaaRFol2
import Derived.Test.YtikpemmfmkdndaaAwake6
namespace Go.Proofs.Ytikpemmfmkdndaa
set_option linter.unusedVariables false
set_option linter.unusedSimpArgs false
open Go.RowKit Go.Shelf Go.Deep

set_option maxRecDepth 100000 in
set_option maxHeartbeats 8000000 in
theorem folslaw (tg fi bk : Int) (a : Option Addr) (n cap : Nat) (en : Bool) (es : List Ent) (Us : Nat → Value) (tg' fi' bk' : Int) (a' : Option Addr) (m cap' : Nat) (en' : Bool) (fs : List Ent) (Vs : Nat → Value) (w : World) (hE : EntsU w (.slice a n cap) es Us) (hn : es.length = n) (hwf : ∀ y ∈ es, EntWf y) (hF : EntsU w (.slice a' m cap') fs Vs) (hm : fs.length = m) (hwf' : ∀ y ∈ fs, EntWf y) :
    Calls Try.prog 5 #[.agg #[.int .i64 tg, .int .i64 fi, .int .i64 bk, .slice a n cap, .bool en], .agg #[.int .i64 tg', .int .i64 fi', .int .i64 bk', .slice a' m cap', .bool en']] w fun e w' => e = .returned (.bool true) ∧ Below w.heap.size w w' := by
  have bX : Below w.heap.size w (w.alloc (.cells #[.int .i64 tg, .int .i64 fi, .int .i64 bk, .slice a n cap, .bool en] 24)) := (Below.refl _ w).alloc (Nat.le_refl _) _
  have b1 : Below w.heap.size w ((w.alloc (.cells #[.int .i64 tg, .int .i64 fi, .int .i64 bk, .slice a n cap, .bool en] 24)).alloc (.cells #[.int .i64 tg', .int .i64 fi', .int .i64 bk', .slice a' m cap', .bool en'] 24)) := bX.alloc bX.size _
  have FX := (LBox.new w tg fi bk (.slice a n cap) en 24).alloc (.cells #[.int .i64 tg', .int .i64 fi', .int .i64 bk', .slice a' m cap', .bool en'] 24)
  have FY := LBox.new (w.alloc (.cells #[.int .i64 tg, .int .i64 fi, .int .i64 bk, .slice a n cap, .bool en] 24)) tg' fi' bk' (.slice a' m cap') en' 24
  have hsz : (w.alloc (.cells #[.int .i64 tg, .int .i64 fi, .int .i64 bk, .slice a n cap, .bool en] 24)).heap.size = w.heap.size + 1 := by simp
  rw [hsz] at FY
  have H1 : Hid (∀ W, Below w.heap.size w W → Calls Try.prog 24 #[.agg #[.int .i64 tg, .int .i64 fi, .int .i64 bk, .slice a n cap, .bool en], .agg #[.int .i64 tg', .int .i64 fi', .int .i64 bk', .slice a' m cap', .bool en']] W fun r w' => r = .returned (.int .i64 (folF ⟨tg, fi, bk, es, en⟩ ⟨tg', fi', bk', fs, en'⟩)) ∧ Below W.heap.size W w') := Lib.hid (fun W hb => Follows_walk tg fi bk a n cap en es Us tg' fi' bk' a' m cap' en' fs Vs W (hE.below hb (Nat.le_refl _)) hn hwf (hF.below hb (Nat.le_refl _)) hm hwf')
  have H2 : Hid (∀ W, Below w.heap.size w W → Calls Try.prog 25 #[.agg #[.int .i64 tg, .int .i64 fi, .int .i64 bk, .slice a n cap, .bool en], .agg #[.int .i64 tg', .int .i64 fi', .int .i64 bk', .slice a' m cap', .bool en']] W fun r w' => r = .returned (.int .i64 (folF ⟨tg, fi, bk, es, en⟩ ⟨tg', fi', bk', fs, en'⟩)) ∧ Below W.heap.size W w') := Lib.hid (fun W hb => rFollows_walk tg fi bk a n cap en es Us tg' fi' bk' a' m cap' en' fs Vs W (hE.below hb (Nat.le_refl _)) hn hwf (hF.below hb (Nat.le_refl _)) hm hwf')
  obtain ⟨R, hR⟩ : ∃ R, folF ⟨tg, fi, bk, es, en⟩ ⟨tg', fi', bk', fs, en'⟩ = R := ⟨_, rfl⟩
  rw [hR] at H1 H2
  have z1 : (R == R) = true := by simp
  clear hE hF hn hm hwf hwf' hR hsz bX
  go_enter Try.func5, Try.ntmps5
  go_upto_region 1 with fail
  generalize (w.alloc (.cells #[.int .i64 tg, .int .i64 fi, .int .i64 bk, .slice a n cap, .bool en] 24)).alloc (.cells #[.int .i64 tg', .int .i64 fi', .int .i64 bk', .slice a' m cap', .bool en'] 24) = W at *
  have k0 := FX.c0; have k1 := FX.c1; have k2 := FX.c2; have k3 := FX.c3; have k4 := FX.c4; have kl := FX.lt
  have l0 := FY.c0; have l1 := FY.c1; have l2 := FY.c2; have l3 := FY.c3; have l4 := FY.c4; have ll := FY.lt
  clear FX FY
  go_cut [4] (fun s4 wx => s4 = .bool true ∧ Below W.heap.size W wx)
  case first =>
    refine wp_region_noPanic ?_
    refine wp_region_held_drew (S := fun w' => Below W.heap.size W w') (by kernel_rfl) ?hS0 (fun hHeld => ?_)
    case hS0 => exact (Below.refl _ W).drew
    have hS : Below W.heap.size W W.drew := (Below.refl _ W).drew
    clear hHeld
    generalize W.drew = wd at *
    refine wpAnyH_take (i := 0) (v := ?_) rfl (by kernel_rfl) (by kernel_rfl) (by kernel_rfl) (fun _ _ _ h => h) (Or.inl ⟨by kernel_rfl, ?hy⟩) (by assumption) ?_
    case hy => (intro wq hSw; have q0 := (hSw.cell (p := ⟨w.heap.size, 0, none⟩) kl).trans k0; have q1 := (hSw.cell (p := ⟨w.heap.size, 1, none⟩) kl).trans k1; have q2 := (hSw.cell (p := ⟨w.heap.size, 2, none⟩) kl).trans k2; have q3 := (hSw.cell (p := ⟨w.heap.size, 3, none⟩) kl).trans k3; have q4 := (hSw.cell (p := ⟨w.heap.size, 4, none⟩) kl).trans k4; have p0 := (hSw.cell (p := ⟨w.heap.size + 1, 0, none⟩) ll).trans l0; have p1 := (hSw.cell (p := ⟨w.heap.size + 1, 1, none⟩) ll).trans l1; have p2 := (hSw.cell (p := ⟨w.heap.size + 1, 2, none⟩) ll).trans l2; have p3 := (hSw.cell (p := ⟨w.heap.size + 1, 3, none⟩) ll).trans l3; have p4 := (hSw.cell (p := ⟨w.heap.size + 1, 4, none⟩) ll).trans l4; have s1 := Nat.lt_of_lt_of_le kl hSw.size; have s2 := Nat.lt_of_lt_of_le ll hSw.size; go_simp; try (with_reducible rfl))
    try simp only [Act.put, List.setIfInBounds_toArray, List.set_cons_zero, List.set_cons_succ]
    refine wpAnyH_take (i := 1) (v := ?_) rfl (by kernel_rfl) (by kernel_rfl) (by kernel_rfl) (fun _ _ _ h => h) (Or.inl ⟨by kernel_rfl, ?hy⟩) (by assumption) ?_
    case hy => (intro wq hSw; have q0 := (hSw.cell (p := ⟨w.heap.size, 0, none⟩) kl).trans k0; have q1 := (hSw.cell (p := ⟨w.heap.size, 1, none⟩) kl).trans k1; have q2 := (hSw.cell (p := ⟨w.heap.size, 2, none⟩) kl).trans k2; have q3 := (hSw.cell (p := ⟨w.heap.size, 3, none⟩) kl).trans k3; have q4 := (hSw.cell (p := ⟨w.heap.size, 4, none⟩) kl).trans k4; have p0 := (hSw.cell (p := ⟨w.heap.size + 1, 0, none⟩) ll).trans l0; have p1 := (hSw.cell (p := ⟨w.heap.size + 1, 1, none⟩) ll).trans l1; have p2 := (hSw.cell (p := ⟨w.heap.size + 1, 2, none⟩) ll).trans l2; have p3 := (hSw.cell (p := ⟨w.heap.size + 1, 3, none⟩) ll).trans l3; have p4 := (hSw.cell (p := ⟨w.heap.size + 1, 4, none⟩) ll).trans l4; have s1 := Nat.lt_of_lt_of_le kl hSw.size; have s2 := Nat.lt_of_lt_of_le ll hSw.size; go_simp; try (with_reducible rfl))
    try simp only [Act.put, List.setIfInBounds_toArray, List.set_cons_zero, List.set_cons_succ]
    refine wpAnyH_take (i := 3) (v := ?_) rfl (by kernel_rfl) (by kernel_rfl) (by kernel_rfl) (fun _ _ _ h => h) (Or.inl ⟨by kernel_rfl, ?hy⟩) (by assumption) ?_
    case hy => (intro wq hSw; have q0 := (hSw.cell (p := ⟨w.heap.size, 0, none⟩) kl).trans k0; have q1 := (hSw.cell (p := ⟨w.heap.size, 1, none⟩) kl).trans k1; have q2 := (hSw.cell (p := ⟨w.heap.size, 2, none⟩) kl).trans k2; have q3 := (hSw.cell (p := ⟨w.heap.size, 3, none⟩) kl).trans k3; have q4 := (hSw.cell (p := ⟨w.heap.size, 4, none⟩) kl).trans k4; have p0 := (hSw.cell (p := ⟨w.heap.size + 1, 0, none⟩) ll).trans l0; have p1 := (hSw.cell (p := ⟨w.heap.size + 1, 1, none⟩) ll).trans l1; have p2 := (hSw.cell (p := ⟨w.heap.size + 1, 2, none⟩) ll).trans l2; have p3 := (hSw.cell (p := ⟨w.heap.size + 1, 3, none⟩) ll).trans l3; have p4 := (hSw.cell (p := ⟨w.heap.size + 1, 4, none⟩) ll).trans l4; have s1 := Nat.lt_of_lt_of_le kl hSw.size; have s2 := Nat.lt_of_lt_of_le ll hSw.size; go_simp; try (with_reducible rfl))
    try simp only [Act.put, List.setIfInBounds_toArray, List.set_cons_zero, List.set_cons_succ]
    refine wpAnyH_take (i := 4) (v := ?_) rfl (by kernel_rfl) (by kernel_rfl) (by kernel_rfl) (fun _ _ _ h => h) (Or.inl ⟨by kernel_rfl, ?hy⟩) (by assumption) ?_
    case hy => (intro wq hSw; have q0 := (hSw.cell (p := ⟨w.heap.size, 0, none⟩) kl).trans k0; have q1 := (hSw.cell (p := ⟨w.heap.size, 1, none⟩) kl).trans k1; have q2 := (hSw.cell (p := ⟨w.heap.size, 2, none⟩) kl).trans k2; have q3 := (hSw.cell (p := ⟨w.heap.size, 3, none⟩) kl).trans k3; have q4 := (hSw.cell (p := ⟨w.heap.size, 4, none⟩) kl).trans k4; have p0 := (hSw.cell (p := ⟨w.heap.size + 1, 0, none⟩) ll).trans l0; have p1 := (hSw.cell (p := ⟨w.heap.size + 1, 1, none⟩) ll).trans l1; have p2 := (hSw.cell (p := ⟨w.heap.size + 1, 2, none⟩) ll).trans l2; have p3 := (hSw.cell (p := ⟨w.heap.size + 1, 3, none⟩) ll).trans l3; have p4 := (hSw.cell (p := ⟨w.heap.size + 1, 4, none⟩) ll).trans l4; have s1 := Nat.lt_of_lt_of_le kl hSw.size; have s2 := Nat.lt_of_lt_of_le ll hSw.size; go_simp; try (with_reducible rfl))
    try simp only [Act.put, List.setIfInBounds_toArray, List.set_cons_zero, List.set_cons_succ]
    refine wpAnyH_ready (rs := [2]) (by kernel_rfl) (by simp) ?_
    refine AllReadyH.cons rfl (fun K hK => ?_) AllReadyH.nil
    go_simp
    refine (H1.out _ (b1.trans (hS.mono b1.size))).mono ?_; rintro e w3 ⟨rfl, b3⟩; have hS : Below W.heap.size W w3 := hS.trans (b3.mono hS.size); clear b3
    refine hK.out _ _ hS (fun hHeld => ?_)
    clear hK K hHeld
    try simp only [Act.put, List.setIfInBounds_toArray, List.set_cons_zero, List.set_cons_succ]
    refine wpAnyH_ready (rs := [5]) (by kernel_rfl) (by simp) ?_
    refine AllReadyH.cons rfl (fun K hK => ?_) AllReadyH.nil
    go_simp
    refine (H2.out _ (b1.trans (hS.mono b1.size))).mono ?_; rintro e w4 ⟨rfl, b3⟩; have hS : Below W.heap.size W w4 := hS.trans (b3.mono hS.size); clear b3
    refine hK.out _ _ hS (fun hHeld => ?_)
    clear hK K hHeld
    try simp only [Act.put, List.setIfInBounds_toArray, List.set_cons_zero, List.set_cons_succ]
    refine wpAnyH_take (i := 6) (v := ?_) rfl (by kernel_rfl) (by kernel_rfl) (by kernel_rfl) (fun _ _ _ h => h) (Or.inl ⟨by kernel_rfl, ?hy⟩) (by assumption) ?_
    case hy => (intro wq hSw; have q0 := (hSw.cell (p := ⟨w.heap.size, 0, none⟩) kl).trans k0; have q1 := (hSw.cell (p := ⟨w.heap.size, 1, none⟩) kl).trans k1; have q2 := (hSw.cell (p := ⟨w.heap.size, 2, none⟩) kl).trans k2; have q3 := (hSw.cell (p := ⟨w.heap.size, 3, none⟩) kl).trans k3; have q4 := (hSw.cell (p := ⟨w.heap.size, 4, none⟩) kl).trans k4; have p0 := (hSw.cell (p := ⟨w.heap.size + 1, 0, none⟩) ll).trans l0; have p1 := (hSw.cell (p := ⟨w.heap.size + 1, 1, none⟩) ll).trans l1; have p2 := (hSw.cell (p := ⟨w.heap.size + 1, 2, none⟩) ll).trans l2; have p3 := (hSw.cell (p := ⟨w.heap.size + 1, 3, none⟩) ll).trans l3; have p4 := (hSw.cell (p := ⟨w.heap.size + 1, 4, none⟩) ll).trans l4; have s1 := Nat.lt_of_lt_of_le kl hSw.size; have s2 := Nat.lt_of_lt_of_le ll hSw.size; go_simp; try (with_reducible rfl))
    try simp only [Act.put, List.setIfInBounds_toArray, List.set_cons_zero, List.set_cons_succ]
    refine wpAnyH_take (i := 7) (v := ?_) rfl (by kernel_rfl) (by kernel_rfl) (by kernel_rfl) (fun _ _ _ h => h) (Or.inl ⟨by kernel_rfl, ?hy⟩) (by assumption) ?_
    case hy => (intro wq hSw; have q0 := (hSw.cell (p := ⟨w.heap.size, 0, none⟩) kl).trans k0; have q1 := (hSw.cell (p := ⟨w.heap.size, 1, none⟩) kl).trans k1; have q2 := (hSw.cell (p := ⟨w.heap.size, 2, none⟩) kl).trans k2; have q3 := (hSw.cell (p := ⟨w.heap.size, 3, none⟩) kl).trans k3; have q4 := (hSw.cell (p := ⟨w.heap.size, 4, none⟩) kl).trans k4; have p0 := (hSw.cell (p := ⟨w.heap.size + 1, 0, none⟩) ll).trans l0; have p1 := (hSw.cell (p := ⟨w.heap.size + 1, 1, none⟩) ll).trans l1; have p2 := (hSw.cell (p := ⟨w.heap.size + 1, 2, none⟩) ll).trans l2; have p3 := (hSw.cell (p := ⟨w.heap.size + 1, 3, none⟩) ll).trans l3; have p4 := (hSw.cell (p := ⟨w.heap.size + 1, 4, none⟩) ll).trans l4; have s1 := Nat.lt_of_lt_of_le kl hSw.size; have s2 := Nat.lt_of_lt_of_le ll hSw.size; go_simp; try (with_reducible rfl))
    try simp only [Act.put, List.setIfInBounds_toArray, List.set_cons_zero, List.set_cons_succ]
    refine wpAnyH_ready (rs := [8]) (by kernel_rfl) (by simp) ?_
    refine AllReadyH.cons rfl (fun K hK => ?_) AllReadyH.nil
    go_simp
    refine (awake6_any _).mono ?_; rintro e w5 ⟨rfl, b3⟩; have hS : Below W.heap.size W w5 := hS.trans (b3.mono hS.size); clear b3
    refine hK.out _ _ hS (fun hHeld => ?_)
    clear hK K hHeld
    try simp only [Act.put, List.setIfInBounds_toArray, List.set_cons_zero, List.set_cons_succ]
    refine wpAnyH_take (i := 9) (v := ?_) rfl (by kernel_rfl) (by kernel_rfl) (by kernel_rfl) (fun _ _ _ h => h) (Or.inl ⟨by kernel_rfl, ?hy⟩) (by assumption) ?_
    case hy => (intro wq hSw; have q0 := (hSw.cell (p := ⟨w.heap.size, 0, none⟩) kl).trans k0; have q1 := (hSw.cell (p := ⟨w.heap.size, 1, none⟩) kl).trans k1; have q2 := (hSw.cell (p := ⟨w.heap.size, 2, none⟩) kl).trans k2; have q3 := (hSw.cell (p := ⟨w.heap.size, 3, none⟩) kl).trans k3; have q4 := (hSw.cell (p := ⟨w.heap.size, 4, none⟩) kl).trans k4; have p0 := (hSw.cell (p := ⟨w.heap.size + 1, 0, none⟩) ll).trans l0; have p1 := (hSw.cell (p := ⟨w.heap.size + 1, 1, none⟩) ll).trans l1; have p2 := (hSw.cell (p := ⟨w.heap.size + 1, 2, none⟩) ll).trans l2; have p3 := (hSw.cell (p := ⟨w.heap.size + 1, 3, none⟩) ll).trans l3; have p4 := (hSw.cell (p := ⟨w.heap.size + 1, 4, none⟩) ll).trans l4; have s1 := Nat.lt_of_lt_of_le kl hSw.size; have s2 := Nat.lt_of_lt_of_le ll hSw.size; go_simp; try (with_reducible rfl))
    try simp only [Act.put, List.setIfInBounds_toArray, List.set_cons_zero, List.set_cons_succ]
    refine wpAnyH_take (i := 10) (v := ?_) rfl (by kernel_rfl) (by kernel_rfl) (by kernel_rfl) (fun _ _ _ h => h) (Or.inl ⟨by kernel_rfl, ?hy⟩) (by assumption) ?_
    case hy => (intro wq hSw; have q0 := (hSw.cell (p := ⟨w.heap.size, 0, none⟩) kl).trans k0; have q1 := (hSw.cell (p := ⟨w.heap.size, 1, none⟩) kl).trans k1; have q2 := (hSw.cell (p := ⟨w.heap.size, 2, none⟩) kl).trans k2; have q3 := (hSw.cell (p := ⟨w.heap.size, 3, none⟩) kl).trans k3; have q4 := (hSw.cell (p := ⟨w.heap.size, 4, none⟩) kl).trans k4; have p0 := (hSw.cell (p := ⟨w.heap.size + 1, 0, none⟩) ll).trans l0; have p1 := (hSw.cell (p := ⟨w.heap.size + 1, 1, none⟩) ll).trans l1; have p2 := (hSw.cell (p := ⟨w.heap.size + 1, 2, none⟩) ll).trans l2; have p3 := (hSw.cell (p := ⟨w.heap.size + 1, 3, none⟩) ll).trans l3; have p4 := (hSw.cell (p := ⟨w.heap.size + 1, 4, none⟩) ll).trans l4; have s1 := Nat.lt_of_lt_of_le kl hSw.size; have s2 := Nat.lt_of_lt_of_le ll hSw.size; go_simp; try (with_reducible rfl))
    try simp only [Act.put, List.setIfInBounds_toArray, List.set_cons_zero, List.set_cons_succ]
    refine wpAnyH_done (by kernel_rfl) ?_ _
    refine NoPanic.normal ?_
    try go_simp
    go_wp2_with fail
    go_meet
    exact ⟨rfl, hS⟩
  case rest =>
    obtain ⟨rfl, bx⟩ := hcut
    go_wp2_with fail
    go_ret
    exact ⟨rfl, b1.trans (bx.mono b1.size)⟩

end Go.Proofs.Ytikpemmfmkdndaa
