/- LadderViewersMatchSpec: whatever the input, the law returns true: the walk. -/
import Derived.Test.YtfjgpafcdkodmaaRTakes
import Derived.Test.YtfjgpafcdkodmaaMean5
namespace Go.Proofs.Ytfjgpafcdkodmaa
set_option linter.unusedVariables false
set_option linter.unusedSimpArgs false
open Go.RowKit Go.Shelf Go.Deep

set_option maxRecDepth 100000 in
set_option maxHeartbeats 8000000 in
theorem viewslaw (u v : Value) (rs : List Rung) (vs : List Vw) (x : Vw) (w : World) (hu : Rungs w u rs) (hv : Vws w v vs) (hwf : ∀ y ∈ rs, y.nm.size ≤ maxLen) :
    Calls Try.prog 3 #[u, v, .agg #[.int .i64 x.ra, .int .i64 x.he, .int .i64 x.wt]] w fun e w' => e = .returned (.bool true) ∧ Below w.heap.size w w' := by
  have HT : Hid (∀ W, Below w.heap.size w W → Calls Try.prog 13 #[u, .agg #[.int .i64 x.ra, .int .i64 x.he, .int .i64 x.wt]] W fun e w' => e = .returned (.tuple #[.int .i64 (taX rs x), .bool (taB rs x), .int .i64 (woF rs [x])]) ∧ Below W.heap.size W w') := Lib.hid (fun W hb => takes_any u rs x W (hu.below hb (Nat.le_refl _)) hwf)
  have HRT : Hid (∀ W, Below w.heap.size w W → Calls Try.prog 14 #[u, .agg #[.int .i64 x.ra, .int .i64 x.he, .int .i64 x.wt]] W fun e w' => e = .returned (.tuple #[.int .i64 (taX rs x), .bool (taB rs x), .int .i64 (woF rs [x])]) ∧ Below W.heap.size W w') := Lib.hid (fun W hb => rTakes_any u rs x W (hu.below hb (Nat.le_refl _)) hwf)
  have HC : Hid (∀ W, Below w.heap.size w W → Calls Try.prog 15 #[v] W fun e w' => e = .returned (.int .i64 (cwF vs)) ∧ Below W.heap.size W w') := Lib.hid (fun W hb => crowd_any v vs W (hv.below hb (Nat.le_refl _)))
  have HRC : Hid (∀ W, Below w.heap.size w W → Calls Try.prog 16 #[v] W fun e w' => e = .returned (.int .i64 (cwF vs)) ∧ Below W.heap.size W w') := Lib.hid (fun W hb => rcrowd_any v vs W (hv.below hb (Nat.le_refl _)))
  have HW : Hid (∀ W, Below w.heap.size w W → Calls Try.prog 17 #[u, v] W fun e w' => e = .returned (.tuple #[.int .i64 (woX rs vs), .int .i64 (woF rs vs)]) ∧ Below W.heap.size W w') := Lib.hid (fun W hb => worth_any u v rs vs W (hu.below hb (Nat.le_refl _)) (hv.below hb (Nat.le_refl _)) hwf)
  have HRW : Hid (∀ W, Below w.heap.size w W → Calls Try.prog 18 #[u, v] W fun e w' => e = .returned (.tuple #[.int .i64 (woX rs vs), .int .i64 (woF rs vs)]) ∧ Below W.heap.size W w') := Lib.hid (fun W hb => rWorth_any u v rs vs W (hu.below hb (Nat.le_refl _)) (hv.below hb (Nat.le_refl _)) hwf)
  obtain ⟨X, hX⟩ : ∃ X, taX rs x = X := ⟨_, rfl⟩
  obtain ⟨B, hB⟩ : ∃ B, taB rs x = B := ⟨_, rfl⟩
  obtain ⟨F, hF⟩ : ∃ F, woF rs [x] = F := ⟨_, rfl⟩
  obtain ⟨C, hC⟩ : ∃ C, cwF vs = C := ⟨_, rfl⟩
  obtain ⟨Y, hY⟩ : ∃ Y, woX rs vs = Y := ⟨_, rfl⟩
  obtain ⟨G, hG⟩ : ∃ G, woF rs vs = G := ⟨_, rfl⟩
  rw [hX, hB, hF] at HT HRT
  rw [hC] at HC HRC
  rw [hY, hG] at HW HRW
  have TV := Thr.new w x 25
  have hbel : Below w.heap.size w (w.alloc (.cells #[.int .i64 x.ra, .int .i64 x.he, .int .i64 x.wt] 25)) := (Below.refl _ w).alloc (Nat.le_refl _) _
  clear hX hB hF hC hY hG hu hv hwf
  go_enter Try.func3, Try.ntmps3
  go_upto_region 1 with fail
  generalize w.alloc (.cells #[.int .i64 x.ra, .int .i64 x.he, .int .i64 x.wt] 25) = W1 at *
  have v0 := TV.c0; have v1 := TV.c1; have v2 := TV.c2; have vl := TV.lt
  go_wp2_with fail
  refine (HT.out _ hbel).mono ?_; rintro e w2 ⟨rfl, b2⟩
  have hbel := hbel.trans (b2.mono hbel.size)
  have TV := TV.below b2 TV.lt
  clear v0 v1 v2 vl b2
  have v0 := TV.c0; have v1 := TV.c1; have v2 := TV.c2; have vl := TV.lt
  go_wp2_with fail
  refine (HRT.out _ hbel).mono ?_; rintro e w3 ⟨rfl, b3⟩
  have hbel := hbel.trans (b3.mono hbel.size)
  clear v0 v1 v2 vl b3 TV
  have cz : (C != C) = false := by simp
  have cz1 : (C == C) = true := by simp
  have fz : (F != F) = false := by simp
  have fz1 : (F == F) = true := by simp
  have xz : (X != X) = false := by simp
  have xz1 : (X == X) = true := by simp
  have bz : (B != B) = false := by simp
  have bz1 : (B == B) = true := by simp
  go_wp2_with fail
  refine (HC.out _ hbel).mono ?_; rintro e w4 ⟨rfl, b4⟩
  have hbel := hbel.trans (b4.mono hbel.size)
  go_wp2_with fail
  refine (HRC.out _ hbel).mono ?_; rintro e w5 ⟨rfl, b5⟩
  have hbel := hbel.trans (b5.mono hbel.size)
  clear b4 b5
  go_wp2_with fail
  refine (HW.out _ hbel).mono ?_; rintro e w6 ⟨rfl, b6⟩
  have hbel := hbel.trans (b6.mono hbel.size)
  go_wp2_with fail
  refine (HRW.out _ hbel).mono ?_; rintro e w7 ⟨rfl, b7⟩
  have hbel := hbel.trans (b7.mono hbel.size)
  clear b6 b7
  have yz : (Y == Y) = true := by simp
  have gz : (G == G) = true := by simp
  go_wp2_with fail
  refine (awake5_any _).mono ?_; rintro e w8 ⟨rfl, b8⟩
  go_wp2_with fail
  go_ret
  exact ⟨rfl, hbel.trans (b8.mono hbel.size)⟩

end Go.Proofs.Ytfjgpafcdkodmaa
