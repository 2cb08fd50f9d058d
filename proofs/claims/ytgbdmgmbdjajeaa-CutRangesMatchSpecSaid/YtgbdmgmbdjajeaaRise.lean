/- cut.checkRising and cut.checkPlaces. -/
import Derived.Test.YtgbdmgmbdjajeaaBox0
import Derived.Test.YtgbdmgmbdjajeaaCutPlain
import Derived.Test.YtgbdmgmbdjajeaaInts
import Derived.Test.YtgbdmgmbdjajeaaRecs
import Derived.RegionTactic
import Derived.ChangeAlike
import Derived.Deep.QuietTactic
import Derived.BigQuiet
import Derived.Deep.RegionHeld3
import Derived.Deep.DeepCutAuto
import Derived.Deep.CutBlock
namespace Go.Proofs.Ytgbdmgmbdjajeaa
set_option linter.unusedVariables false
set_option linter.unusedSimpArgs false
open Go.RowKit Go.Deep

theorem bscale_any (n : Int) (w : World) :
    Calls Try.prog 46 #[.int .i64 n] w fun e w' => e = .returned (.bool (inB n 1 1000000000)) ∧ w = w' := by
  obtain ⟨x, hx⟩ : ∃ x, inB n 1 1000000000 = x := ⟨_, rfl⟩
  have HX := Lib.hid hx
  clear hx
  go_enter Try.func46, Try.ntmps46
  go_wp2_with fail
  refine (bwithin_any _ _ _ _).mono ?_; rintro e w' ⟨rfl, rfl⟩
  rw [HX.out]
  go_wp2_with fail
  go_ret
  exact ⟨bret_bool HX.out.symm, rfl⟩
/-- Two faults in new memory. -/
theorem bfirst2 (x y : Int) (w : World) :
    Calls Try.prog 34 #[.slice (some ⟨w.heap.size, 0, none⟩) 2 2] (w.alloc (.cells #[.int .i64 x, .int .i64 y] 25)) fun e w' => e = .returned (.int .i64 (fstF [x, y])) ∧ w.alloc (.cells #[.int .i64 x, .int .i64 y] 25) = w' := by
  refine bfirst_any w.heap.size 0 2 2 [x, y] _ rfl (by omega) fun j hj => ?_
  rw [World.cell?_alloc_at _ _ _ _ (by simp)]
  match j, hj with
  | 0, _ => rfl
  | 1, _ => rfl
theorem riseE_at {zs : List Int} {k : Nat} {x : Int} (e : zs.getD k 0 = x) (c : Bool) (hc : (decide (0 < k) && decide (x ≤ zs.getD (k - 1) 0)) = c) :
    fstF [fIf (!inB x (-1000000000000000) 1000000000000000) 1, fIf c 8] = riseE zs k := by
  unfold riseE
  rw [e, ← hc]
set_option maxRecDepth 100000 in
set_option maxHeartbeats 4000000 in
theorem rise_walk (b off n cap : Nat) (zs : List Int) (w : World) (hz : zs.length = n) (hn0 : 0 < n) (hn : n ≤ 1000) (hlt : b < w.heap.size) (hc : ∀ j, j < n → w.cell? ⟨b, off + j, none⟩ = some (.int .i64 (zs.getD j 0))) :
    Calls Try.prog 55 #[.slice (some ⟨b, off, none⟩) n cap] w fun e w' => e = .returned (.int .i64 (riseF zs)) ∧ Below w.heap.size w w' := by
  have HC := Lib.hid hc
  have HR : Hid (riseF zs = risesF zs) := Lib.hid (by unfold riseF; rw [if_neg (by omega), if_neg (by omega)])
  have HZ := Lib.hid hz
  have z0 : ((n : Int) == 0) = false := by simp; omega
  clear hc hz
  go_enter Try.func55, Try.ntmps55
  go_wp2_with fail
  go_loopw [14] (fun v wr => ∃ k : Nat, k ≤ n ∧ v = .int .i64 k ∧ Below w.heap.size w wr ∧ Hid (fstF (((List.range zs.length).map (riseE zs)).drop k) = risesF zs)) (fun v _ => n - (intOf v).toNat)
  case atStart => exact ⟨0, Nat.zero_le _, rfl, Below.refl _ _, Lib.hid rfl⟩
  case round =>
    obtain ⟨k, hk, rfl, hbel, HF⟩ := hrel
    by_cases hlt2 : k < n
    · obtain ⟨x, hx⟩ : ∃ x, zs.getD k 0 = x := ⟨_, rfl⟩
      have d0 : wr.cell? ⟨b, off + k, none⟩ = some (.int .i64 x) := by rw [hbel.cell (p := ⟨b, off + k, none⟩) hlt, ← hx]; exact HC.out k hlt2
      have HX := Lib.hid hx
      obtain ⟨f, hf⟩ : ∃ f, riseE zs k = f := ⟨_, rfl⟩
      have HD : Hid ((f ≠ 0 → risesF zs = f) ∧ (f = 0 → fstF (((List.range zs.length).map (riseE zs)).drop (k + 1)) = risesF zs)) := Lib.hid (by
        have hd := risesF_drop zs k (by rw [HZ.out]; exact hlt2)
        rw [HF.out, hf] at hd
        exact ⟨fun h => by rw [if_neg h] at hd; exact hd, fun h => by rw [if_pos h] at hd; exact hd.symm⟩)
      have HFF := Lib.hid hf
      clear hx hf
      by_cases hk0 : k < 1
      · have hgd : decide (0 < k) = false := by simp; omega
        have HSM := Lib.hid ((riseE_at HX.out false (by rw [hgd]; rfl)).trans HFF.out)
        go_wp2_with fail
        refine (btime_any _ _).mono ?_; rintro e w' ⟨rfl, rfl⟩
        go_wp2_with fail
        refine (bfaultIf_any _ _ _).mono ?_; rintro e w' ⟨rfl, rfl⟩
        go_wp2_with fail
        refine (bfaultIf_any _ _ _).mono ?_; rintro e w' ⟨rfl, rfl⟩
        go_wp2_with fail
        refine (bfirst2 _ _ _).mono ?_; rintro e w' ⟨rfl, rfl⟩
        rw [HSM.out]
        by_cases h0 : f = 0
        · have HN := Lib.hid (HD.out.2 h0)
          subst h0
          go_wp2_with fail
          go_roundw
          case rel => exact ⟨k + 1, by omega, by go_num, hbel.alloc hbel.size _, HN⟩
          case measure => simp [intOf]; omega
        · have hne : (f == 0) = false := by simp [h0]
          have HN := Lib.hid (HR.out.trans (HD.out.1 h0))
          clear h0
          go_wp2_with fail
          go_ret
          exact ⟨bret_int HN.out.symm, hbel.alloc hbel.size _⟩
      · have hgd : decide (0 < k) = true := by simp; omega
        have hgd2 : (0 : Int) < (k : Int) := by omega
        obtain ⟨y, hy⟩ : ∃ y, zs.getD (k - 1) 0 = y := ⟨_, rfl⟩
        have d1 : wr.cell? ⟨b, off + (k - 1), none⟩ = some (.int .i64 y) := by rw [hbel.cell (p := ⟨b, off + (k - 1), none⟩) hlt, ← hy]; exact HC.out (k - 1) (by omega)
        have HSM := Lib.hid ((riseE_at HX.out (decide (x ≤ y)) (by rw [hgd, hy, Bool.true_and])).trans HFF.out)
        have i0 : (0 : Int) ≤ (k : Int) - 1 := by omega
        have i1 : (k : Int) - 1 < (n : Int) := by omega
        have i2 : ((k : Int) - 1).toNat = k - 1 := by omega
        have i3 : (1 : Int) ≤ (k : Int) := by omega
        clear hy hk0
        go_wp2_with fail
        refine (btime_any _ _).mono ?_; rintro e w' ⟨rfl, rfl⟩
        go_wp2_with fail
        refine (bfaultIf_any _ _ _).mono ?_; rintro e w' ⟨rfl, rfl⟩
        go_wp2_with fail
        refine (bfaultIf_any _ _ _).mono ?_; rintro e w' ⟨rfl, rfl⟩
        go_wp2_with fail
        refine (bfirst2 _ _ _).mono ?_; rintro e w' ⟨rfl, rfl⟩
        rw [HSM.out]
        by_cases h0 : f = 0
        · have HN := Lib.hid (HD.out.2 h0)
          subst h0
          go_wp2_with fail
          go_roundw
          case rel => exact ⟨k + 1, by omega, by go_num, hbel.alloc hbel.size _, HN⟩
          case measure => simp [intOf]; omega
        · have hne : (f == 0) = false := by simp [h0]
          have HN := Lib.hid (HR.out.trans (HD.out.1 h0))
          clear h0
          go_wp2_with fail
          go_ret
          exact ⟨bret_int HN.out.symm, hbel.alloc hbel.size _⟩
    · have hkn : k = n := by omega
      have hlt' : decide (k < n) = false := by simp only [decide_eq_false_iff_not]; exact hlt2
      have HE : Hid (riseF zs = 0) := Lib.hid (by rw [HR.out, ← HF.out, List.drop_of_length_le (by simp [HZ.out]; omega)]; rfl)
      clear hkn hlt2
      go_wp2_with fail
      go_ret
      exact ⟨bret_int HE.out.symm, hbel⟩
theorem rise_any (v : Value) (zs : List Int) (w : World) (h : Nums w v zs) :
    Calls Try.prog 55 #[v] w fun e w' => e = .returned (.int .i64 (riseF zs)) ∧ Below w.heap.size w w' := by
  have h1 := h
  rcases h with ⟨a, cap, rfl, rfl⟩ | ⟨b, off, cap, rfl, hne, hlt, hm, hc⟩
  · have HE : Hid (riseF [] = 9) := Lib.hid rfl
    go_enter Try.func55, Try.ntmps55
    go_wp2_with fail
    go_ret
    exact ⟨bret_int HE.out.symm, Below.refl _ _⟩
  · have hp : 0 < zs.length := List.length_pos_iff.2 hne
    by_cases h5 : zs.length ≤ 1000
    · exact rise_walk b off _ cap zs w rfl hp h5 hlt hc
    · obtain ⟨n, hn⟩ : ∃ n, zs.length = n := ⟨_, rfl⟩
      have HE : Hid (riseF zs = 2) := Lib.hid (by unfold riseF; rw [if_neg (by omega), if_pos (by omega)])
      rw [hn] at hp h5 hm ⊢
      have z0 : ((n : Int) == 0) = false := by simp; omega
      have z1 : (1000 : Int) < (n : Int) := by omega
      clear hn hc h1
      go_enter Try.func55, Try.ntmps55
      go_wp2_with fail
      go_ret
      exact ⟨bret_int HE.out.symm, Below.refl _ _⟩
/-- Four faults in new memory. -/
theorem bfirst4 (x y z u : Int) (w : World) :
    Calls Try.prog 34 #[.slice (some ⟨w.heap.size, 0, none⟩) 4 4] (w.alloc (.cells #[.int .i64 x, .int .i64 y, .int .i64 z, .int .i64 u] 25)) fun e w' => e = .returned (.int .i64 (fstF [x, y, z, u])) ∧ w.alloc (.cells #[.int .i64 x, .int .i64 y, .int .i64 z, .int .i64 u] 25) = w' := by
  refine bfirst_any w.heap.size 0 4 4 [x, y, z, u] _ rfl (by omega) fun j hj => ?_
  rw [World.cell?_alloc_at _ _ _ _ (by simp)]
  match j, hj with
  | 0, _ => rfl
  | 1, _ => rfl
  | 2, _ => rfl
  | 3, _ => rfl
set_option maxRecDepth 100000 in
set_option maxHeartbeats 4000000 in
theorem places_any (v : Value) (zs : List Int) (sc ta mo : Int) (w : World) (h : Nums w v zs) :
    Calls Try.prog 30 #[v, .agg #[.int .i64 sc, .int .i64 ta, .int .i64 mo]] w fun e w' => e = .returned (.int .i64 (placesF zs sc ta mo)) ∧ Below w.heap.size w w' := by
  have HP : Hid (placesF zs sc ta mo = fstF [fIf (!inB sc 1 1000000000) 1, fIf (!inB ta 1 50000000) 1, fIf (!inB mo ta 50000000) 1, riseF zs]) := Lib.hid rfl
  have e0 : (w.alloc (.cells #[.int .i64 sc, .int .i64 ta, .int .i64 mo] 24)).cell? ⟨w.heap.size, 0, none⟩ = some (.int .i64 sc) := by rw [World.cell?_alloc_at _ _ _ _ (by simp)]; rfl
  have e1 : (w.alloc (.cells #[.int .i64 sc, .int .i64 ta, .int .i64 mo] 24)).cell? ⟨w.heap.size, 1, none⟩ = some (.int .i64 ta) := by rw [World.cell?_alloc_at _ _ _ _ (by simp)]; rfl
  have e2 : (w.alloc (.cells #[.int .i64 sc, .int .i64 ta, .int .i64 mo] 24)).cell? ⟨w.heap.size, 2, none⟩ = some (.int .i64 mo) := by rw [World.cell?_alloc_at _ _ _ _ (by simp)]; rfl
  have HN := Lib.hid h
  have HRI : Hid (∀ W', Below w.heap.size w W' → Calls Try.prog 55 #[v] W' fun e w' => e = .returned (.int .i64 (riseF zs)) ∧ Below W'.heap.size W' w') := Lib.hid (fun W' hb => rise_any v zs W' (h.below hb (Nat.le_refl _)))
  clear h
  go_enter Try.func30, Try.ntmps30
  go_upto_region 1 with fail
  have hWb : Below w.heap.size w (w.alloc (.cells #[.int .i64 sc, .int .i64 ta, .int .i64 mo] 24)) := (Below.refl _ _).alloc (Nat.le_refl _) _
  have hWs : w.heap.size < (w.alloc (.cells #[.int .i64 sc, .int .i64 ta, .int .i64 mo] 24)).heap.size := by simp
  generalize w.alloc (.cells #[.int .i64 sc, .int .i64 ta, .int .i64 mo] 24) = W at *
  go_region_held3 (fun w' => w'.cell? ⟨w.heap.size, 0, none⟩ = some (.int .i64 sc) ∧ w'.cell? ⟨w.heap.size, 1, none⟩ = some (.int .i64 ta) ∧ w'.cell? ⟨w.heap.size, 2, none⟩ = some (.int .i64 mo) ∧ Below w.heap.size w w' ∧ w.heap.size < w'.heap.size)
    (first | (go_keep; done) | (exact ⟨e0, e1, e2, hWb, hWs⟩) | (exact ⟨e0, e1, e2, hWb.drew, hWs⟩) | (exact ⟨f0, f1, f2, f4, f5⟩) | (refine ⟨?_, ?_, ?_, f4.alloc f4.size _, by simp; omega⟩ <;> (rw [World.cell?_alloc_past _ _ _ f5]; assumption)))
    (first
      | (go_at_call 46; refine (bscale_any _ _).mono ?_; rintro e w' ⟨rfl, rfl⟩)
      | (go_at_call 32; refine (bwithin_any _ _ _ _).mono ?_; rintro e w' ⟨rfl, rfl⟩)
      | (go_at_call 36; refine (bfaultIf_any _ _ _).mono ?_; rintro e w' ⟨rfl, rfl⟩)
      | (go_at_call 55; refine (HRI.out _ (by have hh := ‹_ ∧ _ ∧ _ ∧ _ ∧ _›; exact hh.2.2.2.1)).mono ?_; rintro e w3 ⟨rfl, b3⟩; have f0 := (b3.cell (p := ⟨w.heap.size, 0, none⟩) hWs).trans e0; have f1 := (b3.cell (p := ⟨w.heap.size, 1, none⟩) hWs).trans e1; have f2 := (b3.cell (p := ⟨w.heap.size, 2, none⟩) hWs).trans e2; have f4 := hWb.drew.trans (b3.mono hWb.size); have f5 : w.heap.size < w3.heap.size := Nat.lt_of_lt_of_le hWs b3.size)
      | (go_at_call 34; refine (bfirst4 _ _ _ _ _).mono ?_; rintro e w' ⟨rfl, rfl⟩))
  go_wp2_with fail
  go_ret
  exact ⟨bret_int HP.out.symm, f4.alloc f4.size _⟩

end Go.Proofs.Ytgbdmgmbdjajeaa
