/- takenBy (program). -/
import Derived.Test.YtinckidkophobaaCrowd
import Derived.Deep.RegionHeld3
namespace Go.Proofs.Ytinckidkophobaa
set_option linter.unusedVariables false
set_option linter.unusedSimpArgs false
open Go.RowKit Go.Shelf Go.Deep

/-- What is taken so far, as the program keeps it. -/
def tkO (fnd : Bool) (t : Nat) : Option Nat := if fnd = true then some t else none
theorem tkI_step (v : Vw) (rs : List Rung) (k : Nat) (fnd : Bool) (t : Nat) (h : tkI v rs k = tkO fnd t) :
    tkI v rs (k + 1) = if canT v (rs.getD k rung0) = true ∧ (fnd = false ∨ (rs.getD t rung0).qu < (rs.getD k rung0).qu) then some k else tkO fnd t := by
  rw [tkI, h]
  cases fnd
  · simp [tkO]
  · simp [tkO]
def tkN (v : Vw) (rs : List Rung) : Nat := (tkI v rs rs.length).getD 0
def tkB (v : Vw) (rs : List Rung) : Bool := (tkI v rs rs.length).isSome
theorem ret2_nb {a b : Nat} {p q : Bool} (h : a = b) (h2 : p = q) : Ending.returned (.tuple #[.int .i64 (a : Int), .bool p]) = .returned (.tuple #[.int .i64 (b : Int), .bool q]) := by rw [h, h2]
theorem carryT {w W' w3 : World} {R V B : Nat} {r : Rung} {v : Vw} (hB : B ≤ w.heap.size) (h : W'.cell? ⟨R, 0, none⟩ = some (.string r.nm) ∧ W'.cell? ⟨R, 1, none⟩ = some (.int .i64 r.ra) ∧ W'.cell? ⟨R, 2, none⟩ = some (.int .i64 r.he) ∧ W'.cell? ⟨R, 3, none⟩ = some (.int .i64 r.qu) ∧ W'.cell? ⟨V, 0, none⟩ = some (.int .i64 v.ra) ∧ W'.cell? ⟨V, 1, none⟩ = some (.int .i64 v.he) ∧ W'.cell? ⟨V, 2, none⟩ = some (.int .i64 v.wt) ∧ Below B w W' ∧ R < W'.heap.size ∧ V < W'.heap.size) (b3 : Below W'.heap.size W' w3) : w3.cell? ⟨R, 0, none⟩ = some (.string r.nm) ∧ w3.cell? ⟨R, 1, none⟩ = some (.int .i64 r.ra) ∧ w3.cell? ⟨R, 2, none⟩ = some (.int .i64 r.he) ∧ w3.cell? ⟨R, 3, none⟩ = some (.int .i64 r.qu) ∧ w3.cell? ⟨V, 0, none⟩ = some (.int .i64 v.ra) ∧ w3.cell? ⟨V, 1, none⟩ = some (.int .i64 v.he) ∧ w3.cell? ⟨V, 2, none⟩ = some (.int .i64 v.wt) ∧ Below B w w3 ∧ R < w3.heap.size ∧ V < w3.heap.size := by
  obtain ⟨a0, a1, a2, a3, c0, c1, c2, hb, l1, l2⟩ := h
  have F := (Four.mk l1 a0 a1 a2 a3).below b3 l1
  have T := (Thr.mk l2 c0 c1 c2).below b3 l2
  exact ⟨F.c0, F.c1, F.c2, F.c3, T.c0, T.c1, T.c2, hb.trans (b3.mono (Nat.le_trans hB hb.size)), F.lt, T.lt⟩
theorem carryTY {w W' w3 : World} {R V B b off t : Nat} {y : Int} {r : Rung} {v : Vw} (hB : B ≤ w.heap.size) (hlt : b < w.heap.size) (h : W'.cell? ⟨b, off + t * 4 + 3, none⟩ = some (.int .i64 y) ∧ W'.cell? ⟨R, 0, none⟩ = some (.string r.nm) ∧ W'.cell? ⟨R, 1, none⟩ = some (.int .i64 r.ra) ∧ W'.cell? ⟨R, 2, none⟩ = some (.int .i64 r.he) ∧ W'.cell? ⟨R, 3, none⟩ = some (.int .i64 r.qu) ∧ W'.cell? ⟨V, 0, none⟩ = some (.int .i64 v.ra) ∧ W'.cell? ⟨V, 1, none⟩ = some (.int .i64 v.he) ∧ W'.cell? ⟨V, 2, none⟩ = some (.int .i64 v.wt) ∧ Below B w W' ∧ R < W'.heap.size ∧ V < W'.heap.size) (b3 : Below W'.heap.size W' w3) : w3.cell? ⟨b, off + t * 4 + 3, none⟩ = some (.int .i64 y) ∧ w3.cell? ⟨R, 0, none⟩ = some (.string r.nm) ∧ w3.cell? ⟨R, 1, none⟩ = some (.int .i64 r.ra) ∧ w3.cell? ⟨R, 2, none⟩ = some (.int .i64 r.he) ∧ w3.cell? ⟨R, 3, none⟩ = some (.int .i64 r.qu) ∧ w3.cell? ⟨V, 0, none⟩ = some (.int .i64 v.ra) ∧ w3.cell? ⟨V, 1, none⟩ = some (.int .i64 v.he) ∧ w3.cell? ⟨V, 2, none⟩ = some (.int .i64 v.wt) ∧ Below B w w3 ∧ R < w3.heap.size ∧ V < w3.heap.size := by
  obtain ⟨y0, h⟩ := h
  have hl : b < W'.heap.size := Nat.lt_of_lt_of_le hlt h.2.2.2.2.2.2.2.1.size
  exact ⟨by rw [b3.cell (p := ⟨b, off + t * 4 + 3, none⟩) hl]; exact y0, carryT hB h b3⟩
set_option maxRecDepth 100000 in
set_option maxHeartbeats 8000000 in
theorem taken_walk (v : Vw) (b off n cap : Nat) (rs : List Rung) (w : World) (hz : rs.length = n) (hn0 : 0 < n) (hn : n ≤ 100) (hlt : b < w.heap.size) (hS : Rungs w (.slice (some ⟨b, off, none⟩) n cap) rs) :
    Calls Try.prog 50 #[.agg #[.int .i64 v.ra, .int .i64 v.he, .int .i64 v.wt], .slice (some ⟨b, off, none⟩) n cap] w fun e w' => e = .returned (.tuple #[.int .i64 (tkN v rs : Nat), .bool (tkB v rs)]) ∧ Below w.heap.size w w' := by
  have HC := Lib.hid (fun j (hj : j < n) => hS.cells j (by omega))
  have HE : Hid (∀ fnd t, tkI v rs n = tkO fnd t → (fnd = false → t = 0) → tkN v rs = t ∧ tkB v rs = fnd) := Lib.hid (fun fnd t h h0 => by
    rw [tkN, tkB, hz, h]
    cases fnd
    · exact ⟨(h0 rfl).symm, rfl⟩
    · exact ⟨rfl, rfl⟩)
  obtain ⟨RN, hRN⟩ : ∃ RN, tkN v rs = RN := ⟨_, rfl⟩
  obtain ⟨RB, hRB⟩ : ∃ RB, tkB v rs = RB := ⟨_, rfl⟩
  rw [hRN, hRB] at HE ⊢
  have TV0 := Thr.new w v 61
  have hbv : Below w.heap.size w (w.alloc (.cells #[.int .i64 v.ra, .int .i64 v.he, .int .i64 v.wt] 61)) := (Below.refl _ w).alloc (Nat.le_refl _) _
  clear hz hS hRN hRB
  go_enter Try.func50, Try.ntmps50
  go_wp2_with fail
  have hVl := TV0.lt
  generalize w.alloc (.cells #[.int .i64 v.ra, .int .i64 v.he, .int .i64 v.wt] 61) = A at *
  go_loopw [4, 5, 10] (fun v4 v5 vv wr => ∃ (k t : Nat) (fnd : Bool), k ≤ n ∧ vv = .int .i64 k ∧ v4 = .int .i64 t ∧ v5 = .bool fnd ∧ (fnd = true → t < k) ∧ (fnd = false → t = 0) ∧ Hid (tkI v rs k = tkO fnd t) ∧ Below w.heap.size w wr ∧ Thr wr w.heap.size v) (fun _ _ vv _ => n - (intOf vv).toNat)
  case atStart => exact ⟨0, 0, false, by omega, rfl, rfl, rfl, (fun h => by cases h), (fun _ => rfl), Lib.hid rfl, hbv, TV0⟩
  case round =>
    obtain ⟨k, t, fnd, hk, rfl, rfl, rfl, hf1, hf0, HK, hbel, TV⟩ := hrel
    by_cases hlt2 : k < n
    rotate_left
    · have hkn : k = n := by omega
      subst hkn
      obtain ⟨rfl, rfl⟩ := HE.out fnd t HK.out hf0
      have hlt' : decide (k < k) = false := by simp
      clear hlt2 hf1 hf0
      go_wp2_with fail
      go_ret2
      exact ⟨rfl, hbel⟩
    · obtain ⟨r, hr⟩ : ∃ r, rs.getD k rung0 = r := ⟨_, rfl⟩
      obtain ⟨c0, c1, c2, c3⟩ := HC.out k hlt2
      rw [hr] at c0 c1 c2 c3
      rw [← hbel.cell (p := ⟨b, off + k * 4, none⟩) hlt] at c0
      rw [← hbel.cell (p := ⟨b, off + k * 4 + 1, none⟩) hlt] at c1
      rw [← hbel.cell (p := ⟨b, off + k * 4 + 2, none⟩) hlt] at c2
      rw [← hbel.cell (p := ⟨b, off + k * 4 + 3, none⟩) hlt] at c3
      have HST := Lib.hid (tkI_step v rs k fnd t HK.out)
      rw [hr] at HST
      obtain ⟨p, hp⟩ : ∃ p, canT v r = p := ⟨_, rfl⟩
      rw [hp] at HST
      have HP := Lib.hid hp
      have FR := Four.new wr r 56
      have TV := TV.alloc (.cells #[.string r.nm, .int .i64 r.ra, .int .i64 r.he, .int .i64 r.qu] 56)
      have hbel := hbel.alloc (o := .cells #[.string r.nm, .int .i64 r.ra, .int .i64 r.he, .int .i64 r.qu] 56) hbel.size
      clear hr hp
      go_upto_region 4 with fail
      generalize wr.alloc (.cells #[.string r.nm, .int .i64 r.ra, .int .i64 r.he, .int .i64 r.qu] 56) = W at *
      have hkI : IntKind.i64.wrap ((k : Int) + 1) = (k : Int) + 1 := IntWalk.i64_in _ ⟨by omega, by omega⟩
      have hct := fun W => canTake_any v r W
      rw [HP.out] at hct
      have HCT := Lib.hid hct
      generalize wr.heap.size = RX at *
      clear hct c0 c1 c2 c3
      obtain ⟨X, hX⟩ : ∃ X, (p && (!fnd || decide ((rs.getD t rung0).qu < r.qu))) = X := ⟨_, rfl⟩
      have HX := Lib.hid hX
      clear hX
      go_cut [31] (fun s31 wx => s31 = .bool X ∧ Below w.heap.size w wx ∧ Thr wx w.heap.size v)
      case first =>
        clear hf0
        cases p
        · have XX : Hid (X = false) := Lib.hid (by rw [← HX.out]; rfl)
          have hS : W.cell? ⟨RX, 0, none⟩ = some (.string r.nm) ∧ W.cell? ⟨RX, 1, none⟩ = some (.int .i64 r.ra) ∧ W.cell? ⟨RX, 2, none⟩ = some (.int .i64 r.he) ∧ W.cell? ⟨RX, 3, none⟩ = some (.int .i64 r.qu) ∧ W.cell? ⟨w.heap.size, 0, none⟩ = some (.int .i64 v.ra) ∧ W.cell? ⟨w.heap.size, 1, none⟩ = some (.int .i64 v.he) ∧ W.cell? ⟨w.heap.size, 2, none⟩ = some (.int .i64 v.wt) ∧ Below w.heap.size w W ∧ RX < W.heap.size ∧ w.heap.size < W.heap.size := ⟨FR.c0, FR.c1, FR.c2, FR.c3, TV.c0, TV.c1, TV.c2, hbel, FR.lt, TV.lt⟩
          clear FR TV hbel
          refine wp_region_noPanic ?_
          refine wp_region_held_drew (S := fun w' => w'.cell? ⟨RX, 0, none⟩ = some (.string r.nm) ∧ w'.cell? ⟨RX, 1, none⟩ = some (.int .i64 r.ra) ∧ w'.cell? ⟨RX, 2, none⟩ = some (.int .i64 r.he) ∧ w'.cell? ⟨RX, 3, none⟩ = some (.int .i64 r.qu) ∧ w'.cell? ⟨w.heap.size, 0, none⟩ = some (.int .i64 v.ra) ∧ w'.cell? ⟨w.heap.size, 1, none⟩ = some (.int .i64 v.he) ∧ w'.cell? ⟨w.heap.size, 2, none⟩ = some (.int .i64 v.wt) ∧ Below w.heap.size w w' ∧ RX < w'.heap.size ∧ w.heap.size < w'.heap.size) (by kernel_rfl) ?hS0 (fun hHeld => ?_)
          case hS0 => exact carryT (Nat.le_refl _) hS (Below.refl _ _).drew
          have hS : W.drew.cell? ⟨RX, 0, none⟩ = some (.string r.nm) ∧ W.drew.cell? ⟨RX, 1, none⟩ = some (.int .i64 r.ra) ∧ W.drew.cell? ⟨RX, 2, none⟩ = some (.int .i64 r.he) ∧ W.drew.cell? ⟨RX, 3, none⟩ = some (.int .i64 r.qu) ∧ W.drew.cell? ⟨w.heap.size, 0, none⟩ = some (.int .i64 v.ra) ∧ W.drew.cell? ⟨w.heap.size, 1, none⟩ = some (.int .i64 v.he) ∧ W.drew.cell? ⟨w.heap.size, 2, none⟩ = some (.int .i64 v.wt) ∧ Below w.heap.size w W.drew ∧ RX < W.drew.heap.size ∧ w.heap.size < W.drew.heap.size := carryT (Nat.le_refl _) hS (Below.refl _ _).drew
          generalize W.drew = wd at *
          refine wpAnyH_take (i := 0) (v := ?_) rfl (by kernel_rfl) (by kernel_rfl) (by kernel_rfl) (fun _ _ _ h => h) (Or.inl ⟨by kernel_rfl, ?hy⟩) (by assumption) ?_
          case hy => (intro w hSw; (try dsimp only at hSw); go_simp; try (with_reducible rfl))
          try simp only [Act.put, List.setIfInBounds_toArray, List.set_cons_zero, List.set_cons_succ]
          refine wpAnyH_take (i := 1) (v := ?_) rfl (by kernel_rfl) (by kernel_rfl) (by kernel_rfl) (fun _ _ _ h => h) (Or.inl ⟨by kernel_rfl, ?hy⟩) (by assumption) ?_
          case hy => (intro w hSw; (try dsimp only at hSw); go_simp; try (with_reducible rfl))
          try simp only [Act.put, List.setIfInBounds_toArray, List.set_cons_zero, List.set_cons_succ]
          refine wpAnyH_ready (rs := [2]) (by kernel_rfl) (by simp) ?_
          refine AllReadyH.cons rfl (fun K hK => ?_) AllReadyH.nil
          go_simp
          refine (HCT.out _).mono ?_; rintro e w3 ⟨rfl, b3⟩; have hS := carryT (Nat.le_refl _) hS b3
          refine hK.out _ _ hS (fun hHeld => ?_)
          clear hK K
          try simp only [Act.put, List.setIfInBounds_toArray, List.set_cons_zero, List.set_cons_succ]
          refine wpAnyH_take (i := 3) (v := ?_) rfl (by kernel_rfl) (by kernel_rfl) (by kernel_rfl) (fun _ _ _ h => h) (Or.inl ⟨by kernel_rfl, ?hy⟩) (by assumption) ?_
          case hy => (intro w hSw; (try dsimp only at hSw); go_simp; try (with_reducible rfl))
          try simp only [Act.put, List.setIfInBounds_toArray, List.set_cons_zero, List.set_cons_succ]
          refine wpAnyH_take (i := 4) (v := undef) rfl (by kernel_rfl) (by kernel_rfl) (by kernel_rfl) (fun _ _ _ h => h) (Or.inr ⟨by kernel_rfl, rfl⟩) (by assumption) ?_
          try simp only [Act.put, List.setIfInBounds_toArray, List.set_cons_zero, List.set_cons_succ]
          refine wpAnyH_take (i := 5) (v := undef) rfl (by kernel_rfl) (by kernel_rfl) (by kernel_rfl) (fun _ _ _ h => h) (Or.inr ⟨by kernel_rfl, rfl⟩) (by assumption) ?_
          try simp only [Act.put, List.setIfInBounds_toArray, List.set_cons_zero, List.set_cons_succ]
          refine wpAnyH_take (i := 6) (v := undef) rfl (by kernel_rfl) (by kernel_rfl) (by kernel_rfl) (fun _ _ _ h => h) (Or.inr ⟨by kernel_rfl, rfl⟩) (by assumption) ?_
          try simp only [Act.put, List.setIfInBounds_toArray, List.set_cons_zero, List.set_cons_succ]
          refine wpAnyH_take (i := 7) (v := undef) rfl (by kernel_rfl) (by kernel_rfl) (by kernel_rfl) (fun _ _ _ h => h) (Or.inr ⟨by kernel_rfl, rfl⟩) (by assumption) ?_
          try simp only [Act.put, List.setIfInBounds_toArray, List.set_cons_zero, List.set_cons_succ]
          refine wpAnyH_take (i := 8) (v := undef) rfl (by kernel_rfl) (by kernel_rfl) (by kernel_rfl) (fun _ _ _ h => h) (Or.inr ⟨by kernel_rfl, rfl⟩) (by assumption) ?_
          try simp only [Act.put, List.setIfInBounds_toArray, List.set_cons_zero, List.set_cons_succ]
          refine wpAnyH_take (i := 9) (v := undef) rfl (by kernel_rfl) (by kernel_rfl) (by kernel_rfl) (fun _ _ _ h => h) (Or.inr ⟨by kernel_rfl, rfl⟩) (by assumption) ?_
          try simp only [Act.put, List.setIfInBounds_toArray, List.set_cons_zero, List.set_cons_succ]
          refine wpAnyH_take (i := 10) (v := undef) rfl (by kernel_rfl) (by kernel_rfl) (by kernel_rfl) (fun _ _ _ h => h) (Or.inr ⟨by kernel_rfl, rfl⟩) (by assumption) ?_
          try simp only [Act.put, List.setIfInBounds_toArray, List.set_cons_zero, List.set_cons_succ]
          refine wpAnyH_take (i := 11) (v := undef) rfl (by kernel_rfl) (by kernel_rfl) (by kernel_rfl) (fun _ _ _ h => h) (Or.inr ⟨by kernel_rfl, rfl⟩) (by assumption) ?_
          try simp only [Act.put, List.setIfInBounds_toArray, List.set_cons_zero, List.set_cons_succ]
          refine wpAnyH_take (i := 12) (v := undef) rfl (by kernel_rfl) (by kernel_rfl) (by kernel_rfl) (fun _ _ _ h => h) (Or.inr ⟨by kernel_rfl, rfl⟩) (by assumption) ?_
          try simp only [Act.put, List.setIfInBounds_toArray, List.set_cons_zero, List.set_cons_succ]
          refine wpAnyH_take (i := 13) (v := undef) rfl (by kernel_rfl) (by kernel_rfl) (by kernel_rfl) (fun _ _ _ h => h) (Or.inr ⟨by kernel_rfl, rfl⟩) (by assumption) ?_
          try simp only [Act.put, List.setIfInBounds_toArray, List.set_cons_zero, List.set_cons_succ]
          refine wpAnyH_take (i := 14) (v := undef) rfl (by kernel_rfl) (by kernel_rfl) (by kernel_rfl) (fun _ _ _ h => h) (Or.inr ⟨by kernel_rfl, rfl⟩) (by assumption) ?_
          try simp only [Act.put, List.setIfInBounds_toArray, List.set_cons_zero, List.set_cons_succ]
          refine wpAnyH_take (i := 15) (v := undef) rfl (by kernel_rfl) (by kernel_rfl) (by kernel_rfl) (fun _ _ _ h => h) (Or.inr ⟨by kernel_rfl, rfl⟩) (by assumption) ?_
          try simp only [Act.put, List.setIfInBounds_toArray, List.set_cons_zero, List.set_cons_succ]
          refine wpAnyH_take (i := 16) (v := ?_) rfl (by kernel_rfl) (by kernel_rfl) (by kernel_rfl) (fun _ _ _ h => h) (Or.inl ⟨by kernel_rfl, ?hy⟩) (by assumption) ?_
          case hy => (intro w hSw; (try dsimp only at hSw); go_simp; try (with_reducible rfl))
          try simp only [Act.put, List.setIfInBounds_toArray, List.set_cons_zero, List.set_cons_succ]
          refine wpAnyH_done (by kernel_rfl) ?_ _
          refine NoPanic.normal ?_
          try go_simp
          obtain ⟨a0, a1, a2, a3, v0, v1, v2, hbel, rl, vl⟩ := hS
          go_wp2_with fail
          go_meet
          exact ⟨by first | (rw [XX.out]; done) | (rw [XX.out]; rfl), hbel, ⟨vl, v0, v1, v2⟩⟩
        · cases fnd
          · have XX : Hid (X = true) := Lib.hid (by rw [← HX.out]; rfl)
            have hS : W.cell? ⟨RX, 0, none⟩ = some (.string r.nm) ∧ W.cell? ⟨RX, 1, none⟩ = some (.int .i64 r.ra) ∧ W.cell? ⟨RX, 2, none⟩ = some (.int .i64 r.he) ∧ W.cell? ⟨RX, 3, none⟩ = some (.int .i64 r.qu) ∧ W.cell? ⟨w.heap.size, 0, none⟩ = some (.int .i64 v.ra) ∧ W.cell? ⟨w.heap.size, 1, none⟩ = some (.int .i64 v.he) ∧ W.cell? ⟨w.heap.size, 2, none⟩ = some (.int .i64 v.wt) ∧ Below w.heap.size w W ∧ RX < W.heap.size ∧ w.heap.size < W.heap.size := ⟨FR.c0, FR.c1, FR.c2, FR.c3, TV.c0, TV.c1, TV.c2, hbel, FR.lt, TV.lt⟩
            clear FR TV hbel
            refine wp_region_noPanic ?_
            refine wp_region_held_drew (S := fun w' => w'.cell? ⟨RX, 0, none⟩ = some (.string r.nm) ∧ w'.cell? ⟨RX, 1, none⟩ = some (.int .i64 r.ra) ∧ w'.cell? ⟨RX, 2, none⟩ = some (.int .i64 r.he) ∧ w'.cell? ⟨RX, 3, none⟩ = some (.int .i64 r.qu) ∧ w'.cell? ⟨w.heap.size, 0, none⟩ = some (.int .i64 v.ra) ∧ w'.cell? ⟨w.heap.size, 1, none⟩ = some (.int .i64 v.he) ∧ w'.cell? ⟨w.heap.size, 2, none⟩ = some (.int .i64 v.wt) ∧ Below w.heap.size w w' ∧ RX < w'.heap.size ∧ w.heap.size < w'.heap.size) (by kernel_rfl) ?hS0 (fun hHeld => ?_)
            case hS0 => exact carryT (Nat.le_refl _) hS (Below.refl _ _).drew
            have hS : W.drew.cell? ⟨RX, 0, none⟩ = some (.string r.nm) ∧ W.drew.cell? ⟨RX, 1, none⟩ = some (.int .i64 r.ra) ∧ W.drew.cell? ⟨RX, 2, none⟩ = some (.int .i64 r.he) ∧ W.drew.cell? ⟨RX, 3, none⟩ = some (.int .i64 r.qu) ∧ W.drew.cell? ⟨w.heap.size, 0, none⟩ = some (.int .i64 v.ra) ∧ W.drew.cell? ⟨w.heap.size, 1, none⟩ = some (.int .i64 v.he) ∧ W.drew.cell? ⟨w.heap.size, 2, none⟩ = some (.int .i64 v.wt) ∧ Below w.heap.size w W.drew ∧ RX < W.drew.heap.size ∧ w.heap.size < W.drew.heap.size := carryT (Nat.le_refl _) hS (Below.refl _ _).drew
            generalize W.drew = wd at *
            refine wpAnyH_take (i := 0) (v := ?_) rfl (by kernel_rfl) (by kernel_rfl) (by kernel_rfl) (fun _ _ _ h => h) (Or.inl ⟨by kernel_rfl, ?hy⟩) (by assumption) ?_
            case hy => (intro w hSw; (try dsimp only at hSw); go_simp; try (with_reducible rfl))
            try simp only [Act.put, List.setIfInBounds_toArray, List.set_cons_zero, List.set_cons_succ]
            refine wpAnyH_take (i := 1) (v := ?_) rfl (by kernel_rfl) (by kernel_rfl) (by kernel_rfl) (fun _ _ _ h => h) (Or.inl ⟨by kernel_rfl, ?hy⟩) (by assumption) ?_
            case hy => (intro w hSw; (try dsimp only at hSw); go_simp; try (with_reducible rfl))
            try simp only [Act.put, List.setIfInBounds_toArray, List.set_cons_zero, List.set_cons_succ]
            refine wpAnyH_ready (rs := [2]) (by kernel_rfl) (by simp) ?_
            refine AllReadyH.cons rfl (fun K hK => ?_) AllReadyH.nil
            go_simp
            refine (HCT.out _).mono ?_; rintro e w3 ⟨rfl, b3⟩; have hS := carryT (Nat.le_refl _) hS b3
            refine hK.out _ _ hS (fun hHeld => ?_)
            clear hK K
            try simp only [Act.put, List.setIfInBounds_toArray, List.set_cons_zero, List.set_cons_succ]
            refine wpAnyH_take (i := 3) (v := ?_) rfl (by kernel_rfl) (by kernel_rfl) (by kernel_rfl) (fun _ _ _ h => h) (Or.inl ⟨by kernel_rfl, ?hy⟩) (by assumption) ?_
            case hy => (intro w hSw; (try dsimp only at hSw); go_simp; try (with_reducible rfl))
            try simp only [Act.put, List.setIfInBounds_toArray, List.set_cons_zero, List.set_cons_succ]
            refine wpAnyH_take (i := 4) (v := ?_) rfl (by kernel_rfl) (by kernel_rfl) (by kernel_rfl) (fun _ _ _ h => h) (Or.inl ⟨by kernel_rfl, ?hy⟩) (by assumption) ?_
            case hy => (intro w hSw; (try dsimp only at hSw); go_simp; try (with_reducible rfl))
            try simp only [Act.put, List.setIfInBounds_toArray, List.set_cons_zero, List.set_cons_succ]
            refine wpAnyH_take (i := 5) (v := ?_) rfl (by kernel_rfl) (by kernel_rfl) (by kernel_rfl) (fun _ _ _ h => h) (Or.inl ⟨by kernel_rfl, ?hy⟩) (by assumption) ?_
            case hy => (intro w hSw; (try dsimp only at hSw); go_simp; try (with_reducible rfl))
            try simp only [Act.put, List.setIfInBounds_toArray, List.set_cons_zero, List.set_cons_succ]
            refine wpAnyH_take (i := 6) (v := ?_) rfl (by kernel_rfl) (by kernel_rfl) (by kernel_rfl) (fun _ _ _ h => h) (Or.inl ⟨by kernel_rfl, ?hy⟩) (by assumption) ?_
            case hy => (intro w hSw; (try dsimp only at hSw); go_simp; try (with_reducible rfl))
            try simp only [Act.put, List.setIfInBounds_toArray, List.set_cons_zero, List.set_cons_succ]
            refine wpAnyH_take (i := 7) (v := undef) rfl (by kernel_rfl) (by kernel_rfl) (by kernel_rfl) (fun _ _ _ h => h) (Or.inr ⟨by kernel_rfl, rfl⟩) (by assumption) ?_
            try simp only [Act.put, List.setIfInBounds_toArray, List.set_cons_zero, List.set_cons_succ]
            refine wpAnyH_take (i := 8) (v := undef) rfl (by kernel_rfl) (by kernel_rfl) (by kernel_rfl) (fun _ _ _ h => h) (Or.inr ⟨by kernel_rfl, rfl⟩) (by assumption) ?_
            try simp only [Act.put, List.setIfInBounds_toArray, List.set_cons_zero, List.set_cons_succ]
            refine wpAnyH_take (i := 9) (v := undef) rfl (by kernel_rfl) (by kernel_rfl) (by kernel_rfl) (fun _ _ _ h => h) (Or.inr ⟨by kernel_rfl, rfl⟩) (by assumption) ?_
            try simp only [Act.put, List.setIfInBounds_toArray, List.set_cons_zero, List.set_cons_succ]
            refine wpAnyH_take (i := 10) (v := undef) rfl (by kernel_rfl) (by kernel_rfl) (by kernel_rfl) (fun _ _ _ h => h) (Or.inr ⟨by kernel_rfl, rfl⟩) (by assumption) ?_
            try simp only [Act.put, List.setIfInBounds_toArray, List.set_cons_zero, List.set_cons_succ]
            refine wpAnyH_take (i := 11) (v := undef) rfl (by kernel_rfl) (by kernel_rfl) (by kernel_rfl) (fun _ _ _ h => h) (Or.inr ⟨by kernel_rfl, rfl⟩) (by assumption) ?_
            try simp only [Act.put, List.setIfInBounds_toArray, List.set_cons_zero, List.set_cons_succ]
            refine wpAnyH_take (i := 12) (v := undef) rfl (by kernel_rfl) (by kernel_rfl) (by kernel_rfl) (fun _ _ _ h => h) (Or.inr ⟨by kernel_rfl, rfl⟩) (by assumption) ?_
            try simp only [Act.put, List.setIfInBounds_toArray, List.set_cons_zero, List.set_cons_succ]
            refine wpAnyH_take (i := 13) (v := undef) rfl (by kernel_rfl) (by kernel_rfl) (by kernel_rfl) (fun _ _ _ h => h) (Or.inr ⟨by kernel_rfl, rfl⟩) (by assumption) ?_
            try simp only [Act.put, List.setIfInBounds_toArray, List.set_cons_zero, List.set_cons_succ]
            refine wpAnyH_take (i := 14) (v := undef) rfl (by kernel_rfl) (by kernel_rfl) (by kernel_rfl) (fun _ _ _ h => h) (Or.inr ⟨by kernel_rfl, rfl⟩) (by assumption) ?_
            try simp only [Act.put, List.setIfInBounds_toArray, List.set_cons_zero, List.set_cons_succ]
            refine wpAnyH_take (i := 15) (v := ?_) rfl (by kernel_rfl) (by kernel_rfl) (by kernel_rfl) (fun _ _ _ h => h) (Or.inl ⟨by kernel_rfl, ?hy⟩) (by assumption) ?_
            case hy => (intro w hSw; (try dsimp only at hSw); go_simp; try (with_reducible rfl))
            try simp only [Act.put, List.setIfInBounds_toArray, List.set_cons_zero, List.set_cons_succ]
            refine wpAnyH_take (i := 16) (v := ?_) rfl (by kernel_rfl) (by kernel_rfl) (by kernel_rfl) (fun _ _ _ h => h) (Or.inl ⟨by kernel_rfl, ?hy⟩) (by assumption) ?_
            case hy => (intro w hSw; (try dsimp only at hSw); go_simp; try (with_reducible rfl))
            try simp only [Act.put, List.setIfInBounds_toArray, List.set_cons_zero, List.set_cons_succ]
            refine wpAnyH_done (by kernel_rfl) ?_ _
            refine NoPanic.normal ?_
            try go_simp
            obtain ⟨a0, a1, a2, a3, v0, v1, v2, hbel, rl, vl⟩ := hS
            go_wp2_with fail
            go_meet
            exact ⟨by first | (rw [XX.out]; done) | (rw [XX.out]; rfl), hbel, ⟨vl, v0, v1, v2⟩⟩
          · have htk := hf1 rfl
            obtain ⟨y, hy⟩ : ∃ y, rs.getD t rung0 = y := ⟨_, rfl⟩
            obtain ⟨-, -, -, y3⟩ := HC.out t (by omega)
            rw [hy] at y3
            rw [← hbel.cell (p := ⟨b, off + t * 4 + 3, none⟩) hlt] at y3
            have i0 : (0 : Int) ≤ (t : Int) := by omega
            have i1 : (t : Int) < (n : Int) := by omega
            have HXY : Hid (X = decide (y.qu < r.qu)) := Lib.hid (by rw [← HX.out, hy]; rfl)
            clear hy
            by_cases hq : y.qu < r.qu
            · have XX : Hid (X = true) := Lib.hid (by rw [HXY.out]; simp [hq])
              have hS : W.cell? ⟨b, off + t * 4 + 3, none⟩ = some (.int .i64 y.qu) ∧ W.cell? ⟨RX, 0, none⟩ = some (.string r.nm) ∧ W.cell? ⟨RX, 1, none⟩ = some (.int .i64 r.ra) ∧ W.cell? ⟨RX, 2, none⟩ = some (.int .i64 r.he) ∧ W.cell? ⟨RX, 3, none⟩ = some (.int .i64 r.qu) ∧ W.cell? ⟨w.heap.size, 0, none⟩ = some (.int .i64 v.ra) ∧ W.cell? ⟨w.heap.size, 1, none⟩ = some (.int .i64 v.he) ∧ W.cell? ⟨w.heap.size, 2, none⟩ = some (.int .i64 v.wt) ∧ Below w.heap.size w W ∧ RX < W.heap.size ∧ w.heap.size < W.heap.size := ⟨y3, FR.c0, FR.c1, FR.c2, FR.c3, TV.c0, TV.c1, TV.c2, hbel, FR.lt, TV.lt⟩
              clear FR TV hbel y3
              refine wp_region_noPanic ?_
              refine wp_region_held_drew (S := fun w' => w'.cell? ⟨b, off + t * 4 + 3, none⟩ = some (.int .i64 y.qu) ∧ w'.cell? ⟨RX, 0, none⟩ = some (.string r.nm) ∧ w'.cell? ⟨RX, 1, none⟩ = some (.int .i64 r.ra) ∧ w'.cell? ⟨RX, 2, none⟩ = some (.int .i64 r.he) ∧ w'.cell? ⟨RX, 3, none⟩ = some (.int .i64 r.qu) ∧ w'.cell? ⟨w.heap.size, 0, none⟩ = some (.int .i64 v.ra) ∧ w'.cell? ⟨w.heap.size, 1, none⟩ = some (.int .i64 v.he) ∧ w'.cell? ⟨w.heap.size, 2, none⟩ = some (.int .i64 v.wt) ∧ Below w.heap.size w w' ∧ RX < w'.heap.size ∧ w.heap.size < w'.heap.size) (by kernel_rfl) ?hS0 (fun hHeld => ?_)
              case hS0 => exact carryTY (Nat.le_refl _) hlt hS (Below.refl _ _).drew
              have hS : W.drew.cell? ⟨b, off + t * 4 + 3, none⟩ = some (.int .i64 y.qu) ∧ W.drew.cell? ⟨RX, 0, none⟩ = some (.string r.nm) ∧ W.drew.cell? ⟨RX, 1, none⟩ = some (.int .i64 r.ra) ∧ W.drew.cell? ⟨RX, 2, none⟩ = some (.int .i64 r.he) ∧ W.drew.cell? ⟨RX, 3, none⟩ = some (.int .i64 r.qu) ∧ W.drew.cell? ⟨w.heap.size, 0, none⟩ = some (.int .i64 v.ra) ∧ W.drew.cell? ⟨w.heap.size, 1, none⟩ = some (.int .i64 v.he) ∧ W.drew.cell? ⟨w.heap.size, 2, none⟩ = some (.int .i64 v.wt) ∧ Below w.heap.size w W.drew ∧ RX < W.drew.heap.size ∧ w.heap.size < W.drew.heap.size := carryTY (Nat.le_refl _) hlt hS (Below.refl _ _).drew
              generalize W.drew = wd at *
              refine wpAnyH_take (i := 0) (v := ?_) rfl (by kernel_rfl) (by kernel_rfl) (by kernel_rfl) (fun _ _ _ h => h) (Or.inl ⟨by kernel_rfl, ?hy⟩) (by assumption) ?_
              case hy => (intro w hSw; (try dsimp only at hSw); go_simp; try (with_reducible rfl))
              try simp only [Act.put, List.setIfInBounds_toArray, List.set_cons_zero, List.set_cons_succ]
              refine wpAnyH_take (i := 1) (v := ?_) rfl (by kernel_rfl) (by kernel_rfl) (by kernel_rfl) (fun _ _ _ h => h) (Or.inl ⟨by kernel_rfl, ?hy⟩) (by assumption) ?_
              case hy => (intro w hSw; (try dsimp only at hSw); go_simp; try (with_reducible rfl))
              try simp only [Act.put, List.setIfInBounds_toArray, List.set_cons_zero, List.set_cons_succ]
              refine wpAnyH_ready (rs := [2]) (by kernel_rfl) (by simp) ?_
              refine AllReadyH.cons rfl (fun K hK => ?_) AllReadyH.nil
              go_simp
              refine (HCT.out _).mono ?_; rintro e w3 ⟨rfl, b3⟩; have hS := carryTY (Nat.le_refl _) hlt hS b3
              refine hK.out _ _ hS (fun hHeld => ?_)
              clear hK K
              try simp only [Act.put, List.setIfInBounds_toArray, List.set_cons_zero, List.set_cons_succ]
              refine wpAnyH_take (i := 3) (v := ?_) rfl (by kernel_rfl) (by kernel_rfl) (by kernel_rfl) (fun _ _ _ h => h) (Or.inl ⟨by kernel_rfl, ?hy⟩) (by assumption) ?_
              case hy => (intro w hSw; (try dsimp only at hSw); go_simp; try (with_reducible rfl))
              try simp only [Act.put, List.setIfInBounds_toArray, List.set_cons_zero, List.set_cons_succ]
              refine wpAnyH_take (i := 4) (v := ?_) rfl (by kernel_rfl) (by kernel_rfl) (by kernel_rfl) (fun _ _ _ h => h) (Or.inl ⟨by kernel_rfl, ?hy⟩) (by assumption) ?_
              case hy => (intro w hSw; (try dsimp only at hSw); go_simp; try (with_reducible rfl))
              try simp only [Act.put, List.setIfInBounds_toArray, List.set_cons_zero, List.set_cons_succ]
              refine wpAnyH_take (i := 5) (v := ?_) rfl (by kernel_rfl) (by kernel_rfl) (by kernel_rfl) (fun _ _ _ h => h) (Or.inl ⟨by kernel_rfl, ?hy⟩) (by assumption) ?_
              case hy => (intro w hSw; (try dsimp only at hSw); go_simp; try (with_reducible rfl))
              try simp only [Act.put, List.setIfInBounds_toArray, List.set_cons_zero, List.set_cons_succ]
              refine wpAnyH_take (i := 6) (v := ?_) rfl (by kernel_rfl) (by kernel_rfl) (by kernel_rfl) (fun _ _ _ h => h) (Or.inl ⟨by kernel_rfl, ?hy⟩) (by assumption) ?_
              case hy => (intro w hSw; (try dsimp only at hSw); go_simp; try (with_reducible rfl))
              try simp only [Act.put, List.setIfInBounds_toArray, List.set_cons_zero, List.set_cons_succ]
              refine wpAnyH_take (i := 7) (v := ?_) rfl (by kernel_rfl) (by kernel_rfl) (by kernel_rfl) (fun _ _ _ h => h) (Or.inl ⟨by kernel_rfl, ?hy⟩) (by assumption) ?_
              case hy => (intro w hSw; (try dsimp only at hSw); go_simp; try (with_reducible rfl))
              try simp only [Act.put, List.setIfInBounds_toArray, List.set_cons_zero, List.set_cons_succ]
              refine wpAnyH_take (i := 8) (v := ?_) rfl (by kernel_rfl) (by kernel_rfl) (by kernel_rfl) (fun _ _ _ h => h) (Or.inl ⟨by kernel_rfl, ?hy⟩) (by assumption) ?_
              case hy => (intro w hSw; (try dsimp only at hSw); go_simp; try (with_reducible rfl))
              try simp only [Act.put, List.setIfInBounds_toArray, List.set_cons_zero, List.set_cons_succ]
              refine wpAnyH_take (i := 9) (v := ?_) rfl (by kernel_rfl) (by kernel_rfl) (by kernel_rfl) (fun _ _ _ h => h) (Or.inl ⟨by kernel_rfl, ?hy⟩) (by assumption) ?_
              case hy => (intro w hSw; (try dsimp only at hSw); go_simp; try (with_reducible rfl))
              try simp only [Act.put, List.setIfInBounds_toArray, List.set_cons_zero, List.set_cons_succ]
              refine wpAnyH_take (i := 10) (v := ?_) rfl (by kernel_rfl) (by kernel_rfl) (by kernel_rfl) (fun _ _ _ h => h) (Or.inl ⟨by kernel_rfl, ?hy⟩) (by assumption) ?_
              case hy => (intro w hSw; (try dsimp only at hSw); go_simp; try (with_reducible rfl))
              try simp only [Act.put, List.setIfInBounds_toArray, List.set_cons_zero, List.set_cons_succ]
              refine wpAnyH_take (i := 11) (v := ?_) rfl (by kernel_rfl) (by kernel_rfl) (by kernel_rfl) (fun _ _ _ h => h) (Or.inl ⟨by kernel_rfl, ?hy⟩) (by assumption) ?_
              case hy => (intro w hSw; (try dsimp only at hSw); go_simp; try (with_reducible rfl))
              try simp only [Act.put, List.setIfInBounds_toArray, List.set_cons_zero, List.set_cons_succ]
              refine wpAnyH_take (i := 12) (v := ?_) rfl (by kernel_rfl) (by kernel_rfl) (by kernel_rfl) (fun _ _ _ h => h) (Or.inl ⟨by kernel_rfl, ?hy⟩) (by assumption) ?_
              case hy => (intro w hSw; (try dsimp only at hSw); go_simp; try (with_reducible rfl))
              try simp only [Act.put, List.setIfInBounds_toArray, List.set_cons_zero, List.set_cons_succ]
              refine wpAnyH_take (i := 13) (v := ?_) rfl (by kernel_rfl) (by kernel_rfl) (by kernel_rfl) (fun _ _ _ h => h) (Or.inl ⟨by kernel_rfl, ?hy⟩) (by assumption) ?_
              case hy => (intro w hSw; (try dsimp only at hSw); go_simp; try (with_reducible rfl))
              try simp only [Act.put, List.setIfInBounds_toArray, List.set_cons_zero, List.set_cons_succ]
              refine wpAnyH_take (i := 14) (v := ?_) rfl (by kernel_rfl) (by kernel_rfl) (by kernel_rfl) (fun _ _ _ h => h) (Or.inl ⟨by kernel_rfl, ?hy⟩) (by assumption) ?_
              case hy => (intro w hSw; (try dsimp only at hSw); go_simp; try (with_reducible rfl))
              try simp only [Act.put, List.setIfInBounds_toArray, List.set_cons_zero, List.set_cons_succ]
              refine wpAnyH_take (i := 15) (v := ?_) rfl (by kernel_rfl) (by kernel_rfl) (by kernel_rfl) (fun _ _ _ h => h) (Or.inl ⟨by kernel_rfl, ?hy⟩) (by assumption) ?_
              case hy => (intro w hSw; (try dsimp only at hSw); go_simp; try (with_reducible rfl))
              try simp only [Act.put, List.setIfInBounds_toArray, List.set_cons_zero, List.set_cons_succ]
              refine wpAnyH_take (i := 16) (v := ?_) rfl (by kernel_rfl) (by kernel_rfl) (by kernel_rfl) (fun _ _ _ h => h) (Or.inl ⟨by kernel_rfl, ?hy⟩) (by assumption) ?_
              case hy => (intro w hSw; (try dsimp only at hSw); go_simp; try (with_reducible rfl))
              try simp only [Act.put, List.setIfInBounds_toArray, List.set_cons_zero, List.set_cons_succ]
              refine wpAnyH_done (by kernel_rfl) ?_ _
              refine NoPanic.normal ?_
              try go_simp
              obtain ⟨-, a0, a1, a2, a3, v0, v1, v2, hbel, rl, vl⟩ := hS
              go_wp2_with fail
              go_meet
              exact ⟨by first | (rw [XX.out]; done) | (rw [XX.out]; rfl), hbel, ⟨vl, v0, v1, v2⟩⟩
            · have hd : decide (y.qu < r.qu) = false := by simp; omega
              have XX : Hid (X = false) := Lib.hid (by rw [HXY.out]; exact hd)
              clear hq
              have hS : W.cell? ⟨b, off + t * 4 + 3, none⟩ = some (.int .i64 y.qu) ∧ W.cell? ⟨RX, 0, none⟩ = some (.string r.nm) ∧ W.cell? ⟨RX, 1, none⟩ = some (.int .i64 r.ra) ∧ W.cell? ⟨RX, 2, none⟩ = some (.int .i64 r.he) ∧ W.cell? ⟨RX, 3, none⟩ = some (.int .i64 r.qu) ∧ W.cell? ⟨w.heap.size, 0, none⟩ = some (.int .i64 v.ra) ∧ W.cell? ⟨w.heap.size, 1, none⟩ = some (.int .i64 v.he) ∧ W.cell? ⟨w.heap.size, 2, none⟩ = some (.int .i64 v.wt) ∧ Below w.heap.size w W ∧ RX < W.heap.size ∧ w.heap.size < W.heap.size := ⟨y3, FR.c0, FR.c1, FR.c2, FR.c3, TV.c0, TV.c1, TV.c2, hbel, FR.lt, TV.lt⟩
              clear FR TV hbel y3
              refine wp_region_noPanic ?_
              refine wp_region_held_drew (S := fun w' => w'.cell? ⟨b, off + t * 4 + 3, none⟩ = some (.int .i64 y.qu) ∧ w'.cell? ⟨RX, 0, none⟩ = some (.string r.nm) ∧ w'.cell? ⟨RX, 1, none⟩ = some (.int .i64 r.ra) ∧ w'.cell? ⟨RX, 2, none⟩ = some (.int .i64 r.he) ∧ w'.cell? ⟨RX, 3, none⟩ = some (.int .i64 r.qu) ∧ w'.cell? ⟨w.heap.size, 0, none⟩ = some (.int .i64 v.ra) ∧ w'.cell? ⟨w.heap.size, 1, none⟩ = some (.int .i64 v.he) ∧ w'.cell? ⟨w.heap.size, 2, none⟩ = some (.int .i64 v.wt) ∧ Below w.heap.size w w' ∧ RX < w'.heap.size ∧ w.heap.size < w'.heap.size) (by kernel_rfl) ?hS0 (fun hHeld => ?_)
              case hS0 => exact carryTY (Nat.le_refl _) hlt hS (Below.refl _ _).drew
              have hS : W.drew.cell? ⟨b, off + t * 4 + 3, none⟩ = some (.int .i64 y.qu) ∧ W.drew.cell? ⟨RX, 0, none⟩ = some (.string r.nm) ∧ W.drew.cell? ⟨RX, 1, none⟩ = some (.int .i64 r.ra) ∧ W.drew.cell? ⟨RX, 2, none⟩ = some (.int .i64 r.he) ∧ W.drew.cell? ⟨RX, 3, none⟩ = some (.int .i64 r.qu) ∧ W.drew.cell? ⟨w.heap.size, 0, none⟩ = some (.int .i64 v.ra) ∧ W.drew.cell? ⟨w.heap.size, 1, none⟩ = some (.int .i64 v.he) ∧ W.drew.cell? ⟨w.heap.size, 2, none⟩ = some (.int .i64 v.wt) ∧ Below w.heap.size w W.drew ∧ RX < W.drew.heap.size ∧ w.heap.size < W.drew.heap.size := carryTY (Nat.le_refl _) hlt hS (Below.refl _ _).drew
              generalize W.drew = wd at *
              refine wpAnyH_take (i := 0) (v := ?_) rfl (by kernel_rfl) (by kernel_rfl) (by kernel_rfl) (fun _ _ _ h => h) (Or.inl ⟨by kernel_rfl, ?hy⟩) (by assumption) ?_
              case hy => (intro w hSw; (try dsimp only at hSw); go_simp; try (with_reducible rfl))
              try simp only [Act.put, List.setIfInBounds_toArray, List.set_cons_zero, List.set_cons_succ]
              refine wpAnyH_take (i := 1) (v := ?_) rfl (by kernel_rfl) (by kernel_rfl) (by kernel_rfl) (fun _ _ _ h => h) (Or.inl ⟨by kernel_rfl, ?hy⟩) (by assumption) ?_
              case hy => (intro w hSw; (try dsimp only at hSw); go_simp; try (with_reducible rfl))
              try simp only [Act.put, List.setIfInBounds_toArray, List.set_cons_zero, List.set_cons_succ]
              refine wpAnyH_ready (rs := [2]) (by kernel_rfl) (by simp) ?_
              refine AllReadyH.cons rfl (fun K hK => ?_) AllReadyH.nil
              go_simp
              refine (HCT.out _).mono ?_; rintro e w3 ⟨rfl, b3⟩; have hS := carryTY (Nat.le_refl _) hlt hS b3
              refine hK.out _ _ hS (fun hHeld => ?_)
              clear hK K
              try simp only [Act.put, List.setIfInBounds_toArray, List.set_cons_zero, List.set_cons_succ]
              refine wpAnyH_take (i := 3) (v := ?_) rfl (by kernel_rfl) (by kernel_rfl) (by kernel_rfl) (fun _ _ _ h => h) (Or.inl ⟨by kernel_rfl, ?hy⟩) (by assumption) ?_
              case hy => (intro w hSw; (try dsimp only at hSw); go_simp; try (with_reducible rfl))
              try simp only [Act.put, List.setIfInBounds_toArray, List.set_cons_zero, List.set_cons_succ]
              refine wpAnyH_take (i := 4) (v := ?_) rfl (by kernel_rfl) (by kernel_rfl) (by kernel_rfl) (fun _ _ _ h => h) (Or.inl ⟨by kernel_rfl, ?hy⟩) (by assumption) ?_
              case hy => (intro w hSw; (try dsimp only at hSw); go_simp; try (with_reducible rfl))
              try simp only [Act.put, List.setIfInBounds_toArray, List.set_cons_zero, List.set_cons_succ]
              refine wpAnyH_take (i := 5) (v := ?_) rfl (by kernel_rfl) (by kernel_rfl) (by kernel_rfl) (fun _ _ _ h => h) (Or.inl ⟨by kernel_rfl, ?hy⟩) (by assumption) ?_
              case hy => (intro w hSw; (try dsimp only at hSw); go_simp; try (with_reducible rfl))
              try simp only [Act.put, List.setIfInBounds_toArray, List.set_cons_zero, List.set_cons_succ]
              refine wpAnyH_take (i := 6) (v := ?_) rfl (by kernel_rfl) (by kernel_rfl) (by kernel_rfl) (fun _ _ _ h => h) (Or.inl ⟨by kernel_rfl, ?hy⟩) (by assumption) ?_
              case hy => (intro w hSw; (try dsimp only at hSw); go_simp; try (with_reducible rfl))
              try simp only [Act.put, List.setIfInBounds_toArray, List.set_cons_zero, List.set_cons_succ]
              refine wpAnyH_take (i := 7) (v := ?_) rfl (by kernel_rfl) (by kernel_rfl) (by kernel_rfl) (fun _ _ _ h => h) (Or.inl ⟨by kernel_rfl, ?hy⟩) (by assumption) ?_
              case hy => (intro w hSw; (try dsimp only at hSw); go_simp; try (with_reducible rfl))
              try simp only [Act.put, List.setIfInBounds_toArray, List.set_cons_zero, List.set_cons_succ]
              refine wpAnyH_take (i := 8) (v := ?_) rfl (by kernel_rfl) (by kernel_rfl) (by kernel_rfl) (fun _ _ _ h => h) (Or.inl ⟨by kernel_rfl, ?hy⟩) (by assumption) ?_
              case hy => (intro w hSw; (try dsimp only at hSw); go_simp; try (with_reducible rfl))
              try simp only [Act.put, List.setIfInBounds_toArray, List.set_cons_zero, List.set_cons_succ]
              refine wpAnyH_take (i := 9) (v := ?_) rfl (by kernel_rfl) (by kernel_rfl) (by kernel_rfl) (fun _ _ _ h => h) (Or.inl ⟨by kernel_rfl, ?hy⟩) (by assumption) ?_
              case hy => (intro w hSw; (try dsimp only at hSw); go_simp; try (with_reducible rfl))
              try simp only [Act.put, List.setIfInBounds_toArray, List.set_cons_zero, List.set_cons_succ]
              refine wpAnyH_take (i := 10) (v := ?_) rfl (by kernel_rfl) (by kernel_rfl) (by kernel_rfl) (fun _ _ _ h => h) (Or.inl ⟨by kernel_rfl, ?hy⟩) (by assumption) ?_
              case hy => (intro w hSw; (try dsimp only at hSw); go_simp; try (with_reducible rfl))
              try simp only [Act.put, List.setIfInBounds_toArray, List.set_cons_zero, List.set_cons_succ]
              refine wpAnyH_take (i := 11) (v := ?_) rfl (by kernel_rfl) (by kernel_rfl) (by kernel_rfl) (fun _ _ _ h => h) (Or.inl ⟨by kernel_rfl, ?hy⟩) (by assumption) ?_
              case hy => (intro w hSw; (try dsimp only at hSw); go_simp; try (with_reducible rfl))
              try simp only [Act.put, List.setIfInBounds_toArray, List.set_cons_zero, List.set_cons_succ]
              refine wpAnyH_take (i := 12) (v := ?_) rfl (by kernel_rfl) (by kernel_rfl) (by kernel_rfl) (fun _ _ _ h => h) (Or.inl ⟨by kernel_rfl, ?hy⟩) (by assumption) ?_
              case hy => (intro w hSw; (try dsimp only at hSw); go_simp; try (with_reducible rfl))
              try simp only [Act.put, List.setIfInBounds_toArray, List.set_cons_zero, List.set_cons_succ]
              refine wpAnyH_take (i := 13) (v := ?_) rfl (by kernel_rfl) (by kernel_rfl) (by kernel_rfl) (fun _ _ _ h => h) (Or.inl ⟨by kernel_rfl, ?hy⟩) (by assumption) ?_
              case hy => (intro w hSw; (try dsimp only at hSw); go_simp; try (with_reducible rfl))
              try simp only [Act.put, List.setIfInBounds_toArray, List.set_cons_zero, List.set_cons_succ]
              refine wpAnyH_take (i := 14) (v := ?_) rfl (by kernel_rfl) (by kernel_rfl) (by kernel_rfl) (fun _ _ _ h => h) (Or.inl ⟨by kernel_rfl, ?hy⟩) (by assumption) ?_
              case hy => (intro w hSw; (try dsimp only at hSw); go_simp; try (with_reducible rfl))
              try simp only [Act.put, List.setIfInBounds_toArray, List.set_cons_zero, List.set_cons_succ]
              refine wpAnyH_take (i := 15) (v := ?_) rfl (by kernel_rfl) (by kernel_rfl) (by kernel_rfl) (fun _ _ _ h => h) (Or.inl ⟨by kernel_rfl, ?hy⟩) (by assumption) ?_
              case hy => (intro w hSw; (try dsimp only at hSw); go_simp; try (with_reducible rfl))
              try simp only [Act.put, List.setIfInBounds_toArray, List.set_cons_zero, List.set_cons_succ]
              refine wpAnyH_take (i := 16) (v := ?_) rfl (by kernel_rfl) (by kernel_rfl) (by kernel_rfl) (fun _ _ _ h => h) (Or.inl ⟨by kernel_rfl, ?hy⟩) (by assumption) ?_
              case hy => (intro w hSw; (try dsimp only at hSw); go_simp; try (with_reducible rfl))
              try simp only [Act.put, List.setIfInBounds_toArray, List.set_cons_zero, List.set_cons_succ]
              refine wpAnyH_done (by kernel_rfl) ?_ _
              refine NoPanic.normal ?_
              try go_simp
              obtain ⟨-, a0, a1, a2, a3, v0, v1, v2, hbel, rl, vl⟩ := hS
              go_wp2_with fail
              go_meet
              exact ⟨by first | (rw [XX.out]; done) | (rw [XX.out]; rfl), hbel, ⟨vl, v0, v1, v2⟩⟩
      case rest =>
        obtain ⟨rfl, hbel, TV⟩ := hcut
        cases X
        · have HN : Hid (tkI v rs (k + 1) = tkO fnd t) := Lib.hid (by
            rw [HST.out, if_neg]
            rintro ⟨h1, h2⟩
            have h3 := HX.out
            rw [h1] at h3
            rcases h2 with h2 | h2
            · rw [h2] at h3; cases h3
            · rw [decide_eq_true h2] at h3; cases fnd <;> cases h3)
          go_wp2_with fail
          go_roundw
          case rel => exact ⟨k + 1, t, fnd, by omega, by go_num, rfl, rfl, (fun h => by have := hf1 h; omega), hf0, HN, hbel, TV⟩
          case measure => simp [intOf]; omega
        · have HN : Hid (tkI v rs (k + 1) = tkO true k) := Lib.hid (by
            rw [HST.out, if_pos]
            · rfl
            · have h3 := HX.out
              cases p
              · cases h3
              · refine ⟨rfl, ?_⟩
                cases fnd
                · exact .inl rfl
                · exact .inr (of_decide_eq_true h3))
          go_wp2_with fail
          go_roundw
          case rel => exact ⟨k + 1, k, true, by omega, by go_num, rfl, rfl, (fun _ => by omega), (fun h => by cases h), HN, hbel, TV⟩
          case measure => simp [intOf]; omega
theorem taken_none (v : Vw) (a : Option Addr) (cap : Nat) (w : World) : Calls Try.prog 50 #[.agg #[.int .i64 v.ra, .int .i64 v.he, .int .i64 v.wt], .slice a 0 cap] w fun e w' => e = .returned (.tuple #[.int .i64 0, .bool false]) ∧ Below w.heap.size w w' := by
  go_enter Try.func50, Try.ntmps50
  go_wp2_with fail
  refine wp_loop_rounds 1 ?_
  rw [rounds_succ]
  go_wp2_with fail
  go_ret2
  exact ⟨rfl, (Below.refl _ w).alloc (Nat.le_refl _) _⟩
theorem taken_any (v : Vw) (u : Value) (rs : List Rung) (w : World) (h : Rungs w u rs) (hn : rs.length ≤ 100) :
    Calls Try.prog 50 #[.agg #[.int .i64 v.ra, .int .i64 v.he, .int .i64 v.wt], u] w fun e w' => e = .returned (.tuple #[.int .i64 (tkN v rs : Nat), .bool (tkB v rs)]) ∧ Below w.heap.size w w' := by
  by_cases h0 : rs.length = 0
  · have : rs = [] := List.length_eq_zero_iff.1 h0
    subst this
    obtain ⟨a, cap, rfl⟩ := h.parts
    exact taken_none v a cap w
  · obtain ⟨b, off, cap, rfl, hlt, hl, hm⟩ := h.spot (by omega)
    exact taken_walk v b off rs.length cap rs w rfl (by omega) hn hlt h

end Go.Proofs.Ytinckidkophobaa
