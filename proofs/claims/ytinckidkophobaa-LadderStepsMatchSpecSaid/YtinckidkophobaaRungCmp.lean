/- The order of renditions: cmp.Compare at strings, cmp.Or, compare; blocks of a rendition. -/
import Derived.Test.YtinckidkophobaaName
import Derived.Test.YtinckidkophobaaRungs
import Derived.Test.YtinckidkophobaaStill
import Derived.Test.YtinckidkophobaaShelf
namespace Go.Proofs.Ytinckidkophobaa
set_option linter.unusedVariables false
set_option linter.unusedSimpArgs false
open Go.RowKit Go.Deep

/-- Block X holds a rendition. -/
structure Four (W : World) (X : Nat) (r : Rung) : Prop where
  lt : X < W.heap.size
  c0 : W.cell? ⟨X, 0, none⟩ = some (.string r.nm)
  c1 : W.cell? ⟨X, 1, none⟩ = some (.int .i64 r.ra)
  c2 : W.cell? ⟨X, 2, none⟩ = some (.int .i64 r.he)
  c3 : W.cell? ⟨X, 3, none⟩ = some (.int .i64 r.qu)
theorem Four.below {W W' : World} {X B : Nat} {r : Rung} (h : Four W X r) (hb : Below B W W') (hX : X < B) : Four W' X r :=
  ⟨Nat.lt_of_lt_of_le h.lt hb.size, by rw [hb.cell (p := ⟨X, 0, none⟩) hX]; exact h.c0, by rw [hb.cell (p := ⟨X, 1, none⟩) hX]; exact h.c1, by rw [hb.cell (p := ⟨X, 2, none⟩) hX]; exact h.c2, by rw [hb.cell (p := ⟨X, 3, none⟩) hX]; exact h.c3⟩
theorem Four.drew {W : World} {X : Nat} {r : Rung} (h : Four W X r) : Four W.drew X r := ⟨h.lt, h.c0, h.c1, h.c2, h.c3⟩
theorem Four.drewN {W : World} {X : Nat} {r : Rung} (h : Four W X r) (q : Nat) : Four (W.drewN q) X r := ⟨h.lt, h.c0, h.c1, h.c2, h.c3⟩
theorem Four.new (W : World) (r : Rung) (T : TypeId) : Four (W.alloc (.cells #[.string r.nm, .int .i64 r.ra, .int .i64 r.he, .int .i64 r.qu] T)) W.heap.size r := by
  refine ⟨by simp, ?_, ?_, ?_, ?_⟩
  all_goals (rw [World.cell?_alloc_at _ _ _ _ rfl]; rfl)
theorem Four.alloc {W : World} {X : Nat} {r : Rung} (h : Four W X r) (o : Obj) : Four (W.alloc o) X r :=
  h.below ((Below.refl W.heap.size W).alloc (Nat.le_refl _) o) h.lt

theorem nanS_any (s : ByteArray) (w : World) : Calls Try.prog 93 #[.string s] w fun e w' => e = .returned (.bool false) ∧ w = w' := by
  go_enter Try.func93, Try.ntmps93
  go_wp2_with fail
  go_ret
  exact ⟨bret_bool (by simp), rfl⟩
def cmpS (a b : ByteArray) : Int := if sless a b = true then -1 else if sameN a b = true then 0 else 1
theorem cmpS_any (a b : ByteArray) (w : World) : Calls Try.prog 75 #[.string a, .string b] w fun e w' => e = .returned (.int .i64 (cmpS a b)) ∧ w = w' := by
  obtain ⟨p, hp⟩ : ∃ p, Op.bytesLess a.toList b.toList = p := ⟨_, rfl⟩
  obtain ⟨q, hq⟩ : ∃ q, (a.toList == b.toList) = q := ⟨_, rfl⟩
  have HC : Hid (cmpS a b = if p = true then -1 else if q = true then 0 else 1) := Lib.hid (by unfold cmpS sless sameN; rw [hp, hq])
  obtain ⟨R, hR⟩ : ∃ R, cmpS a b = R := ⟨_, rfl⟩
  rw [hR] at HC ⊢
  clear hR
  cases p
  · cases q
    · have e : R = 1 := HC.out
      subst e
      clear HC
      go_enter Try.func75, Try.ntmps75
      go_wp2_with (go_at_call 93; refine (nanS_any _ _).mono ?_; rintro e w' ⟨rfl, rfl⟩)
      go_ret
      exact ⟨rfl, rfl⟩
    · have e : R = 0 := HC.out
      subst e
      clear HC
      go_enter Try.func75, Try.ntmps75
      go_wp2_with (go_at_call 93; refine (nanS_any _ _).mono ?_; rintro e w' ⟨rfl, rfl⟩)
      go_ret
      exact ⟨rfl, rfl⟩
  · have e : R = -1 := HC.out
    subst e
    clear HC
    go_enter Try.func75, Try.ntmps75
    go_wp2_with (go_at_call 93; refine (nanS_any _ _).mono ?_; rintro e w' ⟨rfl, rfl⟩)
    go_ret
    exact ⟨rfl, rfl⟩
set_option maxHeartbeats 1000000 in
theorem or_any (x y : Int) (w : World) :
    Calls Try.prog 73 #[.slice (some ⟨w.heap.size, 0, none⟩) 2 2] (w.alloc (.cells #[.int .i64 x, .int .i64 y] 3)) fun e w' => e = .returned (.int .i64 (if x = 0 then y else x)) ∧ w.alloc (.cells #[.int .i64 x, .int .i64 y] 3) = w' := by
  have c0 : (w.alloc (.cells #[.int .i64 x, .int .i64 y] 3)).cell? ⟨w.heap.size, 0, none⟩ = some (.int .i64 x) := by rw [World.cell?_alloc_at _ _ _ _ rfl]; rfl
  have c1 : (w.alloc (.cells #[.int .i64 x, .int .i64 y] 3)).cell? ⟨w.heap.size, 1, none⟩ = some (.int .i64 y) := by rw [World.cell?_alloc_at _ _ _ _ rfl]; rfl
  generalize w.alloc (.cells #[.int .i64 x, .int .i64 y] 3) = W at *
  by_cases hx : x = 0
  · subst hx
    rw [if_pos rfl]
    by_cases hy : y = 0
    · subst hy
      go_enter Try.func73, Try.ntmps73
      go_wp2_with fail
      refine wp_loop_rounds 3 ?_
      rw [rounds_succ]
      go_wp2_with fail
      rw [rounds_succ]
      go_wp2_with fail
      rw [rounds_succ]
      go_wp2_with fail
      go_ret
      exact ⟨rfl, rfl⟩
    · have hyb : (y == 0) = false := by simp [hy]
      have hyc : (y != 0) = true := by simp [hy]
      clear hy
      go_enter Try.func73, Try.ntmps73
      go_wp2_with fail
      refine wp_loop_rounds 2 ?_
      rw [rounds_succ]
      go_wp2_with fail
      rw [rounds_succ]
      go_wp2_with fail
      go_ret
      exact ⟨rfl, rfl⟩
  · rw [if_neg hx]
    have hxb : (x == 0) = false := by simp [hx]
    have hxc : (x != 0) = true := by simp [hx]
    clear hx
    go_enter Try.func73, Try.ntmps73
    go_wp2_with fail
    refine wp_loop_rounds 1 ?_
    rw [rounds_succ]
    go_wp2_with fail
    go_ret
    exact ⟨rfl, rfl⟩

def cmpR (a b : Rung) : Int := if Lib.compareInt a.ra b.ra = 0 then cmpS a.nm b.nm else Lib.compareInt a.ra b.ra
theorem cmpR_lt (a b : Rung) : decide (cmpR a b < 0) = rless a b := by
  unfold cmpR rless Lib.compareInt cmpS
  by_cases h1 : a.ra < b.ra
  · simp [h1]
  · by_cases h2 : b.ra < a.ra
    · have h3 : ¬ a.ra = b.ra := by omega
      simp [h1, h2, h3]
    · have h3 : a.ra = b.ra := by omega
      cases sless a.nm b.nm <;> cases sameN a.nm b.nm <;> simp [h3]
set_option maxRecDepth 100000 in
set_option maxHeartbeats 4000000 in
theorem compare_any (a b : Rung) (w : World) :
    Calls Try.prog 57 #[.agg #[.string a.nm, .int .i64 a.ra, .int .i64 a.he, .int .i64 a.qu], .agg #[.string b.nm, .int .i64 b.ra, .int .i64 b.he, .int .i64 b.qu]] w fun e w' => e = .returned (.int .i64 (cmpR a b)) ∧ Below w.heap.size w w' := by
  have HR : Hid ((if Lib.compareInt a.ra b.ra = 0 then cmpS a.nm b.nm else Lib.compareInt a.ra b.ra) = cmpR a b) := Lib.hid rfl
  have A0 := (Four.new w a 56).alloc (.cells #[.string b.nm, .int .i64 b.ra, .int .i64 b.he, .int .i64 b.qu] 56)
  have B0 := Four.new (w.alloc (.cells #[.string a.nm, .int .i64 a.ra, .int .i64 a.he, .int .i64 a.qu] 56)) b 56
  have hb : Below w.heap.size w ((w.alloc (.cells #[.string a.nm, .int .i64 a.ra, .int .i64 a.he, .int .i64 a.qu] 56)).alloc (.cells #[.string b.nm, .int .i64 b.ra, .int .i64 b.he, .int .i64 b.qu] 56)) := ((Below.refl _ w).alloc (Nat.le_refl _) _).alloc (by simp) _
  have hs : (w.alloc (.cells #[.string a.nm, .int .i64 a.ra, .int .i64 a.he, .int .i64 a.qu] 56)).heap.size = w.heap.size + 1 := by simp
  rw [hs] at B0
  obtain ⟨R, hR⟩ : ∃ R, cmpR a b = R := ⟨_, rfl⟩
  rw [hR] at HR ⊢
  clear hR
  go_enter Try.func57, Try.ntmps57
  go_upto_region 1 with fail
  clear hs
  generalize (w.alloc (.cells #[.string a.nm, .int .i64 a.ra, .int .i64 a.he, .int .i64 a.qu] 56)).alloc (.cells #[.string b.nm, .int .i64 b.ra, .int .i64 b.he, .int .i64 b.qu] 56) = W at *
  have a0 := A0.c0; have a1 := A0.c1; have b0 := B0.c0; have b1 := B0.c1
  refine region_still_tail 10 (by kernel_rfl) (by kernel_rfl) ?_
  simp only [List.take_succ_cons, List.take_zero, List.drop_succ_cons, List.drop_zero]
  refine St.step (fun K hK => ?_); go_simp; refine hK.out _ ?_; clear hK K
  refine St.step (fun K hK => ?_); go_simp; refine hK.out _ ?_; clear hK K
  refine St.step (fun K hK => ?_); go_simp; refine hK.out _ ?_; clear hK K
  refine St.step (fun K hK => ?_); go_simp; refine hK.out _ ?_; clear hK K
  refine St.step (fun K hK => ?_); go_simp; refine ⟨_, (Try.cmp_Compare_int _ _ _), ?_⟩; refine hK.out _ ?_; clear hK K
  refine St.step (fun K hK => ?_); go_simp; refine hK.out _ ?_; clear hK K
  refine St.step (fun K hK => ?_); go_simp; refine hK.out _ ?_; clear hK K
  refine St.step (fun K hK => ?_); go_simp; refine hK.out _ ?_; clear hK K
  refine St.step (fun K hK => ?_); go_simp; refine hK.out _ ?_; clear hK K
  refine St.step (fun K hK => ?_); go_simp; refine ⟨_, (st_of (cmpS_any _ _ _)), ?_⟩; refine hK.out _ ?_; clear hK K
  refine St.nil ?_
  have hb := hb.drew
  generalize W.drew = w2 at *
  go_wp2_with fail
  refine (or_any _ _ _).mono ?_; rintro e w' ⟨rfl, rfl⟩
  rw [HR.out]
  go_wp2_with fail
  go_ret
  exact ⟨rfl, hb.alloc hb.size _⟩

end Go.Proofs.Ytinckidkophobaa
