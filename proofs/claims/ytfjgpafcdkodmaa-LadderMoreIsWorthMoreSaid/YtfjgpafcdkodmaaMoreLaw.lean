/- LadderMoreIsWorthMore: whatever the input, the law returns true: the walk. -/
import Derived.Test.YtfjgpafcdkodmaaMore
import Derived.Deep.AppendLies
import Derived.Deep.Onto
namespace Go.Proofs.Ytfjgpafcdkodmaa
set_option linter.unusedVariables false
set_option linter.unusedSimpArgs false
open Go.RowKit Go.Shelf Go.Deep

theorem mbelow5_any (x n : Int) (w : World) (x0 : -9223372036854775808 ≤ x) (x1 : x ≤ 9223372036854775807) (n0 : 0 < n) (n1 : n ≤ 4611686018427387904) :
    Calls Try.prog 20 #[.int .i64 x, .int .i64 n] w fun e w' => (∃ r, e = .returned (.int .i64 r) ∧ 0 ≤ r ∧ r < n) ∧ w = w' := by
  have hlt := Int.tmod_lt_of_pos x n0
  have hgt : -n < x.tmod n := by
    by_cases h : 0 ≤ x
    · have := Int.tmod_nonneg n h; omega
    · have e : (-x).tmod n = -(x.tmod n) := Int.neg_tmod x n
      have := Int.tmod_lt_of_pos (-x) n0
      omega
  have nz : (n == 0) = false := by simp; omega
  by_cases h0 : x.tmod n < 0
  · go_enter Try.func20, Try.ntmps20
    go_wp2_with fail
    go_ret
    exact ⟨⟨_, rfl, by omega, by omega⟩, rfl⟩
  · have hd : decide (x.tmod n < 0) = false := by simp; omega
    go_enter Try.func20, Try.ntmps20
    go_wp2_with fail
    go_ret
    exact ⟨⟨_, rfl, by omega, by omega⟩, rfl⟩
theorem wf_bound {n : Int} (h : (Lit.int .i64 n).wf = true) : -9223372036854775808 ≤ n ∧ n ≤ 9223372036854775807 := by
  have h1 : IntKind.i64.min = -9223372036854775808 := by decide
  have h2 : IntKind.i64.max = 9223372036854775807 := by decide
  simpa only [Lit.wf, Bool.and_eq_true, decide_eq_true_eq, h1, h2] using h
theorem worthTo_none (vs : List Vw) : ∀ k, worthTo [] vs k = 0
  | 0 => rfl
  | k + 1 => by rw [worthTo, worthTo_none vs k]; rfl
theorem woX_none (vs : List Vw) : woX [] vs = 0 := by
  unfold woX
  split
  · exact worthTo_none vs _
  · rfl
set_option maxRecDepth 100000 in
set_option maxHeartbeats 8000000 in
theorem morelaw (u v : Value) (rs : List Rung) (vs : List Vw) (x : Int) (w : World) (hu : Rungs w u rs) (hv : Vws w v vs) (hwf : ∀ y ∈ rs, y.nm.size ≤ maxLen) (hx : (Lit.int .i64 x).wf = true) :
    Calls Try.prog 4 #[u, v, .int .i64 x] w fun e w' => e = .returned (.bool true) ∧ Below w.heap.size w w' := by
  obtain ⟨x0, x1⟩ := wf_bound hx
  have HW := Lib.hid (worth_any u v rs vs w hu hv hwf)
  by_cases h0 : woF rs vs = 0
  · obtain ⟨hr0, hc0⟩ := fst2_zero h0
    have hok := (rgF_zero rs).1 hr0
    obtain ⟨-, hvo⟩ := cwF_zero hc0
    rw [h0] at HW
    have fz : ((0 : Int) == 0) = true := rfl
    by_cases h1 : rs.length = 0
    · have : rs = [] := List.length_eq_zero_iff.1 h1
      subst this
      rw [woX_none] at HW
      obtain ⟨a, cap, rfl⟩ := hu.parts
      clear hu hv hwf hx hok hvo hr0 hc0 h0 h1
      go_enter Try.func4, Try.ntmps4
      go_wp2_with fail
      refine HW.out.mono ?_; rintro e w1 ⟨rfl, b1⟩
      go_wp2_with fail
      refine (awake5_any _).mono ?_; rintro e w2 ⟨rfl, b2⟩
      go_wp2_with fail
      go_ret
      exact ⟨rfl, b1.trans (b2.mono b1.size)⟩
    · have hn := hok.len
      obtain ⟨b, off, cap, rfl, hlt, hl, hm⟩ := hu.spot (by omega)
      obtain ⟨n, hz⟩ : ∃ n, rs.length = n := ⟨_, rfl⟩
      have HCL : Hid (∀ W, Below w.heap.size w W → Calls Try.prog 22 #[.slice (some ⟨b, off, none⟩) rs.length cap] W fun e w' => (∃ u, e = .returned u ∧ w'.ownsRow W.heap.size 37 4 u rs.length (rcells rs)) ∧ Below W.heap.size W w') := Lib.hid (fun W hb => rclone_any _ rs W (hu.below hb (Nat.le_refl _)) (by omega) hn)
      have HWW : Hid (∀ (k : Nat) W u', Below w.heap.size w W → k < n → Rungs W u' (without rs k) → Calls Try.prog 17 #[u', v] W fun e w' => (∃ m, e = .returned (.tuple #[.int .i64 m, .int .i64 0]) ∧ m ≤ woX rs vs) ∧ Below W.heap.size W w') := Lib.hid (fun k W u' hb hk hR => by
        have hok2 := without_ok (p := k) hok (by omega)
        have e1 : rgF (without rs k) = 0 := (rgF_zero _).2 hok2
        have e2 : woF (without rs k) vs = 0 := by rw [woF, e1, hc0]; rfl
        refine (worth_any u' v (without rs k) vs W hR (hv.below hb (Nat.le_refl _)) (fun y hy => hwf y ?_)).mono ?_
        · unfold without at hy
          rcases List.mem_append.1 hy with hy | hy
          · exact List.mem_of_mem_take hy
          · exact List.mem_of_mem_drop hy
        · rintro e w' ⟨rfl, b'⟩
          refine ⟨⟨woX (without rs k) vs, by rw [e2], ?_⟩, b'⟩
          rw [woX, woX, if_pos e2, if_pos h0]
          exact without_less hok (by omega) hvo)
      have HDL : Hid (∀ (g cp k base : Nat) W, k < n → W.ownsRow base 37 4 (.slice (some ⟨g, 0, none⟩) n cp) n (rcells rs) → Calls Try.prog 21 #[.slice (some ⟨g, 0, none⟩) n cp, .int .i64 (k : Int), .int .i64 ((k : Int) + 1)] W fun e w' => e = .returned (.slice (some ⟨g, 0, none⟩) (n - 1) cp) ∧ Rungs w' (.slice (some ⟨g, 0, none⟩) (n - 1) cp) (without rs k) ∧ Below base W w') := Lib.hid (fun g cp k base W hk ho => rdelete_any g n cp k base rs W hz hk (by omega) ho)
      rw [hz] at HCL HW hn ⊢
      obtain ⟨X, hX⟩ : ∃ X, woX rs vs = X := ⟨_, rfl⟩
      rw [hX] at HW HWW
      have n0 : 0 < n := by omega
      have nz : ((n : Int) == 0) = false := by simp; omega
      clear hu hv hwf hx hok hvo hr0 hc0 h0 h1 hX hz hl
      go_enter Try.func4, Try.ntmps4
      go_wp2_with fail
      refine HW.out.mono ?_; rintro e w1 ⟨rfl, b1⟩
      go_wp2_with fail
      refine (mbelow5_any x n _ x0 x1 (by omega) (by omega)).mono ?_; rintro e w' ⟨⟨r, rfl, r0, r1⟩, rfl⟩
      obtain ⟨k, rfl⟩ := Int.eq_ofNat_of_zero_le r0
      have hkn : k < n := by omega
      have hkI : IntKind.i64.wrap ((k : Int) + 1) = (k : Int) + 1 := IntWalk.i64_in _ ⟨by omega, by omega⟩
      have HDK := Lib.hid (fun g cp base W => HDL.out g cp k base W hkn)
      have HWK := Lib.hid (fun W u' hb => HWW.out k W u' hb hkn)
      clear r0 r1 x0 x1
      go_wp2_with fail
      refine (HCL.out _ b1).mono ?_; rintro e w2 ⟨⟨u2, rfl, hown⟩, b2⟩
      obtain ⟨g, cp, rfl, -, -⟩ := hown.form (by omega)
      have b12 := b1.trans (b2.mono b1.size)
      have hown := hown.mono b1.size
      have HOWN := Lib.hid hown
      clear hown b2
      go_wp2_with fail
      refine (HDK.out g cp w.heap.size _ HOWN.out).mono ?_; rintro e w3 ⟨rfl, hR, b3⟩
      have b13 := b12.trans b3
      have HR := Lib.hid hR
      clear hR
      go_wp2_with fail
      refine (HWK.out _ _ b13 HR.out).mono ?_; rintro e w4 ⟨⟨m, rfl, hmX⟩, b4⟩
      have b14 := b13.trans (b4.mono b13.size)
      go_wp2_with fail
      refine (awake5_any _).mono ?_; rintro e w5 ⟨rfl, b5⟩
      go_wp2_with fail
      go_ret
      exact ⟨rfl, b14.trans (b5.mono b14.size)⟩
  · have e : woX rs vs = 0 := by rw [woX, if_neg h0]
    rw [e] at HW
    obtain ⟨F, hF⟩ : ∃ F, woF rs vs = F := ⟨_, rfl⟩
    rw [hF] at HW h0
    have hne : (F == 0) = false := by simp; exact h0
    have hne2 : (F != 0) = true := by simp; exact h0
    clear hu hv hwf hx h0 hF e
    go_enter Try.func4, Try.ntmps4
    go_wp2_with fail
    refine HW.out.mono ?_; rintro e w1 ⟨rfl, b1⟩
    go_wp2_with fail
    refine (awake5_any _).mono ?_; rintro e w2 ⟨rfl, b2⟩
    go_wp2_with fail
    go_ret
    exact ⟨rfl, b1.trans (b2.mono b1.size)⟩

end Go.Proofs.Ytfjgpafcdkodmaa
