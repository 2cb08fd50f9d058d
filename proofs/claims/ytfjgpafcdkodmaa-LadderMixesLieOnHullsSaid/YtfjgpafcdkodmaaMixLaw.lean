/- LadderMixesLieOnHulls: whatever the input, the law returns true: the walk. -/
import Derived.Test.YtfjgpafcdkodmaaMixed
import Derived.Test.YtfjgpafcdkodmaaOnHull
namespace Go.Proofs.Ytfjgpafcdkodmaa
set_option linter.unusedVariables false
set_option linter.unusedSimpArgs false
open Go.RowKit Go.Shelf Go.Deep

set_option maxRecDepth 100000 in
set_option maxHeartbeats 8000000 in
theorem mixes_fault (a : Option Addr) (n cap : Nat) (rs : List Rung) (q : Int) (w : World) (hS : Rungs w (.slice a n cap) rs) (hwf : ∀ y ∈ rs, y.nm.size ≤ maxLen) (h0 : mxF rs q ≠ 0) :
    Calls Try.prog 7 #[.slice a n cap, .int .i64 q] w fun e w' => e = .returned (.bool true) ∧ Below w.heap.size w w' := by
  have HM := Lib.hid (mixed_fault a n cap rs q w hS hwf h0)
  have HH : Hid (∀ W, Below w.heap.size w W → Calls Try.prog 28 #[.slice a n cap] W fun e w' => (∃ v, e = .returned (.tuple #[v, .int .i64 (rgF rs)]) ∧ NumsC w' v (hullL rs)) ∧ Below W.heap.size W w') := Lib.hid (fun W hW => Hull_any _ rs W (hS.below hW (Nat.le_refl _)) hwf)
  obtain ⟨F, hF⟩ : ∃ F, mxF rs q = F := ⟨_, rfl⟩
  obtain ⟨G, hG⟩ : ∃ G, rgF rs = G := ⟨_, rfl⟩
  rw [hF] at HM h0
  rw [hG] at HH
  have hne : (F == 0) = false := by simp; exact h0
  have hne2 : (F != 0) = true := by simp; exact h0
  clear hF hG hS hwf h0
  go_enter Try.func7, Try.ntmps7
  go_wp2_with fail
  refine HM.out.mono ?_; rintro e w1 ⟨rfl, b1⟩
  have b2 := b1.alloc (o := .cells #[.int .i64 0, .int .i64 0] 49) b1.size
  go_upto_region 2 with fail
  generalize w1.alloc (.cells #[.int .i64 0, .int .i64 0] 49) = W at *
  go_wp2_with fail
  refine (HH.out _ b2).mono ?_; rintro e w3 ⟨⟨v, rfl, -⟩, b3⟩
  have b4 := b2.trans (b3.mono b2.size)
  go_wp2_with fail
  refine (awake5_any _).mono ?_; rintro e w5 ⟨rfl, b5⟩
  go_wp2_with fail
  go_ret
  exact ⟨rfl, b4.trans (b5.mono b4.size)⟩
set_option maxRecDepth 100000 in
set_option maxHeartbeats 8000000 in
theorem mixes_ok (a : Option Addr) (n cap : Nat) (rs : List Rung) (q X Y : Int) (B : Bool) (w : World) (hS : Rungs w (.slice a n cap) rs) (hwf : ∀ y ∈ rs, y.nm.size ≤ maxLen) (h0 : rgF rs = 0)
    (HM : Hid (Calls Try.prog 32 #[.slice a n cap, .int .i64 q] w fun e w' => e = .returned (.tuple #[.agg #[.int .i64 X, .int .i64 Y], .bool B, .int .i64 0]) ∧ Below w.heap.size w w'))
    (HO : Hid (∀ W v, Below w.heap.size w W → NumsC W v (hullL rs) → Calls Try.prog 33 #[.slice a n cap, v, .int .i64 q] W fun e w' => e = .returned (.tuple #[.agg #[.int .i64 X, .int .i64 Y], .bool B]) ∧ Below W.heap.size W w')) :
    Calls Try.prog 7 #[.slice a n cap, .int .i64 q] w fun e w' => e = .returned (.bool true) ∧ Below w.heap.size w w' := by
  have HH : Hid (∀ W, Below w.heap.size w W → Calls Try.prog 28 #[.slice a n cap] W fun e w' => (∃ v, e = .returned (.tuple #[v, .int .i64 (rgF rs)]) ∧ NumsC w' v (hullL rs)) ∧ Below W.heap.size W w') := Lib.hid (fun W hW => Hull_any _ rs W (hS.below hW (Nat.le_refl _)) hwf)
  rw [h0] at HH
  have bz : (B == B) = true := by simp
  have xz : (X == X) = true := by simp
  have yz : (Y == Y) = true := by simp
  clear hS hwf h0
  go_enter Try.func7, Try.ntmps7
  go_wp2_with fail
  refine HM.out.mono ?_; rintro e w1 ⟨rfl, b1⟩
  have b2 := b1.alloc (o := .cells #[.int .i64 X, .int .i64 Y] 49) b1.size
  have TX := Two.new w1 X Y 49
  go_upto_region 2 with fail
  generalize w1.alloc (.cells #[.int .i64 X, .int .i64 Y] 49) = W at *
  generalize w1.heap.size = XB at *
  go_wp2_with fail
  refine (HH.out _ b2).mono ?_; rintro e w3 ⟨⟨v, rfl, hv⟩, b3⟩
  have b4 := b2.trans (b3.mono b2.size)
  have TX := TX.below b3 TX.lt
  have HV := Lib.hid hv
  clear hv b3
  go_wp2_with fail
  refine (HO.out _ _ b4 HV.out).mono ?_; rintro e w5 ⟨rfl, b5⟩
  have b6 := b4.trans (b5.mono b4.size)
  have TX := (TX.below b5 TX.lt).alloc (.cells #[.int .i64 X, .int .i64 Y] 49)
  have TY := Two.new w5 X Y 49
  have b7 := b6.alloc (o := .cells #[.int .i64 X, .int .i64 Y] 49) b6.size
  go_upto_region 6 with fail
  generalize w5.alloc (.cells #[.int .i64 X, .int .i64 Y] 49) = W7 at *
  generalize w5.heap.size = YB at *
  have x0 := TX.c0; have x1 := TX.c1; have xl := TX.lt
  have y0 := TY.c0; have y1 := TY.c1; have yl := TY.lt
  go_wp2_with fail
  refine (awake5_any _).mono ?_; rintro e w8 ⟨rfl, b8⟩
  go_wp2_with fail
  go_ret
  exact ⟨rfl, b7.trans (b8.mono b7.size)⟩
theorem mixeslaw (u : Value) (rs : List Rung) (q : Int) (w : World) (hS : Rungs w u rs) (hwf : ∀ y ∈ rs, y.nm.size ≤ maxLen) :
    Calls Try.prog 7 #[u, .int .i64 q] w fun e w' => e = .returned (.bool true) ∧ Below w.heap.size w w' := by
  by_cases h0 : mxF rs q = 0
  · obtain ⟨hr0, hq0⟩ := fst2_zero h0
    rw [fIf_zero (by decide), Bool.not_eq_false', inB_iff] at hq0
    have hok := (rgF_zero rs).1 hr0
    by_cases h1 : rs.length = 0
    · have : rs = [] := List.length_eq_zero_iff.1 h1
      subst this
      obtain ⟨a, cap, rfl⟩ := hS.parts
      refine mixes_ok a 0 cap [] q 0 0 false w hS hwf hr0 (Lib.hid (mixed_none a cap q w h0)) (Lib.hid (fun W v hb hv => ?_))
      rcases hv with ⟨a', c', rfl, -⟩ | ⟨_, _, _, _, hx, _⟩
      · exact onhull_none _ a' c' q W
      · exact absurd (show hullL [] = [] by decide) hx
    · obtain ⟨b, off, cap, rfl, hlt, hl, hm⟩ := hS.spot (by omega)
      have hat := hull_at hok
      have hct := hull_cut hat q
      obtain ⟨X, Y, B, hon⟩ := on_ex rs (hullTo rs rs.length).length q _ hct.le
      refine mixes_ok (some ⟨b, off, none⟩) rs.length cap rs q X Y B w hS hwf hr0 (Lib.hid (mixed_ok b off rs.length cap rs q X Y B w rfl (by omega) hlt hS hwf h0 hon)) (Lib.hid (fun W v hb hv => ?_))
      have hlen : (hullL rs).length = (hullTo rs rs.length).length := by rw [hullL, if_pos hr0, cornI_len]
      have hm0 := hat.some (by omega)
      have hml : (hullTo rs rs.length).length ≤ rs.length := by
        have : ∀ k, (hullTo rs k).length ≤ k := by
          intro k
          induction k with
          | zero => simp [hullTo]
          | succ k ih =>
            rw [hullTo_step rfl rfl]
            split
            · omega
            · have := popTo_len rs (rs.getD k rung0) (hullTo rs k); rw [List.length_cons]; omega
        exact this _
      rcases hv with ⟨_, _, _, hx⟩ | ⟨g, o, cp, rfl, hne, hg, hl', hcm, hcc⟩
      · rw [hx] at hlen; simp at hlen; omega
      · rw [hlen] at hcc ⊢
        refine onhull_walk b off rs.length cap g o _ cp _ rs q X Y B W hat hct hon hm0 (by have := hok.len; omega) hq0.1 hq0.2 (Nat.lt_of_lt_of_le hlt hb.size) hg hok.ok (fun i hi => ?_) (hS.below hb (Nat.le_refl _)) rfl
        have h5 := hcc i hi
        rw [hullL, if_pos hr0, hI_at rs i hi] at h5
        exact h5
  · obtain ⟨a, cap, rfl⟩ := hS.parts
    exact mixes_fault a _ cap rs q w hS hwf h0

end Go.Proofs.Ytfjgpafcdkodmaa
