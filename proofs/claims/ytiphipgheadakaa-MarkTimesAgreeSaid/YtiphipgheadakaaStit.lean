/- Stitched (program). -/
import Derived.Test.YtiphipgheadakaaProg7
import Derived.RegionCalls
namespace Go.Proofs.Ytiphipgheadakaa
set_option linter.unusedVariables false
set_option linter.unusedSimpArgs false
open Go.RowKit

theorem nums_at {w : World} {u : Value} {ps : List Prt} {n k : Nat} {al : Int} (h : NumsC w u (bgL ps (n + 1))) (hk : k < n + 1) (ha : (bgL ps (n + 1)).getD k 0 = al) : ∃ g o c, u = .slice (some ⟨g, o, none⟩) (n + 1) c ∧ g < w.heap.size ∧ w.cell? ⟨g, o + k, none⟩ = some (.int .i64 al) := by
  rcases h with ⟨a', c', hv, h1⟩ | ⟨g, o, c', hv, -, hl, -, -, hc⟩
  · have := congrArg List.length h1; rw [bgL_len] at this; simp at this
  · rw [bgL_len] at hv hc
    exact ⟨g, o, c', hv, hl, by rw [hc k hk, ha]⟩
set_option maxRecDepth 100000 in
set_option maxHeartbeats 16000000 in
theorem Stitched_any (v : Value) (ps : List Prt) (t : Int) (w : World) (hS : Prts w v ps) (hwf : ∀ y ∈ ps, y.ad.size ≤ maxLen) :
    Calls Try.prog 21 #[v, .int .i64 t] w fun e w' => (∃ u, e = .returned (.tuple #[u, .int .i64 (atF ps t)]) ∧ NumsC w' u (stL7 ps t)) ∧ Below w.heap.size w w' := by
  obtain ⟨sa, cap, rfl⟩ := hS.parts
  have HCA := Lib.hid (checkAt_any _ ps t w hS hwf)
  by_cases h0 : atF ps t = 0
  rotate_left
  · have e1 : stL7 ps t = [] := if_neg h0
    rw [e1]
    obtain ⟨F, hF⟩ : ∃ F, atF ps t = F := ⟨_, rfl⟩
    rw [hF] at HCA h0 ⊢
    obtain ⟨n, hn⟩ : ∃ n, ps.length = n := ⟨_, rfl⟩
    rw [hn] at HCA ⊢
    have r0 : (F == 0) = false := by simp; exact h0
    have r1 : (F != 0) = true := by simp; exact h0
    clear hF hn hS hwf h0 e1
    go_enter Try.func21, Try.ntmps21
    go_wp2_with fail
    refine HCA.out.mono ?_; rintro e w1 ⟨rfl, b1⟩
    go_wp2_with fail
    go_ret2
    exact ⟨⟨_, rfl, .inl ⟨_, _, rfl, rfl⟩⟩, b1⟩
  · obtain ⟨g, ht0, ht1⟩ := atF_zero h0
    have e1 : stL7 ps t = stX ps t := if_pos h0
    rw [e1, h0]
    have HPF : Hid (∀ W, Below w.heap.size w W → Calls Try.prog 51 #[.slice sa ps.length cap, .int .i64 t] W fun e w' => e = .returned (.int .i64 (if stK ps t < ps.length then (stK ps t : Int) else -1)) ∧ Below W.heap.size W w') := Lib.hid (fun W hb => placeFrom_any _ ps t W (hS.below hb (Nat.le_refl _)) g)
    have HBG : Hid (∀ W, Below w.heap.size w W → Calls Try.prog 52 #[.slice sa ps.length cap] W fun e w' => (∃ u, e = .returned u ∧ NumsC w' u (bgL ps (ps.length + 1))) ∧ Below W.heap.size W w') := Lib.hid (fun W hb => beginsOf_any _ ps W (hS.below hb (Nat.le_refl _)) g)
    have HS : Hid (∀ W, Below w.heap.size w W → Prts W (.slice sa ps.length cap) ps) := Lib.hid (fun W hb => hS.below hb (Nat.le_refl _))
    have HX : Hid (stX ps t = if stK ps t < ps.length ∧ (ps.getD (stK ps t) prt0).fr ≤ t then [alTo ps (stK ps t) + t - (ps.getD (stK ps t) prt0).fr] else []) := Lib.hid rfl
    rw [h0] at HCA
    have hlen := g.len
    have HG := Lib.hid g
    obtain ⟨k, hk⟩ : ∃ k, stK ps t = k := ⟨_, rfl⟩
    rw [hk] at HPF HX
    obtain ⟨L, hL⟩ : ∃ L, stX ps t = L := ⟨_, rfl⟩
    rw [hL] at HX ⊢
    obtain ⟨n, hn⟩ : ∃ n, ps.length = n := ⟨_, rfl⟩
    have HN := Lib.hid hn
    rw [hn] at HCA HPF HBG HS HX hlen ⊢
    by_cases hkn : k < n
    rotate_left
    · have e2 : L = [] := by rw [HX.out, if_neg (fun h => hkn h.1)]
      rw [if_neg hkn] at HPF
      subst e2
      clear hk hL hn g hS hwf h0 e1 HX hkn
      go_enter Try.func21, Try.ntmps21
      go_wp2_with fail
      refine HCA.out.mono ?_; rintro e w1 ⟨rfl, b1⟩
      go_wp2_with fail
      refine (HPF.out _ b1).mono ?_; rintro e w2 ⟨rfl, b2⟩
      have b2 := b1.trans (b2.mono b1.size)
      go_wp2_with fail
      go_ret2
      exact ⟨⟨_, rfl, .inl ⟨_, _, rfl, rfl⟩⟩, b2⟩
    · rw [if_pos hkn] at HPF
      have hok := g.ok k (by omega)
      have hbd := (g.bd k (by omega)).2
      obtain ⟨x, hx⟩ : ∃ x, ps.getD k prt0 = x := ⟨_, rfl⟩
      have HXK := Lib.hid hx
      rw [hx] at HX hok
      have hfr := hok.fr
      have HAB := Lib.hid (bgL_at ps (n + 1) k (by omega))
      obtain ⟨al, hal⟩ : ∃ al, alTo ps k = al := ⟨_, rfl⟩
      rw [hal] at HX hbd HAB
      have k0 : (0 : Int) ≤ (k : Int) := by omega
      have kI : (k : Int) < (n : Int) := by omega
      have kI2 : (k : Int) < (n : Int) + 1 := by omega
      have w1 : IntKind.i64.wrap (al + t) = al + t := IntWalk.i64_in _ ⟨by omega, by omega⟩
      have w2 : IntKind.i64.wrap (al + t - x.fr) = al + t - x.fr := IntWalk.i64_in _ ⟨by omega, by omega⟩
      by_cases hft : x.fr ≤ t
      rotate_left
      · have e2 : L = [] := by rw [HX.out, if_neg (fun h => hft h.2)]
        have hq : t < x.fr := by omega
        subst e2
        clear hk hL hn g hS hwf h0 e1 HX hx hok hal w1 w2 HBG HAB hft
        go_enter Try.func21, Try.ntmps21
        go_wp2_with fail
        refine HCA.out.mono ?_; rintro e w1 ⟨rfl, b1⟩
        go_wp2_with fail
        refine (HPF.out _ b1).mono ?_; rintro e w2 ⟨rfl, b2⟩
        have b2 := b1.trans (b2.mono b1.size)
        have hSW := HS.out w2 b2
        rw [← HN.out] at hSW
        obtain ⟨b, off, cap', hv, hlt, hcn, hcm⟩ := hSW.spot (by rw [HN.out]; omega)
        simp only [Value.slice.injEq] at hv
        obtain ⟨rfl, -, rfl⟩ := hv
        obtain ⟨-, c1, -⟩ := hSW.cells k (by rw [HN.out]; exact hkn)
        rw [HXK.out] at c1
        clear hSW
        go_wp2_with fail
        go_ret2
        exact ⟨⟨_, rfl, .inl ⟨_, _, rfl, rfl⟩⟩, b2⟩
      · have e2 : L = [al + t - x.fr] := by rw [HX.out, if_pos ⟨hkn, hft⟩]
        have hq : decide (t < x.fr) = false := by simp; omega
        subst e2
        clear hk hL hn g hS hwf h0 e1 HX hx hok hal hft
        go_enter Try.func21, Try.ntmps21
        go_wp2_with fail
        refine HCA.out.mono ?_; rintro e w1 ⟨rfl, b1⟩
        go_wp2_with fail
        refine (HPF.out _ b1).mono ?_; rintro e w2 ⟨rfl, b2⟩
        have b2 := b1.trans (b2.mono b1.size)
        have hSW := HS.out w2 b2
        rw [← HN.out] at hSW
        obtain ⟨b, off, cap', hv, hlt, hcn, hcm⟩ := hSW.spot (by rw [HN.out]; omega)
        simp only [Value.slice.injEq] at hv
        obtain ⟨rfl, -, rfl⟩ := hv
        obtain ⟨-, c1, -⟩ := hSW.cells k (by rw [HN.out]; exact hkn)
        rw [HXK.out] at c1
        clear hSW
        go_upto_region 7 with fail
        go_region_with (go_at_call 52; refine (HBG.out _ b2.drew).mono ?_; rintro e w3 ⟨⟨ub, rfl, hnb⟩, b3⟩; obtain ⟨gb, go', gc, rfl, hgl, hgc⟩ := nums_at hnb (by omega) HAB.out; have c1 := (b3.cell (p := ⟨b, off + k * 3 + 1, none⟩) hlt).trans c1)
        all_goals
          have hb4 := b2.drew.trans (b3.mono b2.drew.size)
          have hfin := NumsC.ofOwn (zs := [al + t - x.fr]) (own_one w3 (al + t - x.fr) 3)
          have hb5 := hb4.alloc (o := .cells #[.int .i64 (al + t - x.fr)] 3) hb4.size
          (try go_simp)
          go_wp2_with fail
          go_ret2
          exact ⟨⟨_, rfl, hfin⟩, hb5⟩

end Go.Proofs.Ytiphipgheadakaa
