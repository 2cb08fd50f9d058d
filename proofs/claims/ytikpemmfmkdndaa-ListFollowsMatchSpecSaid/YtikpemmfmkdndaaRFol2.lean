/- follows, Follows (reference). -/
import Derived.Test.YtikpemmfmkdndaaFolPlain
import Derived.Test.YtikpemmfmkdndaaRFol
import Derived.Test.YtikpemmfmkdndaaRChkL
namespace Go.Proofs.Ytikpemmfmkdndaa
set_option linter.unusedVariables false
set_option linter.unusedSimpArgs false
open Go.RowKit Go.Shelf Go.Deep

structure TWays (old now : Lst) (R : Int) : Prop where
  a : now.tg ≠ old.tg → R = 6
  b : now.tg = old.tg → old.en = true → sameL old now = false → R = 11
  c : now.tg = old.tg → ¬ (old.en = true ∧ sameL old now = false) → now.fi < old.fi ∨ beh now < beh old → R = 8
  d : now.tg = old.tg → ¬ (old.en = true ∧ sameL old now = false) → ¬ (now.fi < old.fi ∨ beh now < beh old) → R = folT old now
theorem t_ways (old now : Lst) (h1 : lstF old = 0) (h2 : lstF now = 0) : TWays old now (folF old now) := by
  have e : folF old now = if now.tg ≠ old.tg then 6 else if old.en = true ∧ sameL old now = false then 11 else if now.fi < old.fi ∨ beh now < beh old then 8 else folT old now := by
    unfold folF; rw [if_neg (by rw [h1]; decide), if_neg (by rw [h2]; decide)]
  rw [e]
  constructor
  · intro a; rw [if_pos a]
  · intro a b c; rw [if_neg (by simpa using a), if_pos ⟨b, c⟩]
  · intro a b c; rw [if_neg (by simpa using a), if_neg b, if_pos c]
  · intro a b c; rw [if_neg (by simpa using a), if_neg b, if_neg c]
set_option maxRecDepth 100000 in
set_option maxHeartbeats 8000000 in
theorem rfol_walk (tg fi bk : Int) (a : Option Addr) (n cap : Nat) (en : Bool) (es : List Ent) (Us : Nat → Value) (tg' fi' bk' : Int) (a' : Option Addr) (m cap' : Nat) (en' : Bool) (fs : List Ent) (Vs : Nat → Value) (w : World) (hE : EntsU w (.slice a n cap) es Us) (hn : es.length = n) (hF : EntsU w (.slice a' m cap') fs Vs) (hm : fs.length = m) (hok : OkL ⟨tg, fi, bk, es, en⟩) (hok' : OkL ⟨tg', fi', bk', fs, en'⟩) :
    Calls Try.prog 57 #[.agg #[.int .i64 tg, .int .i64 fi, .int .i64 bk, .slice a n cap, .bool en], .agg #[.int .i64 tg', .int .i64 fi', .int .i64 bk', .slice a' m cap', .bool en']] w fun e w' => e = .returned (.int .i64 (folF ⟨tg, fi, bk, es, en⟩ ⟨tg', fi', bk', fs, en'⟩)) ∧ Below w.heap.size w w' := by
  have bX : Below w.heap.size w (w.alloc (.cells #[.int .i64 tg, .int .i64 fi, .int .i64 bk, .slice a n cap, .bool en] 24)) := (Below.refl _ w).alloc (Nat.le_refl _) _
  have b1 : Below w.heap.size w ((w.alloc (.cells #[.int .i64 tg, .int .i64 fi, .int .i64 bk, .slice a n cap, .bool en] 24)).alloc (.cells #[.int .i64 tg', .int .i64 fi', .int .i64 bk', .slice a' m cap', .bool en'] 24)) := bX.alloc bX.size _
  have FX := (LBox.new w tg fi bk (.slice a n cap) en 24).alloc (.cells #[.int .i64 tg', .int .i64 fi', .int .i64 bk', .slice a' m cap', .bool en'] 24)
  have FY := LBox.new (w.alloc (.cells #[.int .i64 tg, .int .i64 fi, .int .i64 bk, .slice a n cap, .bool en] 24)) tg' fi' bk' (.slice a' m cap') en' 24
  have hsz : (w.alloc (.cells #[.int .i64 tg, .int .i64 fi, .int .i64 bk, .slice a n cap, .bool en] 24)).heap.size = w.heap.size + 1 := by simp
  rw [hsz] at FY
  have HSA : Hid (∀ W, Below w.heap.size w W → Calls Try.prog 19 #[.agg #[.int .i64 tg, .int .i64 fi, .int .i64 bk, .slice a n cap, .bool en], .agg #[.int .i64 tg', .int .i64 fi', .int .i64 bk', .slice a' m cap', .bool en']] W fun r w' => r = .returned (.bool (sameL ⟨tg, fi, bk, es, en⟩ ⟨tg', fi', bk', fs, en'⟩)) ∧ Below W.heap.size W w') := Lib.hid (fun W hb => rSameL_any tg fi bk a n cap en es Us tg' fi' bk' a' m cap' en' fs Vs W (hE.below hb (Nat.le_refl _)) hn (hF.below hb (Nat.le_refl _)) hm)
  have hn5 : n ≤ 1000 := by have := hok.len; rw [← hn]; exact this
  have hm5 : m ≤ 1000 := by have := hok'.len; rw [← hm]; exact this
  have HK1 : Hid (∀ (i : Int) (e : Nat) W, Below w.heap.size w W → i = (e : Int) - 1 → e ≤ n → Calls Try.prog 71 #[.agg #[.int .i64 tg, .int .i64 fi, .int .i64 bk, .slice a n cap, .bool en], .int .i64 i] W fun r w' => r = .returned (.int .i64 (bkTo bk es e)) ∧ Below W.heap.size W w') := Lib.hid (fun i e W hb hi he => rbreaks_any tg fi bk a n cap en es Us i e W (hE.below hb (Nat.le_refl _)) hn hn5 hok.bk hi he)
  have HK2 : Hid (∀ (i : Int) (e : Nat) W, Below w.heap.size w W → i = (e : Int) - 1 → e ≤ m → Calls Try.prog 71 #[.agg #[.int .i64 tg', .int .i64 fi', .int .i64 bk', .slice a' m cap', .bool en'], .int .i64 i] W fun r w' => r = .returned (.int .i64 (bkTo bk' fs e)) ∧ Below W.heap.size W w') := Lib.hid (fun i e W hb hi he => rbreaks_any tg' fi' bk' a' m cap' en' fs Vs i e W (hF.below hb (Nat.le_refl _)) hm hm5 hok'.bk hi he)
  have hw := t_ways ⟨tg, fi, bk, es, en⟩ ⟨tg', fi', bk', fs, en'⟩ ((lstF_zero _).2 hok) ((lstF_zero _).2 hok')
  have hbe : beh ⟨tg, fi, bk, es, en⟩ = fi + (n : Int) := by unfold beh; show fi + (es.length : Int) = _; rw [hn]
  have hbe' : beh ⟨tg', fi', bk', fs, en'⟩ = fi' + (m : Int) := by unfold beh; show fi' + (fs.length : Int) = _; rw [hm]
  have hfi0 : 0 ≤ fi := hok.fi.1
  have hfi1 : fi ≤ 999999999999000 := hok.fi.2
  have hfj0 : 0 ≤ fi' := hok'.fi.1
  have hfj1 : fi' ≤ 999999999999000 := hok'.fi.2
  obtain ⟨SM, hSM⟩ : ∃ SM, sameL ⟨tg, fi, bk, es, en⟩ ⟨tg', fi', bk', fs, en'⟩ = SM := ⟨_, rfl⟩
  obtain ⟨R, hR⟩ : ∃ R, folF ⟨tg, fi, bk, es, en⟩ ⟨tg', fi', bk', fs, en'⟩ = R := ⟨_, rfl⟩
  rw [hR] at hw
  rw [hSM] at HSA
  rw [hR]
  have HA : Hid (tg' ≠ tg → R = 6) := Lib.hid hw.a
  have HB : Hid (tg' = tg → en = true → SM = false → R = 11) := Lib.hid (fun a b c => hw.b a b (by rw [hSM]; exact c))
  have HCC : Hid (tg' = tg → ¬ (en = true ∧ SM = false) → fi' < fi ∨ fi' + (m : Int) < fi + (n : Int) → R = 8) := Lib.hid (fun a b c => hw.c a (by rw [hSM]; exact b) (by rw [hbe, hbe']; exact c))
  have HD : Hid (tg' = tg → ¬ (en = true ∧ SM = false) → ¬ (fi' < fi ∨ fi' + (m : Int) < fi + (n : Int)) → R = folT ⟨tg, fi, bk, es, en⟩ ⟨tg', fi', bk', fs, en'⟩) := Lib.hid (fun a b c => hw.d a (by rw [hSM]; exact b) (by rw [hbe, hbe']; exact c))
  have wb1 : IntKind.i64.wrap (fi + (n : Int)) = fi + (n : Int) := IntWalk.i64_in _ ⟨by omega, by omega⟩
  have wb2 : IntKind.i64.wrap (fi' + (m : Int)) = fi' + (m : Int) := IntWalk.i64_in _ ⟨by omega, by omega⟩
  have HN := Lib.hid hn; have HM := Lib.hid hm; have HEN := Lib.hid hE; have HFN := Lib.hid hF
  clear hE hF hn hm hw hbe hbe' hSM hR hsz bX hok hok'
  go_enter Try.func57, Try.ntmps57
  go_upto_region 1 with fail
  generalize (w.alloc (.cells #[.int .i64 tg, .int .i64 fi, .int .i64 bk, .slice a n cap, .bool en] 24)).alloc (.cells #[.int .i64 tg', .int .i64 fi', .int .i64 bk', .slice a' m cap', .bool en'] 24) = W at *
  have k0 := FX.c0; have k1 := FX.c1; have k2 := FX.c2; have k3 := FX.c3; have k4 := FX.c4; have kl := FX.lt
  have l0 := FY.c0; have l1 := FY.c1; have l2 := FY.c2; have l3 := FY.c3; have l4 := FY.c4; have ll := FY.lt
  by_cases htg : tg' = tg
  rotate_left
  · have z1 : (tg' != tg) = true := by simp; exact htg
    have z2 : (tg' == tg) = false := by simp; exact htg
    have z3 : (tg != tg') = true := by simp; exact fun h => htg h.symm
    have z4 : (tg == tg') = false := by simp; exact fun h => htg h.symm
    have e1 := HA.out htg
    subst e1
    clear htg
    go_wp2_with fail
    go_ret
    exact ⟨rfl, b1⟩
  · have HB2 := Lib.hid (HB.out htg); have HC2 := Lib.hid (HCC.out htg); have HD2 := Lib.hid (HD.out htg)
    have z1 : (tg' != tg) = false := by simp; exact htg
    have z2 : (tg' == tg) = true := by simp; exact htg
    clear HA HB HCC HD htg
    go_upto_region 3 with fail
    go_cut [20] (fun s20 wx => s20 = .bool (en && !SM) ∧ Below W.heap.size W wx)
    case first =>
      cases en
      · go_wp2_with fail
        go_meet
        exact ⟨rfl, Below.refl _ _⟩
      · go_wp2_with fail
        refine (HSA.out _ b1).mono ?_; rintro e w3 ⟨rfl, b3⟩
        go_wp2_with fail
        go_meet
        exact ⟨rfl, b3⟩
    case rest =>
      obtain ⟨rfl, bx⟩ := hcut
      have FX := FX.below bx FX.lt
      have FY := FY.below bx FY.lt
      have b1 := b1.trans (bx.mono b1.size)
      clear bx k0 k1 k2 k3 k4 kl l0 l1 l2 l3 l4 ll HSA
      by_cases hsm : en = true ∧ SM = false
      · have e1 := HB2.out hsm.1 hsm.2
        obtain ⟨e2, e3⟩ := hsm
        subst e1 e2 e3
        go_wp2_with fail
        go_ret
        exact ⟨rfl, b1⟩
      · have e0 : (en && !SM) = false := by
          cases hh : en
          · rfl
          · cases hs : SM
            · exact absurd ⟨hh, hs⟩ hsm
            · rfl
        have HC3 := Lib.hid (HC2.out hsm); have HD3 := Lib.hid (HD2.out hsm)
        rw [e0]
        clear hsm e0 HB2 HC2 HD2
        have k1 := FX.c1; have k2 := FX.c2; have k3 := FX.c3; have kl := FX.lt
        have l1 := FY.c1; have l2 := FY.c2; have l3 := FY.c3; have ll := FY.lt
        by_cases hlt8 : fi' < fi
        · have e1 := HC3.out (.inl hlt8)
          have d1 := decide_eq_true hlt8
          subst e1
          clear hlt8
          go_wp2_with fail
          go_ret
          exact ⟨rfl, b1⟩
        · have d1 := decide_eq_false hlt8
          by_cases hbt : fi' + (m : Int) < fi + (n : Int)
          · have e1 := HC3.out (.inr hbt)
            have d2 := decide_eq_true hbt
            subst e1
            clear hlt8 hbt
            go_wp2_with fail
            go_ret
            exact ⟨rfl, b1⟩
          · have d2 := decide_eq_false hbt
            have hRT := HD3.out (by omega)
            obtain ⟨g, hg⟩ : ∃ g : Nat, fi' - fi = (g : Int) := ⟨(fi' - fi).toNat, by omega⟩
            have HG : Hid (gn ⟨tg, fi, bk, es, en⟩ ⟨tg', fi', bk', fs, en'⟩ = g) := Lib.hid (by unfold gn; show (fi' - fi).toNat = g; rw [hg]; simp)
            have HGO : Hid (n ≤ g → R = fIf (decide (bk' < bkTo bk es n)) 8) := Lib.hid (fun h => by
              rw [hRT, folT, if_pos (by rw [HG.out]; show es.length ≤ g; rw [HN.out]; exact h)]
              show (if bk' < bkTo bk es es.length then (8 : Int) else 0) = _
              rw [HN.out]
              unfold fIf
              by_cases h5 : bk' < bkTo bk es n
              · rw [if_pos h5, decide_eq_true h5, if_pos rfl]
              · rw [if_neg h5, decide_eq_false h5, if_neg (by decide)])
            have HGL : Hid (¬ n ≤ g → R = fstF (clL ⟨tg, fi, bk, es, en⟩ ⟨tg', fi', bk', fs, en'⟩ g (n - g))) := Lib.hid (fun h => by
              rw [hRT, folT, HG.out, if_neg (by show ¬ es.length ≤ g; rw [HN.out]; exact h)]
              show fstF (clL ⟨tg, fi, bk, es, en⟩ ⟨tg', fi', bk', fs, en'⟩ g (es.length - g)) = _
              rw [HN.out])
            have hjm : ∀ j, j < n - g → j < m := by intro j hj; omega
            have HJM := Lib.hid hjm
            have HFG : Hid (fi' = fi + (g : Int)) := Lib.hid (by omega)
            have hgb : g ≤ 1000000000000000 := by omega
            obtain ⟨T, hT⟩ : ∃ T, fstF (clL ⟨tg, fi, bk, es, en⟩ ⟨tg', fi', bk', fs, en'⟩ g (n - g)) = T := ⟨_, rfl⟩
            rw [hT] at HGL
            have HT := Lib.hid hT
            clear hRT hg HG hlt8 hbt HC3 HD3 hT hjm
            go_wp2_with fail
            clear k1 k2 k3 kl l1 l2 l3 ll d1 d2 wb1 wb2
            go_loopw [5, 6] (fun v5 v6 wr => ∃ k : Nat, k ≤ n ∧ v6 = .int .i64 k ∧ v5 = .bool (decide (g < k)) ∧ Below wc.heap.size wc wr ∧ Hid (fstF ((clL ⟨tg, fi, bk, es, en⟩ ⟨tg', fi', bk', fs, en'⟩ g (n - g)).drop (k - g)) = T)) (fun _ v6 _ => n - (intOf v6).toNat)
            case atStart => exact ⟨0, Nat.zero_le _, rfl, by simp, Below.refl _ _, Lib.hid (by rw [Nat.zero_sub, List.drop_zero]; exact HT.out)⟩
            case round =>
              obtain ⟨k, hk, rfl, rfl, hbr0, HDR⟩ := hrel
              have FXr := FX.below (hbr0) FX.lt
              have FYr := FY.below (hbr0) FY.lt
              have k0 := FXr.c0; have k1 := FXr.c1; have k2 := FXr.c2; have k3 := FXr.c3; have k4 := FXr.c4; have kl := FXr.lt
              have l0 := FYr.c0; have l1 := FYr.c1; have l2 := FYr.c2; have l3 := FYr.c3; have l4 := FYr.c4; have ll := FYr.lt
              have hbr := b1.trans (hbr0.mono b1.size)
              clear FXr FYr
              by_cases hk2 : k < n
              rotate_left
              · have hkn : k = n := by omega
                have kD : decide ((k : Int) < (n : Int)) = false := by simp; omega
                have kD2 : decide (k < n) = false := by simp; omega
                by_cases hng : n ≤ g
                · have cD : decide (g < k) = false := by simp; omega
                  have e1 := HGO.out hng
                  have n1 : IntKind.i64.wrap ((n : Int) - 1) = (n : Int) - 1 := IntWalk.i64_in _ ⟨by omega, by omega⟩
                  have HKE := Lib.hid (HK1.out ((n : Int) - 1) n)
                  obtain ⟨BO, hBO⟩ : ∃ BO, bkTo bk es n = BO := ⟨_, rfl⟩
                  rw [hBO] at e1 HKE
                  clear hBO hkn hk2 hng HK1 HK2
                  rw [cD]
                  clear cD
                  go_upto_region 18 with fail
                  go_cut [95] (fun s95 wx => s95 = .bool (decide (bk' < BO)) ∧ Below wr.heap.size wr wx)
                  case first =>
                    refine wp_region_noPanic ?_
                    refine wp_region_held_drew (S := fun w' => Below wr.heap.size wr w') (by kernel_rfl) ?hS0 (fun hHeld => ?_)
                    case hS0 => exact (Below.refl _ wr).drew
                    have hS : Below wr.heap.size wr wr.drew := (Below.refl _ wr).drew
                    clear hHeld
                    generalize wr.drew = wd at *
                    refine wpAnyH_take (i := 0) (v := ?_) rfl (by kernel_rfl) (by kernel_rfl) (by kernel_rfl) (fun _ _ _ h => h) (Or.inl ⟨by kernel_rfl, ?hy⟩) (by assumption) ?_
                    case hy => (intro wq hSw; have q0 := (hSw.cell (p := ⟨w.heap.size, 0, none⟩) kl).trans k0; have q1 := (hSw.cell (p := ⟨w.heap.size, 1, none⟩) kl).trans k1; have q2 := (hSw.cell (p := ⟨w.heap.size, 2, none⟩) kl).trans k2; have q3 := (hSw.cell (p := ⟨w.heap.size, 3, none⟩) kl).trans k3; have q4 := (hSw.cell (p := ⟨w.heap.size, 4, none⟩) kl).trans k4; have p0 := (hSw.cell (p := ⟨w.heap.size + 1, 0, none⟩) ll).trans l0; have p1 := (hSw.cell (p := ⟨w.heap.size + 1, 1, none⟩) ll).trans l1; have p2 := (hSw.cell (p := ⟨w.heap.size + 1, 2, none⟩) ll).trans l2; have p3 := (hSw.cell (p := ⟨w.heap.size + 1, 3, none⟩) ll).trans l3; have p4 := (hSw.cell (p := ⟨w.heap.size + 1, 4, none⟩) ll).trans l4; have s1 := Nat.lt_of_lt_of_le kl hSw.size; have s2 := Nat.lt_of_lt_of_le ll hSw.size; go_simp; try (with_reducible rfl))
                    try simp only [Act.put, List.setIfInBounds_toArray, List.set_cons_zero, List.set_cons_succ]
                    refine wpAnyH_take (i := 1) (v := ?_) rfl (by kernel_rfl) (by kernel_rfl) (by kernel_rfl) (fun _ _ _ h => h) (Or.inl ⟨by kernel_rfl, ?hy⟩) (by assumption) ?_
                    case hy => (intro wq hSw; have q0 := (hSw.cell (p := ⟨w.heap.size, 0, none⟩) kl).trans k0; have q1 := (hSw.cell (p := ⟨w.heap.size, 1, none⟩) kl).trans k1; have q2 := (hSw.cell (p := ⟨w.heap.size, 2, none⟩) kl).trans k2; have q3 := (hSw.cell (p := ⟨w.heap.size, 3, none⟩) kl).trans k3; have q4 := (hSw.cell (p := ⟨w.heap.size, 4, none⟩) kl).trans k4; have p0 := (hSw.cell (p := ⟨w.heap.size + 1, 0, none⟩) ll).trans l0; have p1 := (hSw.cell (p := ⟨w.heap.size + 1, 1, none⟩) ll).trans l1; have p2 := (hSw.cell (p := ⟨w.heap.size + 1, 2, none⟩) ll).trans l2; have p3 := (hSw.cell (p := ⟨w.heap.size + 1, 3, none⟩) ll).trans l3; have p4 := (hSw.cell (p := ⟨w.heap.size + 1, 4, none⟩) ll).trans l4; have s1 := Nat.lt_of_lt_of_le kl hSw.size; have s2 := Nat.lt_of_lt_of_le ll hSw.size; go_simp; try (with_reducible rfl))
                    try simp only [Act.put, List.setIfInBounds_toArray, List.set_cons_zero, List.set_cons_succ]
                    refine wpAnyH_take (i := 2) (v := ?_) rfl (by kernel_rfl) (by kernel_rfl) (by kernel_rfl) (fun _ _ _ h => h) (Or.inl ⟨by kernel_rfl, ?hy⟩) (by assumption) ?_
                    case hy => (intro wq hSw; have q0 := (hSw.cell (p := ⟨w.heap.size, 0, none⟩) kl).trans k0; have q1 := (hSw.cell (p := ⟨w.heap.size, 1, none⟩) kl).trans k1; have q2 := (hSw.cell (p := ⟨w.heap.size, 2, none⟩) kl).trans k2; have q3 := (hSw.cell (p := ⟨w.heap.size, 3, none⟩) kl).trans k3; have q4 := (hSw.cell (p := ⟨w.heap.size, 4, none⟩) kl).trans k4; have p0 := (hSw.cell (p := ⟨w.heap.size + 1, 0, none⟩) ll).trans l0; have p1 := (hSw.cell (p := ⟨w.heap.size + 1, 1, none⟩) ll).trans l1; have p2 := (hSw.cell (p := ⟨w.heap.size + 1, 2, none⟩) ll).trans l2; have p3 := (hSw.cell (p := ⟨w.heap.size + 1, 3, none⟩) ll).trans l3; have p4 := (hSw.cell (p := ⟨w.heap.size + 1, 4, none⟩) ll).trans l4; have s1 := Nat.lt_of_lt_of_le kl hSw.size; have s2 := Nat.lt_of_lt_of_le ll hSw.size; go_simp; try (with_reducible rfl))
                    try simp only [Act.put, List.setIfInBounds_toArray, List.set_cons_zero, List.set_cons_succ]
                    refine wpAnyH_take (i := 3) (v := ?_) rfl (by kernel_rfl) (by kernel_rfl) (by kernel_rfl) (fun _ _ _ h => h) (Or.inl ⟨by kernel_rfl, ?hy⟩) (by assumption) ?_
                    case hy => (intro wq hSw; have q0 := (hSw.cell (p := ⟨w.heap.size, 0, none⟩) kl).trans k0; have q1 := (hSw.cell (p := ⟨w.heap.size, 1, none⟩) kl).trans k1; have q2 := (hSw.cell (p := ⟨w.heap.size, 2, none⟩) kl).trans k2; have q3 := (hSw.cell (p := ⟨w.heap.size, 3, none⟩) kl).trans k3; have q4 := (hSw.cell (p := ⟨w.heap.size, 4, none⟩) kl).trans k4; have p0 := (hSw.cell (p := ⟨w.heap.size + 1, 0, none⟩) ll).trans l0; have p1 := (hSw.cell (p := ⟨w.heap.size + 1, 1, none⟩) ll).trans l1; have p2 := (hSw.cell (p := ⟨w.heap.size + 1, 2, none⟩) ll).trans l2; have p3 := (hSw.cell (p := ⟨w.heap.size + 1, 3, none⟩) ll).trans l3; have p4 := (hSw.cell (p := ⟨w.heap.size + 1, 4, none⟩) ll).trans l4; have s1 := Nat.lt_of_lt_of_le kl hSw.size; have s2 := Nat.lt_of_lt_of_le ll hSw.size; go_simp; try (with_reducible rfl))
                    try simp only [Act.put, List.setIfInBounds_toArray, List.set_cons_zero, List.set_cons_succ]
                    refine wpAnyH_take (i := 4) (v := ?_) rfl (by kernel_rfl) (by kernel_rfl) (by kernel_rfl) (fun _ _ _ h => h) (Or.inl ⟨by kernel_rfl, ?hy⟩) (by assumption) ?_
                    case hy => (intro wq hSw; have q0 := (hSw.cell (p := ⟨w.heap.size, 0, none⟩) kl).trans k0; have q1 := (hSw.cell (p := ⟨w.heap.size, 1, none⟩) kl).trans k1; have q2 := (hSw.cell (p := ⟨w.heap.size, 2, none⟩) kl).trans k2; have q3 := (hSw.cell (p := ⟨w.heap.size, 3, none⟩) kl).trans k3; have q4 := (hSw.cell (p := ⟨w.heap.size, 4, none⟩) kl).trans k4; have p0 := (hSw.cell (p := ⟨w.heap.size + 1, 0, none⟩) ll).trans l0; have p1 := (hSw.cell (p := ⟨w.heap.size + 1, 1, none⟩) ll).trans l1; have p2 := (hSw.cell (p := ⟨w.heap.size + 1, 2, none⟩) ll).trans l2; have p3 := (hSw.cell (p := ⟨w.heap.size + 1, 3, none⟩) ll).trans l3; have p4 := (hSw.cell (p := ⟨w.heap.size + 1, 4, none⟩) ll).trans l4; have s1 := Nat.lt_of_lt_of_le kl hSw.size; have s2 := Nat.lt_of_lt_of_le ll hSw.size; go_simp; try (with_reducible rfl))
                    try simp only [Act.put, List.setIfInBounds_toArray, List.set_cons_zero, List.set_cons_succ]
                    refine wpAnyH_take (i := 5) (v := ?_) rfl (by kernel_rfl) (by kernel_rfl) (by kernel_rfl) (fun _ _ _ h => h) (Or.inl ⟨by kernel_rfl, ?hy⟩) (by assumption) ?_
                    case hy => (intro wq hSw; have q0 := (hSw.cell (p := ⟨w.heap.size, 0, none⟩) kl).trans k0; have q1 := (hSw.cell (p := ⟨w.heap.size, 1, none⟩) kl).trans k1; have q2 := (hSw.cell (p := ⟨w.heap.size, 2, none⟩) kl).trans k2; have q3 := (hSw.cell (p := ⟨w.heap.size, 3, none⟩) kl).trans k3; have q4 := (hSw.cell (p := ⟨w.heap.size, 4, none⟩) kl).trans k4; have p0 := (hSw.cell (p := ⟨w.heap.size + 1, 0, none⟩) ll).trans l0; have p1 := (hSw.cell (p := ⟨w.heap.size + 1, 1, none⟩) ll).trans l1; have p2 := (hSw.cell (p := ⟨w.heap.size + 1, 2, none⟩) ll).trans l2; have p3 := (hSw.cell (p := ⟨w.heap.size + 1, 3, none⟩) ll).trans l3; have p4 := (hSw.cell (p := ⟨w.heap.size + 1, 4, none⟩) ll).trans l4; have s1 := Nat.lt_of_lt_of_le kl hSw.size; have s2 := Nat.lt_of_lt_of_le ll hSw.size; go_simp; try (with_reducible rfl))
                    try simp only [Act.put, List.setIfInBounds_toArray, List.set_cons_zero, List.set_cons_succ]
                    refine wpAnyH_take (i := 6) (v := ?_) rfl (by kernel_rfl) (by kernel_rfl) (by kernel_rfl) (fun _ _ _ h => h) (Or.inl ⟨by kernel_rfl, ?hy⟩) (by assumption) ?_
                    case hy => (intro wq hSw; have q0 := (hSw.cell (p := ⟨w.heap.size, 0, none⟩) kl).trans k0; have q1 := (hSw.cell (p := ⟨w.heap.size, 1, none⟩) kl).trans k1; have q2 := (hSw.cell (p := ⟨w.heap.size, 2, none⟩) kl).trans k2; have q3 := (hSw.cell (p := ⟨w.heap.size, 3, none⟩) kl).trans k3; have q4 := (hSw.cell (p := ⟨w.heap.size, 4, none⟩) kl).trans k4; have p0 := (hSw.cell (p := ⟨w.heap.size + 1, 0, none⟩) ll).trans l0; have p1 := (hSw.cell (p := ⟨w.heap.size + 1, 1, none⟩) ll).trans l1; have p2 := (hSw.cell (p := ⟨w.heap.size + 1, 2, none⟩) ll).trans l2; have p3 := (hSw.cell (p := ⟨w.heap.size + 1, 3, none⟩) ll).trans l3; have p4 := (hSw.cell (p := ⟨w.heap.size + 1, 4, none⟩) ll).trans l4; have s1 := Nat.lt_of_lt_of_le kl hSw.size; have s2 := Nat.lt_of_lt_of_le ll hSw.size; go_simp; try (with_reducible rfl))
                    try simp only [Act.put, List.setIfInBounds_toArray, List.set_cons_zero, List.set_cons_succ]
                    refine wpAnyH_take (i := 7) (v := ?_) rfl (by kernel_rfl) (by kernel_rfl) (by kernel_rfl) (fun _ _ _ h => h) (Or.inl ⟨by kernel_rfl, ?hy⟩) (by assumption) ?_
                    case hy => (intro wq hSw; have q0 := (hSw.cell (p := ⟨w.heap.size, 0, none⟩) kl).trans k0; have q1 := (hSw.cell (p := ⟨w.heap.size, 1, none⟩) kl).trans k1; have q2 := (hSw.cell (p := ⟨w.heap.size, 2, none⟩) kl).trans k2; have q3 := (hSw.cell (p := ⟨w.heap.size, 3, none⟩) kl).trans k3; have q4 := (hSw.cell (p := ⟨w.heap.size, 4, none⟩) kl).trans k4; have p0 := (hSw.cell (p := ⟨w.heap.size + 1, 0, none⟩) ll).trans l0; have p1 := (hSw.cell (p := ⟨w.heap.size + 1, 1, none⟩) ll).trans l1; have p2 := (hSw.cell (p := ⟨w.heap.size + 1, 2, none⟩) ll).trans l2; have p3 := (hSw.cell (p := ⟨w.heap.size + 1, 3, none⟩) ll).trans l3; have p4 := (hSw.cell (p := ⟨w.heap.size + 1, 4, none⟩) ll).trans l4; have s1 := Nat.lt_of_lt_of_le kl hSw.size; have s2 := Nat.lt_of_lt_of_le ll hSw.size; go_simp; try (with_reducible rfl))
                    try simp only [Act.put, List.setIfInBounds_toArray, List.set_cons_zero, List.set_cons_succ]
                    refine wpAnyH_take (i := 8) (v := ?_) rfl (by kernel_rfl) (by kernel_rfl) (by kernel_rfl) (fun _ _ _ h => h) (Or.inl ⟨by kernel_rfl, ?hy⟩) (by assumption) ?_
                    case hy => (intro wq hSw; have q0 := (hSw.cell (p := ⟨w.heap.size, 0, none⟩) kl).trans k0; have q1 := (hSw.cell (p := ⟨w.heap.size, 1, none⟩) kl).trans k1; have q2 := (hSw.cell (p := ⟨w.heap.size, 2, none⟩) kl).trans k2; have q3 := (hSw.cell (p := ⟨w.heap.size, 3, none⟩) kl).trans k3; have q4 := (hSw.cell (p := ⟨w.heap.size, 4, none⟩) kl).trans k4; have p0 := (hSw.cell (p := ⟨w.heap.size + 1, 0, none⟩) ll).trans l0; have p1 := (hSw.cell (p := ⟨w.heap.size + 1, 1, none⟩) ll).trans l1; have p2 := (hSw.cell (p := ⟨w.heap.size + 1, 2, none⟩) ll).trans l2; have p3 := (hSw.cell (p := ⟨w.heap.size + 1, 3, none⟩) ll).trans l3; have p4 := (hSw.cell (p := ⟨w.heap.size + 1, 4, none⟩) ll).trans l4; have s1 := Nat.lt_of_lt_of_le kl hSw.size; have s2 := Nat.lt_of_lt_of_le ll hSw.size; go_simp; try (with_reducible rfl))
                    try simp only [Act.put, List.setIfInBounds_toArray, List.set_cons_zero, List.set_cons_succ]
                    refine wpAnyH_take (i := 9) (v := ?_) rfl (by kernel_rfl) (by kernel_rfl) (by kernel_rfl) (fun _ _ _ h => h) (Or.inl ⟨by kernel_rfl, ?hy⟩) (by assumption) ?_
                    case hy => (intro wq hSw; have q0 := (hSw.cell (p := ⟨w.heap.size, 0, none⟩) kl).trans k0; have q1 := (hSw.cell (p := ⟨w.heap.size, 1, none⟩) kl).trans k1; have q2 := (hSw.cell (p := ⟨w.heap.size, 2, none⟩) kl).trans k2; have q3 := (hSw.cell (p := ⟨w.heap.size, 3, none⟩) kl).trans k3; have q4 := (hSw.cell (p := ⟨w.heap.size, 4, none⟩) kl).trans k4; have p0 := (hSw.cell (p := ⟨w.heap.size + 1, 0, none⟩) ll).trans l0; have p1 := (hSw.cell (p := ⟨w.heap.size + 1, 1, none⟩) ll).trans l1; have p2 := (hSw.cell (p := ⟨w.heap.size + 1, 2, none⟩) ll).trans l2; have p3 := (hSw.cell (p := ⟨w.heap.size + 1, 3, none⟩) ll).trans l3; have p4 := (hSw.cell (p := ⟨w.heap.size + 1, 4, none⟩) ll).trans l4; have s1 := Nat.lt_of_lt_of_le kl hSw.size; have s2 := Nat.lt_of_lt_of_le ll hSw.size; go_simp; try (with_reducible rfl))
                    try simp only [Act.put, List.setIfInBounds_toArray, List.set_cons_zero, List.set_cons_succ]
                    refine wpAnyH_ready (rs := [10]) (by kernel_rfl) (by simp) ?_
                    refine AllReadyH.cons rfl (fun K hK => ?_) AllReadyH.nil
                    go_simp
                    refine (HKE.out _ (hbr.trans (hS.mono hbr.size)) rfl (Nat.le_refl _)).mono ?_; rintro e w5 ⟨rfl, b3⟩; have hS : Below wr.heap.size wr w5 := hS.trans (b3.mono hS.size)
                    refine hK.out _ _ hS (fun hHeld => ?_)
                    clear hK K hHeld
                    try simp only [Act.put, List.setIfInBounds_toArray, List.set_cons_zero, List.set_cons_succ]
                    refine wpAnyH_take (i := 11) (v := ?_) rfl (by kernel_rfl) (by kernel_rfl) (by kernel_rfl) (fun _ _ _ h => h) (Or.inl ⟨by kernel_rfl, ?hy⟩) (by assumption) ?_
                    case hy => (intro wq hSw; have q0 := (hSw.cell (p := ⟨w.heap.size, 0, none⟩) kl).trans k0; have q1 := (hSw.cell (p := ⟨w.heap.size, 1, none⟩) kl).trans k1; have q2 := (hSw.cell (p := ⟨w.heap.size, 2, none⟩) kl).trans k2; have q3 := (hSw.cell (p := ⟨w.heap.size, 3, none⟩) kl).trans k3; have q4 := (hSw.cell (p := ⟨w.heap.size, 4, none⟩) kl).trans k4; have p0 := (hSw.cell (p := ⟨w.heap.size + 1, 0, none⟩) ll).trans l0; have p1 := (hSw.cell (p := ⟨w.heap.size + 1, 1, none⟩) ll).trans l1; have p2 := (hSw.cell (p := ⟨w.heap.size + 1, 2, none⟩) ll).trans l2; have p3 := (hSw.cell (p := ⟨w.heap.size + 1, 3, none⟩) ll).trans l3; have p4 := (hSw.cell (p := ⟨w.heap.size + 1, 4, none⟩) ll).trans l4; have s1 := Nat.lt_of_lt_of_le kl hSw.size; have s2 := Nat.lt_of_lt_of_le ll hSw.size; go_simp; try (with_reducible rfl))
                    try simp only [Act.put, List.setIfInBounds_toArray, List.set_cons_zero, List.set_cons_succ]
                    refine wpAnyH_take (i := 12) (v := ?_) rfl (by kernel_rfl) (by kernel_rfl) (by kernel_rfl) (fun _ _ _ h => h) (Or.inl ⟨by kernel_rfl, ?hy⟩) (by assumption) ?_
                    case hy => (intro wq hSw; have q0 := (hSw.cell (p := ⟨w.heap.size, 0, none⟩) kl).trans k0; have q1 := (hSw.cell (p := ⟨w.heap.size, 1, none⟩) kl).trans k1; have q2 := (hSw.cell (p := ⟨w.heap.size, 2, none⟩) kl).trans k2; have q3 := (hSw.cell (p := ⟨w.heap.size, 3, none⟩) kl).trans k3; have q4 := (hSw.cell (p := ⟨w.heap.size, 4, none⟩) kl).trans k4; have p0 := (hSw.cell (p := ⟨w.heap.size + 1, 0, none⟩) ll).trans l0; have p1 := (hSw.cell (p := ⟨w.heap.size + 1, 1, none⟩) ll).trans l1; have p2 := (hSw.cell (p := ⟨w.heap.size + 1, 2, none⟩) ll).trans l2; have p3 := (hSw.cell (p := ⟨w.heap.size + 1, 3, none⟩) ll).trans l3; have p4 := (hSw.cell (p := ⟨w.heap.size + 1, 4, none⟩) ll).trans l4; have s1 := Nat.lt_of_lt_of_le kl hSw.size; have s2 := Nat.lt_of_lt_of_le ll hSw.size; go_simp; try (with_reducible rfl))
                    try simp only [Act.put, List.setIfInBounds_toArray, List.set_cons_zero, List.set_cons_succ]
                    refine wpAnyH_done (by kernel_rfl) ?_ _
                    refine NoPanic.normal ?_
                    try go_simp
                    go_wp2_with fail
                    go_meet
                    exact ⟨rfl, hS⟩
                  case rest =>
                    obtain ⟨rfl, bx⟩ := hcut
                    have hbn := hbr.trans (bx.mono hbr.size)
                    obtain ⟨Q, hQ⟩ : ∃ Q, decide (bk' < BO) = Q := ⟨_, rfl⟩
                    rw [hQ] at e1 ⊢
                    cases Q
                    · have e2 : R = 0 := e1
                      clear e1 hQ HGO HGL HDR
                      subst e2
                      go_wp2_with fail
                      go_ret
                      exact ⟨rfl, hbn⟩
                    · have e2 : R = 8 := e1
                      clear e1 hQ HGO HGL HDR
                      subst e2
                      go_wp2_with fail
                      go_ret
                      exact ⟨rfl, hbn⟩
                · have cD : decide (g < k) = true := by simp; omega
                  have e1 : R = 0 := by
                    rw [HGL.out hng, ← HDR.out, List.drop_of_length_le (by simp [clL]; omega)]; rfl
                  subst e1
                  rw [cD]
                  clear hkn hk2 hng cD HK1 HK2 HGO HGL HDR
                  go_upto_region 18 with fail
                  go_cut [95] (fun s95 wx => s95 = .bool false ∧ Below wr.heap.size wr wx)
                  case first =>
                    refine wp_region_noPanic ?_
                    refine wp_region_held_drew (S := fun w' => Below wr.heap.size wr w') (by kernel_rfl) ?hS0 (fun hHeld => ?_)
                    case hS0 => exact (Below.refl _ wr).drew
                    have hS : Below wr.heap.size wr wr.drew := (Below.refl _ wr).drew
                    clear hHeld
                    generalize wr.drew = wd at *
                    refine wpAnyH_take (i := 0) (v := ?_) rfl (by kernel_rfl) (by kernel_rfl) (by kernel_rfl) (fun _ _ _ h => h) (Or.inl ⟨by kernel_rfl, ?hy⟩) (by assumption) ?_
                    case hy => (intro wq hSw; have q0 := (hSw.cell (p := ⟨w.heap.size, 0, none⟩) kl).trans k0; have q1 := (hSw.cell (p := ⟨w.heap.size, 1, none⟩) kl).trans k1; have q2 := (hSw.cell (p := ⟨w.heap.size, 2, none⟩) kl).trans k2; have q3 := (hSw.cell (p := ⟨w.heap.size, 3, none⟩) kl).trans k3; have q4 := (hSw.cell (p := ⟨w.heap.size, 4, none⟩) kl).trans k4; have p0 := (hSw.cell (p := ⟨w.heap.size + 1, 0, none⟩) ll).trans l0; have p1 := (hSw.cell (p := ⟨w.heap.size + 1, 1, none⟩) ll).trans l1; have p2 := (hSw.cell (p := ⟨w.heap.size + 1, 2, none⟩) ll).trans l2; have p3 := (hSw.cell (p := ⟨w.heap.size + 1, 3, none⟩) ll).trans l3; have p4 := (hSw.cell (p := ⟨w.heap.size + 1, 4, none⟩) ll).trans l4; have s1 := Nat.lt_of_lt_of_le kl hSw.size; have s2 := Nat.lt_of_lt_of_le ll hSw.size; go_simp; try (with_reducible rfl))
                    try simp only [Act.put, List.setIfInBounds_toArray, List.set_cons_zero, List.set_cons_succ]
                    refine wpAnyH_take (i := 1) (v := ?_) rfl (by kernel_rfl) (by kernel_rfl) (by kernel_rfl) (fun _ _ _ h => h) (Or.inl ⟨by kernel_rfl, ?hy⟩) (by assumption) ?_
                    case hy => (intro wq hSw; have q0 := (hSw.cell (p := ⟨w.heap.size, 0, none⟩) kl).trans k0; have q1 := (hSw.cell (p := ⟨w.heap.size, 1, none⟩) kl).trans k1; have q2 := (hSw.cell (p := ⟨w.heap.size, 2, none⟩) kl).trans k2; have q3 := (hSw.cell (p := ⟨w.heap.size, 3, none⟩) kl).trans k3; have q4 := (hSw.cell (p := ⟨w.heap.size, 4, none⟩) kl).trans k4; have p0 := (hSw.cell (p := ⟨w.heap.size + 1, 0, none⟩) ll).trans l0; have p1 := (hSw.cell (p := ⟨w.heap.size + 1, 1, none⟩) ll).trans l1; have p2 := (hSw.cell (p := ⟨w.heap.size + 1, 2, none⟩) ll).trans l2; have p3 := (hSw.cell (p := ⟨w.heap.size + 1, 3, none⟩) ll).trans l3; have p4 := (hSw.cell (p := ⟨w.heap.size + 1, 4, none⟩) ll).trans l4; have s1 := Nat.lt_of_lt_of_le kl hSw.size; have s2 := Nat.lt_of_lt_of_le ll hSw.size; go_simp; try (with_reducible rfl))
                    try simp only [Act.put, List.setIfInBounds_toArray, List.set_cons_zero, List.set_cons_succ]
                    refine wpAnyH_take (i := 2) (v := ?_) rfl (by kernel_rfl) (by kernel_rfl) (by kernel_rfl) (fun _ _ _ h => h) (Or.inl ⟨by kernel_rfl, ?hy⟩) (by assumption) ?_
                    case hy => (intro wq hSw; have q0 := (hSw.cell (p := ⟨w.heap.size, 0, none⟩) kl).trans k0; have q1 := (hSw.cell (p := ⟨w.heap.size, 1, none⟩) kl).trans k1; have q2 := (hSw.cell (p := ⟨w.heap.size, 2, none⟩) kl).trans k2; have q3 := (hSw.cell (p := ⟨w.heap.size, 3, none⟩) kl).trans k3; have q4 := (hSw.cell (p := ⟨w.heap.size, 4, none⟩) kl).trans k4; have p0 := (hSw.cell (p := ⟨w.heap.size + 1, 0, none⟩) ll).trans l0; have p1 := (hSw.cell (p := ⟨w.heap.size + 1, 1, none⟩) ll).trans l1; have p2 := (hSw.cell (p := ⟨w.heap.size + 1, 2, none⟩) ll).trans l2; have p3 := (hSw.cell (p := ⟨w.heap.size + 1, 3, none⟩) ll).trans l3; have p4 := (hSw.cell (p := ⟨w.heap.size + 1, 4, none⟩) ll).trans l4; have s1 := Nat.lt_of_lt_of_le kl hSw.size; have s2 := Nat.lt_of_lt_of_le ll hSw.size; go_simp; try (with_reducible rfl))
                    try simp only [Act.put, List.setIfInBounds_toArray, List.set_cons_zero, List.set_cons_succ]
                    refine wpAnyH_take (i := 3) (v := undef) rfl (by kernel_rfl) (by kernel_rfl) (by kernel_rfl) (fun _ _ _ h => h) (Or.inr ⟨by kernel_rfl, rfl⟩) (by assumption) ?_
                    try simp only [Act.put, List.setIfInBounds_toArray, List.set_cons_zero, List.set_cons_succ]
                    refine wpAnyH_take (i := 4) (v := undef) rfl (by kernel_rfl) (by kernel_rfl) (by kernel_rfl) (fun _ _ _ h => h) (Or.inr ⟨by kernel_rfl, rfl⟩) (by assumption) ?_
                    try simp only [Act.put, List.setIfInBounds_toArray, List.set_cons_zero, List.set_cons_succ]
                    refine wpAnyH_take (i := 5) (v := undef) rfl (by kernel_rfl) (by kernel_rfl) (by kernel_rfl) (fun _ _ _ h => h) (Or.inr ⟨by kernel_rfl, rfl⟩) (by assumption) ?_
                    try simp only [Act.put, List.setIfInBounds_toArray, List.set_cons_zero, List.set_cons_succ]
                    refine wpAnyH_take (i := 6) (v := undef) rfl (by kernel_rfl) (by kernel_rfl) (by kernel_rfl) (fun _ _ _ h => h) (Or.inr ⟨by kernel_rfl, rfl⟩) (by assumption) ?_
                    try simp only [Act.put, List.setIfInBounds_toArray, List.set_cons_zero, List.set_cons_succ]
                    refine wpAnyH_take (i := 7) (v := undef) rfl (by kernel_rfl) (by kernel_rfl) (by kernel_rfl) (fun _ _ _ h => h) (Or.inr ⟨by kernel_rfl, rfl⟩) (by assumption) ?_
                    try simp only [Act.put, List.setIfInBounds_toArray, List.set_cons_zero, List.set_cons_succ]
                    refine wpAnyH_take (i := 8) (v := undef) rfl (by kernel_rfl) (by kernel_rfl) (by kernel_rfl) (fun _ _ _ h => h) (Or.inr ⟨by kernel_rfl, rfl⟩) (by assumption) ?_
                    try simp only [Act.put, List.setIfInBounds_toArray, List.set_cons_zero, List.set_cons_succ]
                    refine wpAnyH_take (i := 9) (v := undef) rfl (by kernel_rfl) (by kernel_rfl) (by kernel_rfl) (fun _ _ _ h => h) (Or.inr ⟨by kernel_rfl, rfl⟩) (by assumption) ?_
                    try simp only [Act.put, List.setIfInBounds_toArray, List.set_cons_zero, List.set_cons_succ]
                    refine wpAnyH_take (i := 10) (v := undef) rfl (by kernel_rfl) (by kernel_rfl) (by kernel_rfl) (fun _ _ _ h => h) (Or.inr ⟨by kernel_rfl, rfl⟩) (by assumption) ?_
                    try simp only [Act.put, List.setIfInBounds_toArray, List.set_cons_zero, List.set_cons_succ]
                    refine wpAnyH_take (i := 11) (v := undef) rfl (by kernel_rfl) (by kernel_rfl) (by kernel_rfl) (fun _ _ _ h => h) (Or.inr ⟨by kernel_rfl, rfl⟩) (by assumption) ?_
                    try simp only [Act.put, List.setIfInBounds_toArray, List.set_cons_zero, List.set_cons_succ]
                    refine wpAnyH_take (i := 12) (v := ?_) rfl (by kernel_rfl) (by kernel_rfl) (by kernel_rfl) (fun _ _ _ h => h) (Or.inl ⟨by kernel_rfl, ?hy⟩) (by assumption) ?_
                    case hy => (intro wq hSw; have q0 := (hSw.cell (p := ⟨w.heap.size, 0, none⟩) kl).trans k0; have q1 := (hSw.cell (p := ⟨w.heap.size, 1, none⟩) kl).trans k1; have q2 := (hSw.cell (p := ⟨w.heap.size, 2, none⟩) kl).trans k2; have q3 := (hSw.cell (p := ⟨w.heap.size, 3, none⟩) kl).trans k3; have q4 := (hSw.cell (p := ⟨w.heap.size, 4, none⟩) kl).trans k4; have p0 := (hSw.cell (p := ⟨w.heap.size + 1, 0, none⟩) ll).trans l0; have p1 := (hSw.cell (p := ⟨w.heap.size + 1, 1, none⟩) ll).trans l1; have p2 := (hSw.cell (p := ⟨w.heap.size + 1, 2, none⟩) ll).trans l2; have p3 := (hSw.cell (p := ⟨w.heap.size + 1, 3, none⟩) ll).trans l3; have p4 := (hSw.cell (p := ⟨w.heap.size + 1, 4, none⟩) ll).trans l4; have s1 := Nat.lt_of_lt_of_le kl hSw.size; have s2 := Nat.lt_of_lt_of_le ll hSw.size; go_simp; try (with_reducible rfl))
                    try simp only [Act.put, List.setIfInBounds_toArray, List.set_cons_zero, List.set_cons_succ]
                    refine wpAnyH_done (by kernel_rfl) ?_ _
                    refine NoPanic.normal ?_
                    try go_simp
                    go_wp2_with fail
                    go_meet
                    exact ⟨rfl, hS⟩
                  case rest =>
                    obtain ⟨rfl, bx⟩ := hcut
                    have hbn := hbr.trans (bx.mono hbr.size)
                    go_wp2_with fail
                    go_ret
                    exact ⟨rfl, hbn⟩
              · have kI : (k : Int) < (n : Int) := by omega
                have hwI : IntKind.i64.wrap ((k : Int) + 1) = (k : Int) + 1 := IntWalk.i64_in _ ⟨by omega, by omega⟩
                have wf1 : IntKind.i64.wrap (fi + (k : Int)) = fi + (k : Int) := IntWalk.i64_in _ ⟨by omega, by omega⟩
                obtain ⟨I, hI⟩ : ∃ I, fi + (k : Int) - fi' = I := ⟨_, rfl⟩
                have wf2 : IntKind.i64.wrap (fi + (k : Int) - fi') = I := by rw [hI]; exact IntWalk.i64_in _ ⟨by omega, by omega⟩
                have wf3 : wrap64 (fi + (k : Int) - fi') = I := by rw [← IntWalk.i64_left]; exact wf2
                by_cases hkg : k < g
                · have iD : decide (I < 0) = true := by have := HFG.out; simp; omega
                  have HN2 : Hid (fstF ((clL ⟨tg, fi, bk, es, en⟩ ⟨tg', fi', bk', fs, en'⟩ g (n - g)).drop (k + 1 - g)) = T) := Lib.hid (by rw [show k + 1 - g = k - g by omega]; exact HDR.out)
                  have cE : decide (g < k) = decide (g < k + 1) := by rw [decide_eq_false (show ¬ g < k by omega), decide_eq_false (show ¬ g < k + 1 by omega)]
                  rw [cE]
                  clear hI hkg cE
                  go_wp2_with fail
                  go_roundw
                  case rel => exact ⟨k + 1, by omega, by go_num, rfl, hbr0, HN2⟩
                  case measure => simp [intOf]; omega
                · obtain ⟨j, hj⟩ : ∃ j, k - g = j := ⟨_, rfl⟩
                  have hIj : I = (j : Int) := by have := HFG.out; omega
                  have hjn : j < n - g := by omega
                  have hjm := HJM.out j hjn
                  subst hIj
                  have iD : decide ((j : Int) < 0) = false := by simp
                  have iD2 : decide ((m : Int) ≤ (j : Int)) = false := by simp; omega
                  have iD3 : decide (m ≤ j) = false := by simp; omega
                  have jI : (j : Int) < (m : Int) := by omega
                  have hst := clL_drop ⟨tg, fi, bk, es, en⟩ ⟨tg', fi', bk', fs, en'⟩ g (n - g) j hjn
                  rw [← hj, HDR.out, hj] at hst
                  have hgj : g + j = k := by omega
                  have hEW := HEN.out.below hbr (Nat.le_refl _)
                  obtain ⟨b, off, cap1, hv, hlt, -, -⟩ := hEW.spot (by rw [HN.out]; omega)
                  simp only [Value.slice.injEq] at hv
                  obtain ⟨rfl, -, rfl⟩ := hv
                  obtain ⟨c0, c1, c2, c3, c4, c5, c6⟩ := hEW.cells k (by rw [HN.out]; exact hk2)
                  have hFW := HFN.out.below hbr (Nat.le_refl _)
                  obtain ⟨b', off', cap2, hv, hlt', -, -⟩ := hFW.spot (by rw [HM.out]; omega)
                  simp only [Value.slice.injEq] at hv
                  obtain ⟨rfl, -, rfl⟩ := hv
                  obtain ⟨f0, f1, f2, f3, f4, f5, f6⟩ := hFW.cells j (by rw [HM.out]; exact hjm)
                  have hsx := hEW.strs k (by rw [HN.out]; exact hk2)
                  have hsy := hFW.strs j (by rw [HM.out]; exact hjm)
                  obtain ⟨x, hx⟩ : ∃ x, es.getD k ent0 = x := ⟨_, rfl⟩
                  obtain ⟨y, hy⟩ : ∃ y, fs.getD j ent0 = y := ⟨_, rfl⟩
                  rw [hx] at hsx c0 c1 c2 c3 c4 c5
                  rw [hy] at hsy f0 f1 f2 f3 f4 f5
                  obtain ⟨ax, cx, hux⟩ := hsx.parts
                  obtain ⟨ay, cy, huy⟩ := hsy.parts
                  rw [hux] at hsx c6
                  rw [huy] at hsy f6
                  obtain ⟨D, hD⟩ : ∃ D, sameE x y = D := ⟨_, rfl⟩
                  obtain ⟨BN, hBN⟩ : ∃ BN, bkTo bk' fs (j + 1) = BN := ⟨_, rfl⟩
                  obtain ⟨BE, hBE⟩ : ∃ BE, bkTo bk es (k + 1) = BE := ⟨_, rfl⟩
                  have hz : clE ⟨tg, fi, bk, es, en⟩ ⟨tg', fi', bk', fs, en'⟩ g j = fstF [fIf (!D) 12, fIf (BN != BE) 3] := by
                    unfold clE
                    show fstF [fIf (!sameE (fs.getD j ent0) (es.getD (g + j) ent0)) 12, fIf (bkTo bk' fs (j + 1) != bkTo bk es (g + j + 1)) 3] = _
                    rw [hgj, hy, hx, sameE_comm, hD, hBN, hBE]
                  rw [hz] at hst
                  have HST := Lib.hid hst
                  have HCA : Hid (∀ W, Below wr.heap.size wr W → Calls Try.prog 33 #[.agg #[.string x.uri, .int .i64 x.mi, .bool x.br, .int .i64 x.da, .string x.key, .bool x.gap, .slice ax x.ex.length cx], .agg #[.string y.uri, .int .i64 y.mi, .bool y.br, .int .i64 y.da, .string y.key, .bool y.gap, .slice ay y.ex.length cy]] W fun e w' => e = .returned (.bool D) ∧ Below W.heap.size W w') := Lib.hid (fun W hb => by rw [← hD]; exact rSameE_any x y _ _ W (hsx.below hb (Nat.le_refl _)) (hsy.below hb (Nat.le_refl _)))
                  have HK1k := Lib.hid (fun W hb => HK1.out (k : Int) (k + 1) W hb (by omega) (by omega))
                  have HK2j := Lib.hid (fun W hb => HK2.out (j : Int) (j + 1) W hb (by omega) (by omega))
                  rw [hBE] at HK1k
                  rw [hBN] at HK2j
                  have hkg1 : decide (g < k + 1) = true := by simp; omega
                  have HNX : Hid (fstF ((clL ⟨tg, fi, bk, es, en⟩ ⟨tg', fi', bk', fs, en'⟩ g (n - g)).drop (j + 1)) = T → fstF ((clL ⟨tg, fi, bk, es, en⟩ ⟨tg', fi', bk', fs, en'⟩ g (n - g)).drop (k + 1 - g)) = T) := Lib.hid (fun h => by rw [show k + 1 - g = j + 1 by omega]; exact h)
                  have HRT := Lib.hid (HGL.out (by omega))
                  clear hst hz hBN hBE hEW hFW hsx hsy hux huy hx hy hD hgj hj hI hkg hjn
                  go_upto_region 14 with fail
                  go_cut [75] (fun s75 wx => s75 = .bool (!D) ∧ Below wr.heap.size wr wx)
                  case first =>
                    refine wp_region_noPanic ?_
                    refine wp_region_held_drew (S := fun w' => Below wr.heap.size wr w') (by kernel_rfl) ?hS0 (fun hHeld => ?_)
                    case hS0 => exact (Below.refl _ wr).drew
                    have hS : Below wr.heap.size wr wr.drew := (Below.refl _ wr).drew
                    clear hHeld
                    generalize wr.drew = wd at *
                    refine wpAnyH_take (i := 0) (v := ?_) rfl (by kernel_rfl) (by kernel_rfl) (by kernel_rfl) (fun _ _ _ h => h) (Or.inl ⟨by kernel_rfl, ?hy⟩) (by assumption) ?_
                    case hy => (intro wq hSw; have q0 := (hSw.cell (p := ⟨w.heap.size, 0, none⟩) kl).trans k0; have q1 := (hSw.cell (p := ⟨w.heap.size, 1, none⟩) kl).trans k1; have q2 := (hSw.cell (p := ⟨w.heap.size, 2, none⟩) kl).trans k2; have q3 := (hSw.cell (p := ⟨w.heap.size, 3, none⟩) kl).trans k3; have q4 := (hSw.cell (p := ⟨w.heap.size, 4, none⟩) kl).trans k4; have p0 := (hSw.cell (p := ⟨w.heap.size + 1, 0, none⟩) ll).trans l0; have p1 := (hSw.cell (p := ⟨w.heap.size + 1, 1, none⟩) ll).trans l1; have p2 := (hSw.cell (p := ⟨w.heap.size + 1, 2, none⟩) ll).trans l2; have p3 := (hSw.cell (p := ⟨w.heap.size + 1, 3, none⟩) ll).trans l3; have p4 := (hSw.cell (p := ⟨w.heap.size + 1, 4, none⟩) ll).trans l4; have s1 := Nat.lt_of_lt_of_le kl hSw.size; have s2 := Nat.lt_of_lt_of_le ll hSw.size; have u0 := (hSw.cell (p := ⟨b, off + k * 7, none⟩) hlt).trans c0; have u1 := (hSw.cell (p := ⟨b, off + k * 7 + 1, none⟩) hlt).trans c1; have u2 := (hSw.cell (p := ⟨b, off + k * 7 + 2, none⟩) hlt).trans c2; have u3 := (hSw.cell (p := ⟨b, off + k * 7 + 3, none⟩) hlt).trans c3; have u4 := (hSw.cell (p := ⟨b, off + k * 7 + 4, none⟩) hlt).trans c4; have u5 := (hSw.cell (p := ⟨b, off + k * 7 + 5, none⟩) hlt).trans c5; have u6 := (hSw.cell (p := ⟨b, off + k * 7 + 6, none⟩) hlt).trans c6; have t0 := (hSw.cell (p := ⟨b', off' + j * 7, none⟩) hlt').trans f0; have t1 := (hSw.cell (p := ⟨b', off' + j * 7 + 1, none⟩) hlt').trans f1; have t2 := (hSw.cell (p := ⟨b', off' + j * 7 + 2, none⟩) hlt').trans f2; have t3 := (hSw.cell (p := ⟨b', off' + j * 7 + 3, none⟩) hlt').trans f3; have t4 := (hSw.cell (p := ⟨b', off' + j * 7 + 4, none⟩) hlt').trans f4; have t5 := (hSw.cell (p := ⟨b', off' + j * 7 + 5, none⟩) hlt').trans f5; have t6 := (hSw.cell (p := ⟨b', off' + j * 7 + 6, none⟩) hlt').trans f6; have s3 := Nat.lt_of_lt_of_le hlt hSw.size; have s4 := Nat.lt_of_lt_of_le hlt' hSw.size; go_simp; try (with_reducible rfl))
                    try simp only [Act.put, List.setIfInBounds_toArray, List.set_cons_zero, List.set_cons_succ]
                    refine wpAnyH_take (i := 1) (v := ?_) rfl (by kernel_rfl) (by kernel_rfl) (by kernel_rfl) (fun _ _ _ h => h) (Or.inl ⟨by kernel_rfl, ?hy⟩) (by assumption) ?_
                    case hy => (intro wq hSw; have q0 := (hSw.cell (p := ⟨w.heap.size, 0, none⟩) kl).trans k0; have q1 := (hSw.cell (p := ⟨w.heap.size, 1, none⟩) kl).trans k1; have q2 := (hSw.cell (p := ⟨w.heap.size, 2, none⟩) kl).trans k2; have q3 := (hSw.cell (p := ⟨w.heap.size, 3, none⟩) kl).trans k3; have q4 := (hSw.cell (p := ⟨w.heap.size, 4, none⟩) kl).trans k4; have p0 := (hSw.cell (p := ⟨w.heap.size + 1, 0, none⟩) ll).trans l0; have p1 := (hSw.cell (p := ⟨w.heap.size + 1, 1, none⟩) ll).trans l1; have p2 := (hSw.cell (p := ⟨w.heap.size + 1, 2, none⟩) ll).trans l2; have p3 := (hSw.cell (p := ⟨w.heap.size + 1, 3, none⟩) ll).trans l3; have p4 := (hSw.cell (p := ⟨w.heap.size + 1, 4, none⟩) ll).trans l4; have s1 := Nat.lt_of_lt_of_le kl hSw.size; have s2 := Nat.lt_of_lt_of_le ll hSw.size; have u0 := (hSw.cell (p := ⟨b, off + k * 7, none⟩) hlt).trans c0; have u1 := (hSw.cell (p := ⟨b, off + k * 7 + 1, none⟩) hlt).trans c1; have u2 := (hSw.cell (p := ⟨b, off + k * 7 + 2, none⟩) hlt).trans c2; have u3 := (hSw.cell (p := ⟨b, off + k * 7 + 3, none⟩) hlt).trans c3; have u4 := (hSw.cell (p := ⟨b, off + k * 7 + 4, none⟩) hlt).trans c4; have u5 := (hSw.cell (p := ⟨b, off + k * 7 + 5, none⟩) hlt).trans c5; have u6 := (hSw.cell (p := ⟨b, off + k * 7 + 6, none⟩) hlt).trans c6; have t0 := (hSw.cell (p := ⟨b', off' + j * 7, none⟩) hlt').trans f0; have t1 := (hSw.cell (p := ⟨b', off' + j * 7 + 1, none⟩) hlt').trans f1; have t2 := (hSw.cell (p := ⟨b', off' + j * 7 + 2, none⟩) hlt').trans f2; have t3 := (hSw.cell (p := ⟨b', off' + j * 7 + 3, none⟩) hlt').trans f3; have t4 := (hSw.cell (p := ⟨b', off' + j * 7 + 4, none⟩) hlt').trans f4; have t5 := (hSw.cell (p := ⟨b', off' + j * 7 + 5, none⟩) hlt').trans f5; have t6 := (hSw.cell (p := ⟨b', off' + j * 7 + 6, none⟩) hlt').trans f6; have s3 := Nat.lt_of_lt_of_le hlt hSw.size; have s4 := Nat.lt_of_lt_of_le hlt' hSw.size; go_simp; try (with_reducible rfl))
                    try simp only [Act.put, List.setIfInBounds_toArray, List.set_cons_zero, List.set_cons_succ]
                    refine wpAnyH_take (i := 2) (v := ?_) rfl (by kernel_rfl) (by kernel_rfl) (by kernel_rfl) (fun _ _ _ h => h) (Or.inl ⟨by kernel_rfl, ?hy⟩) (by assumption) ?_
                    case hy => (intro wq hSw; have q0 := (hSw.cell (p := ⟨w.heap.size, 0, none⟩) kl).trans k0; have q1 := (hSw.cell (p := ⟨w.heap.size, 1, none⟩) kl).trans k1; have q2 := (hSw.cell (p := ⟨w.heap.size, 2, none⟩) kl).trans k2; have q3 := (hSw.cell (p := ⟨w.heap.size, 3, none⟩) kl).trans k3; have q4 := (hSw.cell (p := ⟨w.heap.size, 4, none⟩) kl).trans k4; have p0 := (hSw.cell (p := ⟨w.heap.size + 1, 0, none⟩) ll).trans l0; have p1 := (hSw.cell (p := ⟨w.heap.size + 1, 1, none⟩) ll).trans l1; have p2 := (hSw.cell (p := ⟨w.heap.size + 1, 2, none⟩) ll).trans l2; have p3 := (hSw.cell (p := ⟨w.heap.size + 1, 3, none⟩) ll).trans l3; have p4 := (hSw.cell (p := ⟨w.heap.size + 1, 4, none⟩) ll).trans l4; have s1 := Nat.lt_of_lt_of_le kl hSw.size; have s2 := Nat.lt_of_lt_of_le ll hSw.size; have u0 := (hSw.cell (p := ⟨b, off + k * 7, none⟩) hlt).trans c0; have u1 := (hSw.cell (p := ⟨b, off + k * 7 + 1, none⟩) hlt).trans c1; have u2 := (hSw.cell (p := ⟨b, off + k * 7 + 2, none⟩) hlt).trans c2; have u3 := (hSw.cell (p := ⟨b, off + k * 7 + 3, none⟩) hlt).trans c3; have u4 := (hSw.cell (p := ⟨b, off + k * 7 + 4, none⟩) hlt).trans c4; have u5 := (hSw.cell (p := ⟨b, off + k * 7 + 5, none⟩) hlt).trans c5; have u6 := (hSw.cell (p := ⟨b, off + k * 7 + 6, none⟩) hlt).trans c6; have t0 := (hSw.cell (p := ⟨b', off' + j * 7, none⟩) hlt').trans f0; have t1 := (hSw.cell (p := ⟨b', off' + j * 7 + 1, none⟩) hlt').trans f1; have t2 := (hSw.cell (p := ⟨b', off' + j * 7 + 2, none⟩) hlt').trans f2; have t3 := (hSw.cell (p := ⟨b', off' + j * 7 + 3, none⟩) hlt').trans f3; have t4 := (hSw.cell (p := ⟨b', off' + j * 7 + 4, none⟩) hlt').trans f4; have t5 := (hSw.cell (p := ⟨b', off' + j * 7 + 5, none⟩) hlt').trans f5; have t6 := (hSw.cell (p := ⟨b', off' + j * 7 + 6, none⟩) hlt').trans f6; have s3 := Nat.lt_of_lt_of_le hlt hSw.size; have s4 := Nat.lt_of_lt_of_le hlt' hSw.size; go_simp; try (with_reducible rfl))
                    try simp only [Act.put, List.setIfInBounds_toArray, List.set_cons_zero, List.set_cons_succ]
                    refine wpAnyH_take (i := 3) (v := ?_) rfl (by kernel_rfl) (by kernel_rfl) (by kernel_rfl) (fun _ _ _ h => h) (Or.inl ⟨by kernel_rfl, ?hy⟩) (by assumption) ?_
                    case hy => (intro wq hSw; have q0 := (hSw.cell (p := ⟨w.heap.size, 0, none⟩) kl).trans k0; have q1 := (hSw.cell (p := ⟨w.heap.size, 1, none⟩) kl).trans k1; have q2 := (hSw.cell (p := ⟨w.heap.size, 2, none⟩) kl).trans k2; have q3 := (hSw.cell (p := ⟨w.heap.size, 3, none⟩) kl).trans k3; have q4 := (hSw.cell (p := ⟨w.heap.size, 4, none⟩) kl).trans k4; have p0 := (hSw.cell (p := ⟨w.heap.size + 1, 0, none⟩) ll).trans l0; have p1 := (hSw.cell (p := ⟨w.heap.size + 1, 1, none⟩) ll).trans l1; have p2 := (hSw.cell (p := ⟨w.heap.size + 1, 2, none⟩) ll).trans l2; have p3 := (hSw.cell (p := ⟨w.heap.size + 1, 3, none⟩) ll).trans l3; have p4 := (hSw.cell (p := ⟨w.heap.size + 1, 4, none⟩) ll).trans l4; have s1 := Nat.lt_of_lt_of_le kl hSw.size; have s2 := Nat.lt_of_lt_of_le ll hSw.size; have u0 := (hSw.cell (p := ⟨b, off + k * 7, none⟩) hlt).trans c0; have u1 := (hSw.cell (p := ⟨b, off + k * 7 + 1, none⟩) hlt).trans c1; have u2 := (hSw.cell (p := ⟨b, off + k * 7 + 2, none⟩) hlt).trans c2; have u3 := (hSw.cell (p := ⟨b, off + k * 7 + 3, none⟩) hlt).trans c3; have u4 := (hSw.cell (p := ⟨b, off + k * 7 + 4, none⟩) hlt).trans c4; have u5 := (hSw.cell (p := ⟨b, off + k * 7 + 5, none⟩) hlt).trans c5; have u6 := (hSw.cell (p := ⟨b, off + k * 7 + 6, none⟩) hlt).trans c6; have t0 := (hSw.cell (p := ⟨b', off' + j * 7, none⟩) hlt').trans f0; have t1 := (hSw.cell (p := ⟨b', off' + j * 7 + 1, none⟩) hlt').trans f1; have t2 := (hSw.cell (p := ⟨b', off' + j * 7 + 2, none⟩) hlt').trans f2; have t3 := (hSw.cell (p := ⟨b', off' + j * 7 + 3, none⟩) hlt').trans f3; have t4 := (hSw.cell (p := ⟨b', off' + j * 7 + 4, none⟩) hlt').trans f4; have t5 := (hSw.cell (p := ⟨b', off' + j * 7 + 5, none⟩) hlt').trans f5; have t6 := (hSw.cell (p := ⟨b', off' + j * 7 + 6, none⟩) hlt').trans f6; have s3 := Nat.lt_of_lt_of_le hlt hSw.size; have s4 := Nat.lt_of_lt_of_le hlt' hSw.size; go_simp; try (with_reducible rfl))
                    try simp only [Act.put, List.setIfInBounds_toArray, List.set_cons_zero, List.set_cons_succ]
                    refine wpAnyH_take (i := 4) (v := ?_) rfl (by kernel_rfl) (by kernel_rfl) (by kernel_rfl) (fun _ _ _ h => h) (Or.inl ⟨by kernel_rfl, ?hy⟩) (by assumption) ?_
                    case hy => (intro wq hSw; have q0 := (hSw.cell (p := ⟨w.heap.size, 0, none⟩) kl).trans k0; have q1 := (hSw.cell (p := ⟨w.heap.size, 1, none⟩) kl).trans k1; have q2 := (hSw.cell (p := ⟨w.heap.size, 2, none⟩) kl).trans k2; have q3 := (hSw.cell (p := ⟨w.heap.size, 3, none⟩) kl).trans k3; have q4 := (hSw.cell (p := ⟨w.heap.size, 4, none⟩) kl).trans k4; have p0 := (hSw.cell (p := ⟨w.heap.size + 1, 0, none⟩) ll).trans l0; have p1 := (hSw.cell (p := ⟨w.heap.size + 1, 1, none⟩) ll).trans l1; have p2 := (hSw.cell (p := ⟨w.heap.size + 1, 2, none⟩) ll).trans l2; have p3 := (hSw.cell (p := ⟨w.heap.size + 1, 3, none⟩) ll).trans l3; have p4 := (hSw.cell (p := ⟨w.heap.size + 1, 4, none⟩) ll).trans l4; have s1 := Nat.lt_of_lt_of_le kl hSw.size; have s2 := Nat.lt_of_lt_of_le ll hSw.size; have u0 := (hSw.cell (p := ⟨b, off + k * 7, none⟩) hlt).trans c0; have u1 := (hSw.cell (p := ⟨b, off + k * 7 + 1, none⟩) hlt).trans c1; have u2 := (hSw.cell (p := ⟨b, off + k * 7 + 2, none⟩) hlt).trans c2; have u3 := (hSw.cell (p := ⟨b, off + k * 7 + 3, none⟩) hlt).trans c3; have u4 := (hSw.cell (p := ⟨b, off + k * 7 + 4, none⟩) hlt).trans c4; have u5 := (hSw.cell (p := ⟨b, off + k * 7 + 5, none⟩) hlt).trans c5; have u6 := (hSw.cell (p := ⟨b, off + k * 7 + 6, none⟩) hlt).trans c6; have t0 := (hSw.cell (p := ⟨b', off' + j * 7, none⟩) hlt').trans f0; have t1 := (hSw.cell (p := ⟨b', off' + j * 7 + 1, none⟩) hlt').trans f1; have t2 := (hSw.cell (p := ⟨b', off' + j * 7 + 2, none⟩) hlt').trans f2; have t3 := (hSw.cell (p := ⟨b', off' + j * 7 + 3, none⟩) hlt').trans f3; have t4 := (hSw.cell (p := ⟨b', off' + j * 7 + 4, none⟩) hlt').trans f4; have t5 := (hSw.cell (p := ⟨b', off' + j * 7 + 5, none⟩) hlt').trans f5; have t6 := (hSw.cell (p := ⟨b', off' + j * 7 + 6, none⟩) hlt').trans f6; have s3 := Nat.lt_of_lt_of_le hlt hSw.size; have s4 := Nat.lt_of_lt_of_le hlt' hSw.size; go_simp; try (with_reducible rfl))
                    try simp only [Act.put, List.setIfInBounds_toArray, List.set_cons_zero, List.set_cons_succ]
                    refine wpAnyH_take (i := 5) (v := ?_) rfl (by kernel_rfl) (by kernel_rfl) (by kernel_rfl) (fun _ _ _ h => h) (Or.inl ⟨by kernel_rfl, ?hy⟩) (by assumption) ?_
                    case hy => (intro wq hSw; have q0 := (hSw.cell (p := ⟨w.heap.size, 0, none⟩) kl).trans k0; have q1 := (hSw.cell (p := ⟨w.heap.size, 1, none⟩) kl).trans k1; have q2 := (hSw.cell (p := ⟨w.heap.size, 2, none⟩) kl).trans k2; have q3 := (hSw.cell (p := ⟨w.heap.size, 3, none⟩) kl).trans k3; have q4 := (hSw.cell (p := ⟨w.heap.size, 4, none⟩) kl).trans k4; have p0 := (hSw.cell (p := ⟨w.heap.size + 1, 0, none⟩) ll).trans l0; have p1 := (hSw.cell (p := ⟨w.heap.size + 1, 1, none⟩) ll).trans l1; have p2 := (hSw.cell (p := ⟨w.heap.size + 1, 2, none⟩) ll).trans l2; have p3 := (hSw.cell (p := ⟨w.heap.size + 1, 3, none⟩) ll).trans l3; have p4 := (hSw.cell (p := ⟨w.heap.size + 1, 4, none⟩) ll).trans l4; have s1 := Nat.lt_of_lt_of_le kl hSw.size; have s2 := Nat.lt_of_lt_of_le ll hSw.size; have u0 := (hSw.cell (p := ⟨b, off + k * 7, none⟩) hlt).trans c0; have u1 := (hSw.cell (p := ⟨b, off + k * 7 + 1, none⟩) hlt).trans c1; have u2 := (hSw.cell (p := ⟨b, off + k * 7 + 2, none⟩) hlt).trans c2; have u3 := (hSw.cell (p := ⟨b, off + k * 7 + 3, none⟩) hlt).trans c3; have u4 := (hSw.cell (p := ⟨b, off + k * 7 + 4, none⟩) hlt).trans c4; have u5 := (hSw.cell (p := ⟨b, off + k * 7 + 5, none⟩) hlt).trans c5; have u6 := (hSw.cell (p := ⟨b, off + k * 7 + 6, none⟩) hlt).trans c6; have t0 := (hSw.cell (p := ⟨b', off' + j * 7, none⟩) hlt').trans f0; have t1 := (hSw.cell (p := ⟨b', off' + j * 7 + 1, none⟩) hlt').trans f1; have t2 := (hSw.cell (p := ⟨b', off' + j * 7 + 2, none⟩) hlt').trans f2; have t3 := (hSw.cell (p := ⟨b', off' + j * 7 + 3, none⟩) hlt').trans f3; have t4 := (hSw.cell (p := ⟨b', off' + j * 7 + 4, none⟩) hlt').trans f4; have t5 := (hSw.cell (p := ⟨b', off' + j * 7 + 5, none⟩) hlt').trans f5; have t6 := (hSw.cell (p := ⟨b', off' + j * 7 + 6, none⟩) hlt').trans f6; have s3 := Nat.lt_of_lt_of_le hlt hSw.size; have s4 := Nat.lt_of_lt_of_le hlt' hSw.size; go_simp; try (with_reducible rfl))
                    try simp only [Act.put, List.setIfInBounds_toArray, List.set_cons_zero, List.set_cons_succ]
                    refine wpAnyH_take (i := 6) (v := ?_) rfl (by kernel_rfl) (by kernel_rfl) (by kernel_rfl) (fun _ _ _ h => h) (Or.inl ⟨by kernel_rfl, ?hy⟩) (by assumption) ?_
                    case hy => (intro wq hSw; have q0 := (hSw.cell (p := ⟨w.heap.size, 0, none⟩) kl).trans k0; have q1 := (hSw.cell (p := ⟨w.heap.size, 1, none⟩) kl).trans k1; have q2 := (hSw.cell (p := ⟨w.heap.size, 2, none⟩) kl).trans k2; have q3 := (hSw.cell (p := ⟨w.heap.size, 3, none⟩) kl).trans k3; have q4 := (hSw.cell (p := ⟨w.heap.size, 4, none⟩) kl).trans k4; have p0 := (hSw.cell (p := ⟨w.heap.size + 1, 0, none⟩) ll).trans l0; have p1 := (hSw.cell (p := ⟨w.heap.size + 1, 1, none⟩) ll).trans l1; have p2 := (hSw.cell (p := ⟨w.heap.size + 1, 2, none⟩) ll).trans l2; have p3 := (hSw.cell (p := ⟨w.heap.size + 1, 3, none⟩) ll).trans l3; have p4 := (hSw.cell (p := ⟨w.heap.size + 1, 4, none⟩) ll).trans l4; have s1 := Nat.lt_of_lt_of_le kl hSw.size; have s2 := Nat.lt_of_lt_of_le ll hSw.size; have u0 := (hSw.cell (p := ⟨b, off + k * 7, none⟩) hlt).trans c0; have u1 := (hSw.cell (p := ⟨b, off + k * 7 + 1, none⟩) hlt).trans c1; have u2 := (hSw.cell (p := ⟨b, off + k * 7 + 2, none⟩) hlt).trans c2; have u3 := (hSw.cell (p := ⟨b, off + k * 7 + 3, none⟩) hlt).trans c3; have u4 := (hSw.cell (p := ⟨b, off + k * 7 + 4, none⟩) hlt).trans c4; have u5 := (hSw.cell (p := ⟨b, off + k * 7 + 5, none⟩) hlt).trans c5; have u6 := (hSw.cell (p := ⟨b, off + k * 7 + 6, none⟩) hlt).trans c6; have t0 := (hSw.cell (p := ⟨b', off' + j * 7, none⟩) hlt').trans f0; have t1 := (hSw.cell (p := ⟨b', off' + j * 7 + 1, none⟩) hlt').trans f1; have t2 := (hSw.cell (p := ⟨b', off' + j * 7 + 2, none⟩) hlt').trans f2; have t3 := (hSw.cell (p := ⟨b', off' + j * 7 + 3, none⟩) hlt').trans f3; have t4 := (hSw.cell (p := ⟨b', off' + j * 7 + 4, none⟩) hlt').trans f4; have t5 := (hSw.cell (p := ⟨b', off' + j * 7 + 5, none⟩) hlt').trans f5; have t6 := (hSw.cell (p := ⟨b', off' + j * 7 + 6, none⟩) hlt').trans f6; have s3 := Nat.lt_of_lt_of_le hlt hSw.size; have s4 := Nat.lt_of_lt_of_le hlt' hSw.size; go_simp; try (with_reducible rfl))
                    try simp only [Act.put, List.setIfInBounds_toArray, List.set_cons_zero, List.set_cons_succ]
                    refine wpAnyH_take (i := 7) (v := ?_) rfl (by kernel_rfl) (by kernel_rfl) (by kernel_rfl) (fun _ _ _ h => h) (Or.inl ⟨by kernel_rfl, ?hy⟩) (by assumption) ?_
                    case hy => (intro wq hSw; have q0 := (hSw.cell (p := ⟨w.heap.size, 0, none⟩) kl).trans k0; have q1 := (hSw.cell (p := ⟨w.heap.size, 1, none⟩) kl).trans k1; have q2 := (hSw.cell (p := ⟨w.heap.size, 2, none⟩) kl).trans k2; have q3 := (hSw.cell (p := ⟨w.heap.size, 3, none⟩) kl).trans k3; have q4 := (hSw.cell (p := ⟨w.heap.size, 4, none⟩) kl).trans k4; have p0 := (hSw.cell (p := ⟨w.heap.size + 1, 0, none⟩) ll).trans l0; have p1 := (hSw.cell (p := ⟨w.heap.size + 1, 1, none⟩) ll).trans l1; have p2 := (hSw.cell (p := ⟨w.heap.size + 1, 2, none⟩) ll).trans l2; have p3 := (hSw.cell (p := ⟨w.heap.size + 1, 3, none⟩) ll).trans l3; have p4 := (hSw.cell (p := ⟨w.heap.size + 1, 4, none⟩) ll).trans l4; have s1 := Nat.lt_of_lt_of_le kl hSw.size; have s2 := Nat.lt_of_lt_of_le ll hSw.size; have u0 := (hSw.cell (p := ⟨b, off + k * 7, none⟩) hlt).trans c0; have u1 := (hSw.cell (p := ⟨b, off + k * 7 + 1, none⟩) hlt).trans c1; have u2 := (hSw.cell (p := ⟨b, off + k * 7 + 2, none⟩) hlt).trans c2; have u3 := (hSw.cell (p := ⟨b, off + k * 7 + 3, none⟩) hlt).trans c3; have u4 := (hSw.cell (p := ⟨b, off + k * 7 + 4, none⟩) hlt).trans c4; have u5 := (hSw.cell (p := ⟨b, off + k * 7 + 5, none⟩) hlt).trans c5; have u6 := (hSw.cell (p := ⟨b, off + k * 7 + 6, none⟩) hlt).trans c6; have t0 := (hSw.cell (p := ⟨b', off' + j * 7, none⟩) hlt').trans f0; have t1 := (hSw.cell (p := ⟨b', off' + j * 7 + 1, none⟩) hlt').trans f1; have t2 := (hSw.cell (p := ⟨b', off' + j * 7 + 2, none⟩) hlt').trans f2; have t3 := (hSw.cell (p := ⟨b', off' + j * 7 + 3, none⟩) hlt').trans f3; have t4 := (hSw.cell (p := ⟨b', off' + j * 7 + 4, none⟩) hlt').trans f4; have t5 := (hSw.cell (p := ⟨b', off' + j * 7 + 5, none⟩) hlt').trans f5; have t6 := (hSw.cell (p := ⟨b', off' + j * 7 + 6, none⟩) hlt').trans f6; have s3 := Nat.lt_of_lt_of_le hlt hSw.size; have s4 := Nat.lt_of_lt_of_le hlt' hSw.size; go_simp; try (with_reducible rfl))
                    try simp only [Act.put, List.setIfInBounds_toArray, List.set_cons_zero, List.set_cons_succ]
                    refine wpAnyH_take (i := 8) (v := ?_) rfl (by kernel_rfl) (by kernel_rfl) (by kernel_rfl) (fun _ _ _ h => h) (Or.inl ⟨by kernel_rfl, ?hy⟩) (by assumption) ?_
                    case hy => (intro wq hSw; have q0 := (hSw.cell (p := ⟨w.heap.size, 0, none⟩) kl).trans k0; have q1 := (hSw.cell (p := ⟨w.heap.size, 1, none⟩) kl).trans k1; have q2 := (hSw.cell (p := ⟨w.heap.size, 2, none⟩) kl).trans k2; have q3 := (hSw.cell (p := ⟨w.heap.size, 3, none⟩) kl).trans k3; have q4 := (hSw.cell (p := ⟨w.heap.size, 4, none⟩) kl).trans k4; have p0 := (hSw.cell (p := ⟨w.heap.size + 1, 0, none⟩) ll).trans l0; have p1 := (hSw.cell (p := ⟨w.heap.size + 1, 1, none⟩) ll).trans l1; have p2 := (hSw.cell (p := ⟨w.heap.size + 1, 2, none⟩) ll).trans l2; have p3 := (hSw.cell (p := ⟨w.heap.size + 1, 3, none⟩) ll).trans l3; have p4 := (hSw.cell (p := ⟨w.heap.size + 1, 4, none⟩) ll).trans l4; have s1 := Nat.lt_of_lt_of_le kl hSw.size; have s2 := Nat.lt_of_lt_of_le ll hSw.size; have u0 := (hSw.cell (p := ⟨b, off + k * 7, none⟩) hlt).trans c0; have u1 := (hSw.cell (p := ⟨b, off + k * 7 + 1, none⟩) hlt).trans c1; have u2 := (hSw.cell (p := ⟨b, off + k * 7 + 2, none⟩) hlt).trans c2; have u3 := (hSw.cell (p := ⟨b, off + k * 7 + 3, none⟩) hlt).trans c3; have u4 := (hSw.cell (p := ⟨b, off + k * 7 + 4, none⟩) hlt).trans c4; have u5 := (hSw.cell (p := ⟨b, off + k * 7 + 5, none⟩) hlt).trans c5; have u6 := (hSw.cell (p := ⟨b, off + k * 7 + 6, none⟩) hlt).trans c6; have t0 := (hSw.cell (p := ⟨b', off' + j * 7, none⟩) hlt').trans f0; have t1 := (hSw.cell (p := ⟨b', off' + j * 7 + 1, none⟩) hlt').trans f1; have t2 := (hSw.cell (p := ⟨b', off' + j * 7 + 2, none⟩) hlt').trans f2; have t3 := (hSw.cell (p := ⟨b', off' + j * 7 + 3, none⟩) hlt').trans f3; have t4 := (hSw.cell (p := ⟨b', off' + j * 7 + 4, none⟩) hlt').trans f4; have t5 := (hSw.cell (p := ⟨b', off' + j * 7 + 5, none⟩) hlt').trans f5; have t6 := (hSw.cell (p := ⟨b', off' + j * 7 + 6, none⟩) hlt').trans f6; have s3 := Nat.lt_of_lt_of_le hlt hSw.size; have s4 := Nat.lt_of_lt_of_le hlt' hSw.size; go_simp; try (with_reducible rfl))
                    try simp only [Act.put, List.setIfInBounds_toArray, List.set_cons_zero, List.set_cons_succ]
                    refine wpAnyH_take (i := 9) (v := ?_) rfl (by kernel_rfl) (by kernel_rfl) (by kernel_rfl) (fun _ _ _ h => h) (Or.inl ⟨by kernel_rfl, ?hy⟩) (by assumption) ?_
                    case hy => (intro wq hSw; have q0 := (hSw.cell (p := ⟨w.heap.size, 0, none⟩) kl).trans k0; have q1 := (hSw.cell (p := ⟨w.heap.size, 1, none⟩) kl).trans k1; have q2 := (hSw.cell (p := ⟨w.heap.size, 2, none⟩) kl).trans k2; have q3 := (hSw.cell (p := ⟨w.heap.size, 3, none⟩) kl).trans k3; have q4 := (hSw.cell (p := ⟨w.heap.size, 4, none⟩) kl).trans k4; have p0 := (hSw.cell (p := ⟨w.heap.size + 1, 0, none⟩) ll).trans l0; have p1 := (hSw.cell (p := ⟨w.heap.size + 1, 1, none⟩) ll).trans l1; have p2 := (hSw.cell (p := ⟨w.heap.size + 1, 2, none⟩) ll).trans l2; have p3 := (hSw.cell (p := ⟨w.heap.size + 1, 3, none⟩) ll).trans l3; have p4 := (hSw.cell (p := ⟨w.heap.size + 1, 4, none⟩) ll).trans l4; have s1 := Nat.lt_of_lt_of_le kl hSw.size; have s2 := Nat.lt_of_lt_of_le ll hSw.size; have u0 := (hSw.cell (p := ⟨b, off + k * 7, none⟩) hlt).trans c0; have u1 := (hSw.cell (p := ⟨b, off + k * 7 + 1, none⟩) hlt).trans c1; have u2 := (hSw.cell (p := ⟨b, off + k * 7 + 2, none⟩) hlt).trans c2; have u3 := (hSw.cell (p := ⟨b, off + k * 7 + 3, none⟩) hlt).trans c3; have u4 := (hSw.cell (p := ⟨b, off + k * 7 + 4, none⟩) hlt).trans c4; have u5 := (hSw.cell (p := ⟨b, off + k * 7 + 5, none⟩) hlt).trans c5; have u6 := (hSw.cell (p := ⟨b, off + k * 7 + 6, none⟩) hlt).trans c6; have t0 := (hSw.cell (p := ⟨b', off' + j * 7, none⟩) hlt').trans f0; have t1 := (hSw.cell (p := ⟨b', off' + j * 7 + 1, none⟩) hlt').trans f1; have t2 := (hSw.cell (p := ⟨b', off' + j * 7 + 2, none⟩) hlt').trans f2; have t3 := (hSw.cell (p := ⟨b', off' + j * 7 + 3, none⟩) hlt').trans f3; have t4 := (hSw.cell (p := ⟨b', off' + j * 7 + 4, none⟩) hlt').trans f4; have t5 := (hSw.cell (p := ⟨b', off' + j * 7 + 5, none⟩) hlt').trans f5; have t6 := (hSw.cell (p := ⟨b', off' + j * 7 + 6, none⟩) hlt').trans f6; have s3 := Nat.lt_of_lt_of_le hlt hSw.size; have s4 := Nat.lt_of_lt_of_le hlt' hSw.size; go_simp; try (with_reducible rfl))
                    try simp only [Act.put, List.setIfInBounds_toArray, List.set_cons_zero, List.set_cons_succ]
                    refine wpAnyH_ready (rs := [10]) (by kernel_rfl) (by simp) ?_
                    refine AllReadyH.cons rfl (fun K hK => ?_) AllReadyH.nil
                    go_simp
                    refine (HCA.out _ hS).mono ?_; rintro e w5 ⟨rfl, b3⟩; have hS : Below wr.heap.size wr w5 := hS.trans (b3.mono hS.size)
                    refine hK.out _ _ hS (fun hHeld => ?_)
                    clear hK K hHeld
                    try simp only [Act.put, List.setIfInBounds_toArray, List.set_cons_zero, List.set_cons_succ]
                    refine wpAnyH_take (i := 11) (v := ?_) rfl (by kernel_rfl) (by kernel_rfl) (by kernel_rfl) (fun _ _ _ h => h) (Or.inl ⟨by kernel_rfl, ?hy⟩) (by assumption) ?_
                    case hy => (intro wq hSw; have q0 := (hSw.cell (p := ⟨w.heap.size, 0, none⟩) kl).trans k0; have q1 := (hSw.cell (p := ⟨w.heap.size, 1, none⟩) kl).trans k1; have q2 := (hSw.cell (p := ⟨w.heap.size, 2, none⟩) kl).trans k2; have q3 := (hSw.cell (p := ⟨w.heap.size, 3, none⟩) kl).trans k3; have q4 := (hSw.cell (p := ⟨w.heap.size, 4, none⟩) kl).trans k4; have p0 := (hSw.cell (p := ⟨w.heap.size + 1, 0, none⟩) ll).trans l0; have p1 := (hSw.cell (p := ⟨w.heap.size + 1, 1, none⟩) ll).trans l1; have p2 := (hSw.cell (p := ⟨w.heap.size + 1, 2, none⟩) ll).trans l2; have p3 := (hSw.cell (p := ⟨w.heap.size + 1, 3, none⟩) ll).trans l3; have p4 := (hSw.cell (p := ⟨w.heap.size + 1, 4, none⟩) ll).trans l4; have s1 := Nat.lt_of_lt_of_le kl hSw.size; have s2 := Nat.lt_of_lt_of_le ll hSw.size; have u0 := (hSw.cell (p := ⟨b, off + k * 7, none⟩) hlt).trans c0; have u1 := (hSw.cell (p := ⟨b, off + k * 7 + 1, none⟩) hlt).trans c1; have u2 := (hSw.cell (p := ⟨b, off + k * 7 + 2, none⟩) hlt).trans c2; have u3 := (hSw.cell (p := ⟨b, off + k * 7 + 3, none⟩) hlt).trans c3; have u4 := (hSw.cell (p := ⟨b, off + k * 7 + 4, none⟩) hlt).trans c4; have u5 := (hSw.cell (p := ⟨b, off + k * 7 + 5, none⟩) hlt).trans c5; have u6 := (hSw.cell (p := ⟨b, off + k * 7 + 6, none⟩) hlt).trans c6; have t0 := (hSw.cell (p := ⟨b', off' + j * 7, none⟩) hlt').trans f0; have t1 := (hSw.cell (p := ⟨b', off' + j * 7 + 1, none⟩) hlt').trans f1; have t2 := (hSw.cell (p := ⟨b', off' + j * 7 + 2, none⟩) hlt').trans f2; have t3 := (hSw.cell (p := ⟨b', off' + j * 7 + 3, none⟩) hlt').trans f3; have t4 := (hSw.cell (p := ⟨b', off' + j * 7 + 4, none⟩) hlt').trans f4; have t5 := (hSw.cell (p := ⟨b', off' + j * 7 + 5, none⟩) hlt').trans f5; have t6 := (hSw.cell (p := ⟨b', off' + j * 7 + 6, none⟩) hlt').trans f6; have s3 := Nat.lt_of_lt_of_le hlt hSw.size; have s4 := Nat.lt_of_lt_of_le hlt' hSw.size; go_simp; try (with_reducible rfl))
                    try simp only [Act.put, List.setIfInBounds_toArray, List.set_cons_zero, List.set_cons_succ]
                    refine wpAnyH_done (by kernel_rfl) ?_ _
                    refine NoPanic.normal ?_
                    try go_simp
                    go_wp2_with fail
                    go_meet
                    exact ⟨rfl, hS⟩
                  case rest =>
                    obtain ⟨rfl, bx⟩ := hcut
                    have hbn := hbr.trans (bx.mono hbr.size)
                    have hbn0 := hbr0.trans (bx.mono hbr0.size)
                    cases D
                    · have e1 : R = 12 := by rw [HRT.out]; have := HST.out; exact this
                      subst e1
                      go_wp2_with fail
                      go_ret
                      exact ⟨rfl, hbn⟩
                    · have FXr := FX.below (hbn0) FX.lt
                      have FYr := FY.below (hbn0) FY.lt
                      clear k0 k1 k2 k3 k4 kl l0 l1 l2 l3 l4 ll c0 c1 c2 c3 c4 c5 c6 f0 f1 f2 f3 f4 f5 f6
                      have k0 := FXr.c0; have k1 := FXr.c1; have k2 := FXr.c2; have k3 := FXr.c3; have k4 := FXr.c4; have kl := FXr.lt
                      have l0 := FYr.c0; have l1 := FYr.c1; have l2 := FYr.c2; have l3 := FYr.c3; have l4 := FYr.c4; have ll := FYr.lt
                      clear FXr FYr HCA bx
                      obtain ⟨NEB, hNEB⟩ : ∃ NEB, (BN != BE) = NEB := ⟨_, rfl⟩
                      have hneb2 : (BE != BN) = NEB := by rw [← hNEB, bne, bne, beqI_comm]
                      rw [hNEB] at HST
                      go_upto_region 16 with fail
                      go_cut [82] (fun s82 wx => s82 = .bool NEB ∧ Below wc.heap.size wc wx)
                      case first =>
                        refine wp_region_noPanic ?_
                        refine wp_region_held_drew (S := fun w' => Below wc.heap.size wc w') (by kernel_rfl) ?hS0 (fun hHeld => ?_)
                        case hS0 => exact (Below.refl _ wc).drew
                        have hS : Below wc.heap.size wc wc.drew := (Below.refl _ wc).drew
                        clear hHeld
                        generalize wc.drew = wd at *
                        refine wpAnyH_take (i := 0) (v := ?_) rfl (by kernel_rfl) (by kernel_rfl) (by kernel_rfl) (fun _ _ _ h => h) (Or.inl ⟨by kernel_rfl, ?hy⟩) (by assumption) ?_
                        case hy => (intro wq hSw; have q0 := (hSw.cell (p := ⟨w.heap.size, 0, none⟩) kl).trans k0; have q1 := (hSw.cell (p := ⟨w.heap.size, 1, none⟩) kl).trans k1; have q2 := (hSw.cell (p := ⟨w.heap.size, 2, none⟩) kl).trans k2; have q3 := (hSw.cell (p := ⟨w.heap.size, 3, none⟩) kl).trans k3; have q4 := (hSw.cell (p := ⟨w.heap.size, 4, none⟩) kl).trans k4; have p0 := (hSw.cell (p := ⟨w.heap.size + 1, 0, none⟩) ll).trans l0; have p1 := (hSw.cell (p := ⟨w.heap.size + 1, 1, none⟩) ll).trans l1; have p2 := (hSw.cell (p := ⟨w.heap.size + 1, 2, none⟩) ll).trans l2; have p3 := (hSw.cell (p := ⟨w.heap.size + 1, 3, none⟩) ll).trans l3; have p4 := (hSw.cell (p := ⟨w.heap.size + 1, 4, none⟩) ll).trans l4; have s1 := Nat.lt_of_lt_of_le kl hSw.size; have s2 := Nat.lt_of_lt_of_le ll hSw.size; go_simp; try (with_reducible rfl))
                        try simp only [Act.put, List.setIfInBounds_toArray, List.set_cons_zero, List.set_cons_succ]
                        refine wpAnyH_take (i := 1) (v := ?_) rfl (by kernel_rfl) (by kernel_rfl) (by kernel_rfl) (fun _ _ _ h => h) (Or.inl ⟨by kernel_rfl, ?hy⟩) (by assumption) ?_
                        case hy => (intro wq hSw; have q0 := (hSw.cell (p := ⟨w.heap.size, 0, none⟩) kl).trans k0; have q1 := (hSw.cell (p := ⟨w.heap.size, 1, none⟩) kl).trans k1; have q2 := (hSw.cell (p := ⟨w.heap.size, 2, none⟩) kl).trans k2; have q3 := (hSw.cell (p := ⟨w.heap.size, 3, none⟩) kl).trans k3; have q4 := (hSw.cell (p := ⟨w.heap.size, 4, none⟩) kl).trans k4; have p0 := (hSw.cell (p := ⟨w.heap.size + 1, 0, none⟩) ll).trans l0; have p1 := (hSw.cell (p := ⟨w.heap.size + 1, 1, none⟩) ll).trans l1; have p2 := (hSw.cell (p := ⟨w.heap.size + 1, 2, none⟩) ll).trans l2; have p3 := (hSw.cell (p := ⟨w.heap.size + 1, 3, none⟩) ll).trans l3; have p4 := (hSw.cell (p := ⟨w.heap.size + 1, 4, none⟩) ll).trans l4; have s1 := Nat.lt_of_lt_of_le kl hSw.size; have s2 := Nat.lt_of_lt_of_le ll hSw.size; go_simp; try (with_reducible rfl))
                        try simp only [Act.put, List.setIfInBounds_toArray, List.set_cons_zero, List.set_cons_succ]
                        refine wpAnyH_take (i := 3) (v := ?_) rfl (by kernel_rfl) (by kernel_rfl) (by kernel_rfl) (fun _ _ _ h => h) (Or.inl ⟨by kernel_rfl, ?hy⟩) (by assumption) ?_
                        case hy => (intro wq hSw; have q0 := (hSw.cell (p := ⟨w.heap.size, 0, none⟩) kl).trans k0; have q1 := (hSw.cell (p := ⟨w.heap.size, 1, none⟩) kl).trans k1; have q2 := (hSw.cell (p := ⟨w.heap.size, 2, none⟩) kl).trans k2; have q3 := (hSw.cell (p := ⟨w.heap.size, 3, none⟩) kl).trans k3; have q4 := (hSw.cell (p := ⟨w.heap.size, 4, none⟩) kl).trans k4; have p0 := (hSw.cell (p := ⟨w.heap.size + 1, 0, none⟩) ll).trans l0; have p1 := (hSw.cell (p := ⟨w.heap.size + 1, 1, none⟩) ll).trans l1; have p2 := (hSw.cell (p := ⟨w.heap.size + 1, 2, none⟩) ll).trans l2; have p3 := (hSw.cell (p := ⟨w.heap.size + 1, 3, none⟩) ll).trans l3; have p4 := (hSw.cell (p := ⟨w.heap.size + 1, 4, none⟩) ll).trans l4; have s1 := Nat.lt_of_lt_of_le kl hSw.size; have s2 := Nat.lt_of_lt_of_le ll hSw.size; go_simp; try (with_reducible rfl))
                        try simp only [Act.put, List.setIfInBounds_toArray, List.set_cons_zero, List.set_cons_succ]
                        refine wpAnyH_take (i := 4) (v := ?_) rfl (by kernel_rfl) (by kernel_rfl) (by kernel_rfl) (fun _ _ _ h => h) (Or.inl ⟨by kernel_rfl, ?hy⟩) (by assumption) ?_
                        case hy => (intro wq hSw; have q0 := (hSw.cell (p := ⟨w.heap.size, 0, none⟩) kl).trans k0; have q1 := (hSw.cell (p := ⟨w.heap.size, 1, none⟩) kl).trans k1; have q2 := (hSw.cell (p := ⟨w.heap.size, 2, none⟩) kl).trans k2; have q3 := (hSw.cell (p := ⟨w.heap.size, 3, none⟩) kl).trans k3; have q4 := (hSw.cell (p := ⟨w.heap.size, 4, none⟩) kl).trans k4; have p0 := (hSw.cell (p := ⟨w.heap.size + 1, 0, none⟩) ll).trans l0; have p1 := (hSw.cell (p := ⟨w.heap.size + 1, 1, none⟩) ll).trans l1; have p2 := (hSw.cell (p := ⟨w.heap.size + 1, 2, none⟩) ll).trans l2; have p3 := (hSw.cell (p := ⟨w.heap.size + 1, 3, none⟩) ll).trans l3; have p4 := (hSw.cell (p := ⟨w.heap.size + 1, 4, none⟩) ll).trans l4; have s1 := Nat.lt_of_lt_of_le kl hSw.size; have s2 := Nat.lt_of_lt_of_le ll hSw.size; go_simp; try (with_reducible rfl))
                        try simp only [Act.put, List.setIfInBounds_toArray, List.set_cons_zero, List.set_cons_succ]
                        refine wpAnyH_ready (rs := [2]) (by kernel_rfl) (by simp) ?_
                        refine AllReadyH.cons rfl (fun K hK => ?_) AllReadyH.nil
                        go_simp
                        refine (HK1k.out _ (hbn.trans (hS.mono hbn.size))).mono ?_; rintro e w5 ⟨rfl, b3⟩; have hS : Below wc.heap.size wc w5 := hS.trans (b3.mono hS.size); clear b3
                        refine hK.out _ _ hS (fun hHeld => ?_)
                        clear hK K hHeld
                        try simp only [Act.put, List.setIfInBounds_toArray, List.set_cons_zero, List.set_cons_succ]
                        refine wpAnyH_ready (rs := [5]) (by kernel_rfl) (by simp) ?_
                        refine AllReadyH.cons rfl (fun K hK => ?_) AllReadyH.nil
                        go_simp
                        refine (HK2j.out _ (hbn.trans (hS.mono hbn.size))).mono ?_; rintro e w6 ⟨rfl, b3⟩; have hS : Below wc.heap.size wc w6 := hS.trans (b3.mono hS.size); clear b3
                        refine hK.out _ _ hS (fun hHeld => ?_)
                        clear hK K hHeld
                        try simp only [Act.put, List.setIfInBounds_toArray, List.set_cons_zero, List.set_cons_succ]
                        refine wpAnyH_take (i := 6) (v := ?_) rfl (by kernel_rfl) (by kernel_rfl) (by kernel_rfl) (fun _ _ _ h => h) (Or.inl ⟨by kernel_rfl, ?hy⟩) (by assumption) ?_
                        case hy => (intro wq hSw; have q0 := (hSw.cell (p := ⟨w.heap.size, 0, none⟩) kl).trans k0; have q1 := (hSw.cell (p := ⟨w.heap.size, 1, none⟩) kl).trans k1; have q2 := (hSw.cell (p := ⟨w.heap.size, 2, none⟩) kl).trans k2; have q3 := (hSw.cell (p := ⟨w.heap.size, 3, none⟩) kl).trans k3; have q4 := (hSw.cell (p := ⟨w.heap.size, 4, none⟩) kl).trans k4; have p0 := (hSw.cell (p := ⟨w.heap.size + 1, 0, none⟩) ll).trans l0; have p1 := (hSw.cell (p := ⟨w.heap.size + 1, 1, none⟩) ll).trans l1; have p2 := (hSw.cell (p := ⟨w.heap.size + 1, 2, none⟩) ll).trans l2; have p3 := (hSw.cell (p := ⟨w.heap.size + 1, 3, none⟩) ll).trans l3; have p4 := (hSw.cell (p := ⟨w.heap.size + 1, 4, none⟩) ll).trans l4; have s1 := Nat.lt_of_lt_of_le kl hSw.size; have s2 := Nat.lt_of_lt_of_le ll hSw.size; go_simp; try (with_reducible rfl))
                        try simp only [Act.put, List.setIfInBounds_toArray, List.set_cons_zero, List.set_cons_succ]
                        refine wpAnyH_done (by kernel_rfl) ?_ _
                        refine NoPanic.normal ?_
                        try go_simp
                        go_wp2_with fail
                        go_meet
                        exact ⟨rfl, hS⟩
                      case rest =>
                        obtain ⟨rfl, bx⟩ := hcut
                        have hbm := hbn.trans (bx.mono hbn.size)
                        have hbm0 := hbn0.trans (bx.mono hbn0.size)
                        clear k0 k1 k2 k3 k4 kl l0 l1 l2 l3 l4 ll bx
                        cases NEB
                        · have HNN : Hid (fstF ((clL ⟨tg, fi, bk, es, en⟩ ⟨tg', fi', bk', fs, en'⟩ g (n - g)).drop (k + 1 - g)) = T) := Lib.hid (HNX.out (by have := HST.out; exact this.symm))
                          go_wp2_with fail
                          go_roundw
                          case rel => exact ⟨k + 1, by omega, by go_num, by rw [hkg1], hbm0, HNN⟩
                          case measure => simp [intOf]; omega
                        · have e1 : R = 3 := by rw [HRT.out]; have := HST.out; exact this
                          subst e1
                          go_wp2_with fail
                          go_ret
                          exact ⟨rfl, hbm⟩
set_option maxRecDepth 100000 in
set_option maxHeartbeats 8000000 in
theorem rFollows_walk (tg fi bk : Int) (a : Option Addr) (n cap : Nat) (en : Bool) (es : List Ent) (Us : Nat → Value) (tg' fi' bk' : Int) (a' : Option Addr) (m cap' : Nat) (en' : Bool) (fs : List Ent) (Vs : Nat → Value) (w : World) (hE : EntsU w (.slice a n cap) es Us) (hn : es.length = n) (hwf : ∀ y ∈ es, EntWf y) (hF : EntsU w (.slice a' m cap') fs Vs) (hm : fs.length = m) (hwf' : ∀ y ∈ fs, EntWf y) :
    Calls Try.prog 25 #[.agg #[.int .i64 tg, .int .i64 fi, .int .i64 bk, .slice a n cap, .bool en], .agg #[.int .i64 tg', .int .i64 fi', .int .i64 bk', .slice a' m cap', .bool en']] w fun e w' => e = .returned (.int .i64 (folF ⟨tg, fi, bk, es, en⟩ ⟨tg', fi', bk', fs, en'⟩)) ∧ Below w.heap.size w w' := by
  have bX : Below w.heap.size w (w.alloc (.cells #[.int .i64 tg, .int .i64 fi, .int .i64 bk, .slice a n cap, .bool en] 24)) := (Below.refl _ w).alloc (Nat.le_refl _) _
  have b1 : Below w.heap.size w ((w.alloc (.cells #[.int .i64 tg, .int .i64 fi, .int .i64 bk, .slice a n cap, .bool en] 24)).alloc (.cells #[.int .i64 tg', .int .i64 fi', .int .i64 bk', .slice a' m cap', .bool en'] 24)) := bX.alloc bX.size _
  have FX := (LBox.new w tg fi bk (.slice a n cap) en 24).alloc (.cells #[.int .i64 tg', .int .i64 fi', .int .i64 bk', .slice a' m cap', .bool en'] 24)
  have FY := LBox.new (w.alloc (.cells #[.int .i64 tg, .int .i64 fi, .int .i64 bk, .slice a n cap, .bool en] 24)) tg' fi' bk' (.slice a' m cap') en' 24
  have hsz : (w.alloc (.cells #[.int .i64 tg, .int .i64 fi, .int .i64 bk, .slice a n cap, .bool en] 24)).heap.size = w.heap.size + 1 := by simp
  rw [hsz] at FY
  have HC1 : Hid (∀ W, Below w.heap.size w W → Calls Try.prog 41 #[.agg #[.int .i64 tg, .int .i64 fi, .int .i64 bk, .slice a n cap, .bool en]] W fun r w' => r = .returned (.int .i64 (lstF ⟨tg, fi, bk, es, en⟩)) ∧ Below W.heap.size W w') := Lib.hid (fun W hb => rchkL_walk tg fi bk _ en es Us W (hE.below hb (Nat.le_refl _)) hwf)
  have HC2 : Hid (∀ W, Below w.heap.size w W → Calls Try.prog 41 #[.agg #[.int .i64 tg', .int .i64 fi', .int .i64 bk', .slice a' m cap', .bool en']] W fun r w' => r = .returned (.int .i64 (lstF ⟨tg', fi', bk', fs, en'⟩)) ∧ Below W.heap.size W w') := Lib.hid (fun W hb => rchkL_walk tg' fi' bk' _ en' fs Vs W (hF.below hb (Nat.le_refl _)) hwf')
  have HFO : Hid (lstF ⟨tg, fi, bk, es, en⟩ = 0 → lstF ⟨tg', fi', bk', fs, en'⟩ = 0 → ∀ W, Below w.heap.size w W → Calls Try.prog 57 #[.agg #[.int .i64 tg, .int .i64 fi, .int .i64 bk, .slice a n cap, .bool en], .agg #[.int .i64 tg', .int .i64 fi', .int .i64 bk', .slice a' m cap', .bool en']] W fun r w' => r = .returned (.int .i64 (folF ⟨tg, fi, bk, es, en⟩ ⟨tg', fi', bk', fs, en'⟩)) ∧ Below W.heap.size W w') := Lib.hid (fun h1 h2 W hb => rfol_walk tg fi bk a n cap en es Us tg' fi' bk' a' m cap' en' fs Vs W (hE.below hb (Nat.le_refl _)) hn (hF.below hb (Nat.le_refl _)) hm ((lstF_zero _).1 h1) ((lstF_zero _).1 h2))
  have H1 : Hid (lstF ⟨tg, fi, bk, es, en⟩ ≠ 0 → folF ⟨tg, fi, bk, es, en⟩ ⟨tg', fi', bk', fs, en'⟩ = lstF ⟨tg, fi, bk, es, en⟩) := Lib.hid (fun h => by unfold folF; rw [if_pos h])
  have H2 : Hid (lstF ⟨tg, fi, bk, es, en⟩ = 0 → lstF ⟨tg', fi', bk', fs, en'⟩ ≠ 0 → folF ⟨tg, fi, bk, es, en⟩ ⟨tg', fi', bk', fs, en'⟩ = lstF ⟨tg', fi', bk', fs, en'⟩) := Lib.hid (fun h g => by unfold folF; rw [if_neg (by rw [h]; decide), if_pos g])
  obtain ⟨LO, hLO⟩ : ∃ LO, lstF ⟨tg, fi, bk, es, en⟩ = LO := ⟨_, rfl⟩
  obtain ⟨LW, hLW⟩ : ∃ LW, lstF ⟨tg', fi', bk', fs, en'⟩ = LW := ⟨_, rfl⟩
  obtain ⟨R, hR⟩ : ∃ R, folF ⟨tg, fi, bk, es, en⟩ ⟨tg', fi', bk', fs, en'⟩ = R := ⟨_, rfl⟩
  rw [hLO] at HC1
  rw [hLW] at HC2
  rw [hLO, hLW, hR] at HFO H2
  rw [hLO, hR] at H1
  rw [hR]
  clear hE hF hn hm hwf hwf' hLO hLW hR hsz bX
  go_enter Try.func25, Try.ntmps25
  go_upto_region 1 with fail
  generalize (w.alloc (.cells #[.int .i64 tg, .int .i64 fi, .int .i64 bk, .slice a n cap, .bool en] 24)).alloc (.cells #[.int .i64 tg', .int .i64 fi', .int .i64 bk', .slice a' m cap', .bool en'] 24) = W at *
  have k0 := FX.c0; have k1 := FX.c1; have k2 := FX.c2; have k3 := FX.c3; have k4 := FX.c4; have kl := FX.lt
  go_wp2_with fail
  refine (HC1.out _ b1).mono ?_; rintro e w1 ⟨rfl, b2⟩
  have FX := FX.below b2 FX.lt
  have FY := FY.below b2 FY.lt
  have b1 := b1.trans (b2.mono b1.size)
  clear k0 k1 k2 k3 k4 kl b2 HC1
  by_cases hz : LO = 0
  rotate_left
  · have hne : (LO == 0) = false := by simp; exact hz
    have hne2 : (LO != 0) = true := by simp; exact hz
    have e1 := H1.out hz
    subst e1
    clear hz
    go_wp2_with fail
    go_ret
    exact ⟨rfl, b1⟩
  · have H2' := Lib.hid (H2.out hz); have HFO' := Lib.hid (HFO.out hz)
    subst hz
    clear H1 H2 HFO
    have l0 := FY.c0; have l1 := FY.c1; have l2 := FY.c2; have l3 := FY.c3; have l4 := FY.c4; have ll := FY.lt
    go_wp2_with fail
    refine (HC2.out _ b1).mono ?_; rintro e w3 ⟨rfl, b3⟩
    have FX := FX.below b3 FX.lt
    have FY := FY.below b3 FY.lt
    have b1 := b1.trans (b3.mono b1.size)
    clear l0 l1 l2 l3 l4 ll b3 HC2
    by_cases hz : LW = 0
    rotate_left
    · have hne : (LW == 0) = false := by simp; exact hz
      have hne2 : (LW != 0) = true := by simp; exact hz
      have e1 := H2'.out hz
      subst e1
      clear hz
      go_wp2_with fail
      go_ret
      exact ⟨rfl, b1⟩
    · have HFW := Lib.hid (HFO'.out hz)
      subst hz
      have k0 := FX.c0; have k1 := FX.c1; have k2 := FX.c2; have k3 := FX.c3; have k4 := FX.c4; have kl := FX.lt
      have l0 := FY.c0; have l1 := FY.c1; have l2 := FY.c2; have l3 := FY.c3; have l4 := FY.c4; have ll := FY.lt
      go_wp2_with fail
      refine (HFW.out _ b1).mono ?_; rintro e w5 ⟨rfl, b5⟩
      go_wp2_with fail
      go_ret
      exact ⟨rfl, b1.trans (b5.mono b1.size)⟩

end Go.Proofs.Ytikpemmfmkdndaa
