/- The reference's corner, Hull; LadderHullsMatchSpec. -/
import Derived.Test.YtfjgpafcdkodmaaRHull
import Derived.Test.YtfjgpafcdkodmaaMean5
namespace Go.Proofs.Ytfjgpafcdkodmaa
set_option linter.unusedVariables false
set_option linter.unusedSimpArgs false
open Go.RowKit Go.Shelf Go.Deep

set_option maxRecDepth 100000 in
set_option maxHeartbeats 16000000 in
theorem rcorner_any (b off n cap : Nat) (rs : List Rung) (i : Nat) (w : World) (hz : rs.length = n) (hi : i < n) (hok : OkRs rs) (hlt : b < w.heap.size) (hS : Rungs w (.slice (some ⟨b, off, none⟩) n cap) rs) :
    Calls Try.prog 69 #[.slice (some ⟨b, off, none⟩) n cap, .int .i64 (i : Int)] w fun e w' => e = .returned (.bool (coB rs i)) ∧ Below w.heap.size w w' := by
  have hn : n ≤ 100 := by rw [← hz]; exact hok.len
  have HC := Lib.hid (fun j (hj : j < n) => hS.cells j (by omega))
  have HO : Hid (∀ j, j < n → OkR (rs.getD j rung0)) := Lib.hid (fun j hj => hok.ok j (by omega))
  obtain ⟨r, hr⟩ : ∃ r, rs.getD i rung0 = r := ⟨_, rfl⟩
  have HB : Hid (∀ a, a < n → ∀ b, b < n → badC r (rs.getD a rung0) (rs.getD b rung0) = true → coB rs i = false) := Lib.hid (fun a ha b hb h => coB_bad (a := a) (b := b) (by omega) (by omega) (by rw [hr]; exact h))
  have HG : Hid ((∀ a, a < n → ∀ b, b < n → badC r (rs.getD a rung0) (rs.getD b rung0) = false) → coB rs i = true) := Lib.hid (fun h => coB_good (by rw [hz, hr]; exact h))
  obtain ⟨R, hR⟩ : ∃ R, coB rs i = R := ⟨_, rfl⟩
  rw [hR] at HB HG ⊢
  have i0 : (0 : Int) ≤ (i : Int) := by omega
  have i1 : (i : Int) < (n : Int) := by omega
  obtain ⟨e0, e1, e2, e3⟩ := HC.out i hi
  have okr := HO.out i hi
  rw [hr] at e0 e1 e2 e3 okr
  obtain ⟨-, ⟨ra0, ra1⟩, -, ⟨rq0, rq1⟩⟩ := okr
  have FR := Four.new w r 37
  have hbel : Below w.heap.size w (w.alloc (.cells #[.string r.nm, .int .i64 r.ra, .int .i64 r.he, .int .i64 r.qu] 37)) := (Below.refl _ w).alloc (Nat.le_refl _) _
  clear hz hS hR hr hok
  go_enter Try.func69, Try.ntmps69
  go_wp2_with fail
  generalize w.alloc (.cells #[.string r.nm, .int .i64 r.ra, .int .i64 r.he, .int .i64 r.qu] 37) = A1 at *
  clear e0 e1 e2 e3
  go_loopw [16] (fun v wr => ∃ k : Nat, k ≤ n ∧ v = .int .i64 k ∧ Hid (∀ a, a < k → ∀ b, b < n → badC r (rs.getD a rung0) (rs.getD b rung0) = false) ∧ Below w.heap.size w wr ∧ Four wr w.heap.size r) (fun v _ => n - (intOf v).toNat)
  case atStart => exact ⟨0, by omega, rfl, Lib.hid (fun a ha => by omega), hbel, FR⟩
  case round =>
    clear hbel FR
    obtain ⟨k, hk, rfl, HK, hbel, FR⟩ := hrel
    by_cases hlt2 : k < n
    rotate_left
    · have hkn : k = n := by omega
      have e1 : R = true := HG.out (fun a ha => HK.out a (by omega))
      subst e1
      have hlt' : decide (k < n) = false := by simp; omega
      clear hlt2 hkn
      go_wp2_with fail
      go_ret
      exact ⟨rfl, hbel⟩
    · obtain ⟨x, hx⟩ : ∃ x, rs.getD k rung0 = x := ⟨_, rfl⟩
      obtain ⟨c0, c1, c2, c3⟩ := HC.out k hlt2
      have okx := HO.out k hlt2
      rw [hx] at c0 c1 c2 c3 okx
      rw [← hbel.cell (p := ⟨b, off + k * 4, none⟩) hlt] at c0
      rw [← hbel.cell (p := ⟨b, off + k * 4 + 1, none⟩) hlt] at c1
      rw [← hbel.cell (p := ⟨b, off + k * 4 + 2, none⟩) hlt] at c2
      rw [← hbel.cell (p := ⟨b, off + k * 4 + 3, none⟩) hlt] at c3
      obtain ⟨-, ⟨xa0, xa1⟩, -, ⟨xq0, xq1⟩⟩ := okx
      have HBK := Lib.hid (HB.out k hlt2)
      have HNK : Hid ((∀ b, b < n → badC r x (rs.getD b rung0) = false) → ∀ a, a < k + 1 → ∀ b, b < n → badC r (rs.getD a rung0) (rs.getD b rung0) = false) := Lib.hid (fun h a ha => by
        by_cases e : a = k
        · subst e; rw [hx]; exact h
        · exact HK.out a (by omega))
      rw [hx] at HBK
      have hkI : IntKind.i64.wrap ((k : Int) + 1) = (k : Int) + 1 := IntWalk.i64_in _ ⟨by omega, by omega⟩
      have FX := Four.new wr x 37
      have FR := FR.alloc (.cells #[.string x.nm, .int .i64 x.ra, .int .i64 x.he, .int .i64 x.qu] 37)
      have hbel := hbel.alloc (o := .cells #[.string x.nm, .int .i64 x.ra, .int .i64 x.he, .int .i64 x.qu] 37) hbel.size
      clear hx
      go_upto_region 5 with fail
      generalize wr.alloc (.cells #[.string x.nm, .int .i64 x.ra, .int .i64 x.he, .int .i64 x.qu] 37) = W at *
      generalize wr.heap.size = AX at *
      clear c0 c1 c2 c3
      go_wp2_with fail
      go_loopw [22] (fun v wr => ∃ m : Nat, m ≤ n ∧ v = .int .i64 m ∧ Hid (∀ b, b < m → badC r x (rs.getD b rung0) = false) ∧ Below w.heap.size w wr ∧ Four wr w.heap.size r ∧ Four wr AX x) (fun v _ => n - (intOf v).toNat)
      case atStart => exact ⟨0, by omega, rfl, Lib.hid (fun b hb => by omega), hbel, FR, FX⟩
      case round =>
        clear hbel FR FX
        obtain ⟨m, hm, rfl, HM, hbel, FR, FX⟩ := hrel
        by_cases hlt3 : m < n
        rotate_left
        · have HN2 := Lib.hid (HNK.out (fun b hb => HM.out b (by omega)))
          have hlt' : decide (m < n) = false := by simp; omega
          clear hlt3
          go_wp2_with fail
          go_roundw
          case rel => exact ⟨k + 1, by omega, by go_num, HN2, hbel, FR⟩
          case measure => simp [intOf]; omega
        · obtain ⟨y, hy⟩ : ∃ y, rs.getD m rung0 = y := ⟨_, rfl⟩
          obtain ⟨c0, c1, c2, c3⟩ := HC.out m hlt3
          have oky := HO.out m hlt3
          rw [hy] at c0 c1 c2 c3 oky
          rw [← hbel.cell (p := ⟨b, off + m * 4, none⟩) hlt] at c0
          rw [← hbel.cell (p := ⟨b, off + m * 4 + 1, none⟩) hlt] at c1
          rw [← hbel.cell (p := ⟨b, off + m * 4 + 2, none⟩) hlt] at c2
          rw [← hbel.cell (p := ⟨b, off + m * 4 + 3, none⟩) hlt] at c3
          obtain ⟨-, ⟨ya0, ya1⟩, -, ⟨yq0, yq1⟩⟩ := oky
          obtain ⟨bb, hbb⟩ : ∃ bb, badC r x y = bb := ⟨_, rfl⟩
          have HBM : Hid (bb = true → R = false) := Lib.hid (fun h => HBK.out m hlt3 (by rw [hy, hbb]; exact h))
          have HN : Hid (bb = false → ∀ b, b < m + 1 → badC r x (rs.getD b rung0) = false) := Lib.hid (fun h b hb => by
            by_cases e : b = m
            · subst e; rw [hy, hbb]; exact h
            · exact HM.out b (by omega))
          have HBB := Lib.hid hbb
          have hmI : IntKind.i64.wrap ((m : Int) + 1) = (m : Int) + 1 := IntWalk.i64_in _ ⟨by omega, by omega⟩
          have FY := Four.new wr y 37
          have FR := FR.alloc (.cells #[.string y.nm, .int .i64 y.ra, .int .i64 y.he, .int .i64 y.qu] 37)
          have FX := FX.alloc (.cells #[.string y.nm, .int .i64 y.ra, .int .i64 y.he, .int .i64 y.qu] 37)
          have hbel := hbel.alloc (o := .cells #[.string y.nm, .int .i64 y.ra, .int .i64 y.he, .int .i64 y.qu] 37) hbel.size
          clear hy hbb
          go_upto_region 8 with fail
          generalize wr.alloc (.cells #[.string y.nm, .int .i64 y.ra, .int .i64 y.he, .int .i64 y.qu] 37) = W2 at *
          generalize wr.heap.size = BX at *
          have r1 := FR.c1; have r3 := FR.c3; have x1 := FX.c1; have x3 := FX.c3; have y1 := FY.c1; have y3 := FY.c3
          clear c0 c1 c2 c3
          by_cases hp : x.ra < r.ra
          rotate_left
          · have hpd := decide_eq_false hp
            have e1 : bb = false := by rw [← HBB.out, badC, hpd]; rfl
            subst e1
            have HN2 := Lib.hid (HN.out rfl)
            clear hp
            go_wp2_with fail
            go_roundw
            case rel => exact ⟨m + 1, by omega, by go_num, HN2, hbel, FR, FX⟩
            case measure => simp [intOf]; omega
          · by_cases hq : r.ra < y.ra
            rotate_left
            · have hqd := decide_eq_false hq
              have e1 : bb = false := by rw [← HBB.out, badC, hqd, Bool.and_false]; rfl
              subst e1
              have HN2 := Lib.hid (HN.out rfl)
              clear hq
              go_wp2_with fail
              go_roundw
              case rel => exact ⟨m + 1, by omega, by go_num, HN2, hbel, FR, FX⟩
              case measure => simp [intOf]; omega
            · obtain ⟨M1, hM1⟩ : ∃ M1, (r.qu - x.qu) * (y.ra - x.ra) = M1 := ⟨_, rfl⟩
              obtain ⟨M2, hM2⟩ : ∃ M2, (y.qu - x.qu) * (r.ra - x.ra) = M2 := ⟨_, rfl⟩
              have b1 := mul_bd (x := r.qu - x.qu) (y := y.ra - x.ra) (by omega) (by omega) (by omega) (by omega)
              have b2 := mul_bd (x := y.qu - x.qu) (y := r.ra - x.ra) (by omega) (by omega) (by omega) (by omega)
              have e1 : bb = decide (M1 ≤ M2) := by rw [← HBB.out, badC, decide_eq_true hp, decide_eq_true hq, hM1, hM2]; rfl
              rw [hM1] at b1
              rw [hM2] at b2
              obtain ⟨m0, m1⟩ := b1
              obtain ⟨m2, m3⟩ := b2
              have w1 : IntKind.i64.wrap ((r.qu - x.qu) * (y.ra - x.ra)) = M1 := by rw [hM1]; exact IntWalk.i64_in _ ⟨by omega, by omega⟩
              have w2 : IntKind.i64.wrap ((y.qu - x.qu) * (r.ra - x.ra)) = M2 := by rw [hM2]; exact IntWalk.i64_in _ ⟨by omega, by omega⟩
              clear hM1 hM2
              by_cases ht : M1 ≤ M2
              rotate_left
              · have htd := decide_eq_false ht
                rw [htd] at e1
                subst e1
                have HN2 := Lib.hid (HN.out rfl)
                clear ht
                go_wp2_with fail
                go_roundw
                case rel => exact ⟨m + 1, by omega, by go_num, HN2, hbel, FR, FX⟩
                case measure => simp [intOf]; omega
              · rw [decide_eq_true ht] at e1
                subst e1
                have e2 : R = false := HBM.out rfl
                subst e2
                go_wp2_with fail
                go_ret
                exact ⟨rfl, hbel⟩
def pB (rs : List Rung) (i : Nat) : Bool := fsB rs i && coB rs i
theorem pB_iff (rs : List Rung) (i : Nat) : pB rs i = true ↔ Fst rs i ∧ Cor rs i := by
  unfold pB; rw [Bool.and_eq_true, fsB_iff, coB_iff]
theorem rhTo_len (rs : List Rung) (p : Nat → Bool) : ∀ k, (rhTo rs p k).length ≤ k
  | 0 => by simp [rhTo]
  | k + 1 => by
    have := rhTo_len rs p k
    rw [rhTo]
    split
    · rw [List.length_cons]; omega
    · omega
theorem rhTo_lt (rs : List Rung) (p : Nat → Bool) : ∀ k, ∀ a ∈ rhTo rs p k, a < k
  | 0, a, h => by simp [rhTo] at h
  | k + 1, a, h => by
    rw [rhTo] at h
    split at h
    · rcases List.mem_cons.1 h with rfl | h
      · omega
      · have := rhTo_lt rs p k a h; omega
    · have := rhTo_lt rs p k a h; omega
set_option maxRecDepth 100000 in
set_option maxHeartbeats 16000000 in
theorem rHull_walk (b off n cap : Nat) (rs : List Rung) (w : World) (hz : rs.length = n) (hn0 : 0 < n) (hlt : b < w.heap.size) (hS : Rungs w (.slice (some ⟨b, off, none⟩) n cap) rs) (hwf : ∀ y ∈ rs, y.nm.size ≤ maxLen) (h0 : rgF rs = 0) :
    Calls Try.prog 29 #[.slice (some ⟨b, off, none⟩) n cap] w fun e w' => (∃ v, e = .returned (.tuple #[v, .int .i64 0]) ∧ NumsC w' v (cornI (rhTo rs (pB rs) n))) ∧ Below w.heap.size w w' := by
  obtain ⟨i0, hi, hi0, hi1, hi2⟩ := info_parts Try.infoInt8
  have hok := (rgF_zero rs).1 h0
  have hn : n ≤ 100 := by rw [← hz]; exact hok.len
  have HCH := Lib.hid (rchkr_any _ rs w hS hwf)
  rw [h0] at HCH
  have HFI : Hid (∀ W i, Below w.heap.size w W → i < n → Calls Try.prog 68 #[.slice (some ⟨b, off, none⟩) n cap, .int .i64 ((i : Nat) : Int)] W fun e w' => e = .returned (.bool (fsB rs i)) ∧ Below W.heap.size W w') := Lib.hid (fun W i hb hi => rfirst_any b off n cap rs i W hz hi hn (Nat.lt_of_lt_of_le hlt hb.size) (hS.below hb (Nat.le_refl _)))
  have HCO : Hid (∀ W i, Below w.heap.size w W → i < n → Calls Try.prog 69 #[.slice (some ⟨b, off, none⟩) n cap, .int .i64 ((i : Nat) : Int)] W fun e w' => e = .returned (.bool (coB rs i)) ∧ Below W.heap.size W w') := Lib.hid (fun W i hb hi => rcorner_any b off n cap rs i W hz hi hok (Nat.lt_of_lt_of_le hlt hb.size) (hS.below hb (Nat.le_refl _)))
  have HC := Lib.hid (fun j (hj : j < n) => hS.cells j (by omega))
  clear hS hz hwf h0 hok
  go_enter Try.func29, Try.ntmps29
  go_wp2_with fail
  refine HCH.out.mono ?_; rintro e w1 ⟨rfl, b1⟩
  go_wp2_with fail
  go_loopw [5, 15] (fun v5 v15 wr => ∃ (k : Nat) (st : List Nat), k ≤ n ∧ v15 = .int .i64 k ∧ wr.ownsRow w.heap.size 3 1 v5 st.length (cornV st) ∧ Hid (rhTo rs (pB rs) k = st) ∧ Below w.heap.size w wr) (fun _ v15 _ => n - (intOf v15).toNat)
  case atStart => exact ⟨0, [], by omega, rfl, World.ownsRow_nil w1 _ _ _, Lib.hid rfl, b1⟩
  case round =>
    clear b1
    obtain ⟨k, st, hk, rfl, hown, HST, hbel⟩ := hrel
    by_cases hlt2 : k < n
    rotate_left
    · have hkn : k = n := by omega
      subst hkn
      have hlt' : decide (k < k) = false := by simp
      clear hlt2
      go_wp2_with fail
      go_ret2
      refine ⟨⟨_, rfl, ?_⟩, hbel⟩
      rw [HST.out]
      exact corn_nums hown
    · obtain ⟨x, hx⟩ : ∃ x, rs.getD k rung0 = x := ⟨_, rfl⟩
      obtain ⟨c0, c1, c2, c3⟩ := HC.out k hlt2
      rw [hx] at c0 c1 c2 c3
      rw [← hbel.cell (p := ⟨b, off + k * 4, none⟩) hlt] at c0
      rw [← hbel.cell (p := ⟨b, off + k * 4 + 1, none⟩) hlt] at c1
      rw [← hbel.cell (p := ⟨b, off + k * 4 + 2, none⟩) hlt] at c2
      rw [← hbel.cell (p := ⟨b, off + k * 4 + 3, none⟩) hlt] at c3
      have hsl : st.length ≤ k := by rw [← HST.out]; exact rhTo_len _ _ k
      have HLT : Hid (∀ a ∈ st, a < k) := Lib.hid (by rw [← HST.out]; exact rhTo_lt _ _ k)
      have HSTEP : Hid (rhTo rs (pB rs) (k + 1) = if pB rs k = true ∧ rhSkip rs k st = false then k :: st else st) := Lib.hid (by rw [rhTo, HST.out])
      have hkI : IntKind.i64.wrap ((k : Int) + 1) = (k : Int) + 1 := IntWalk.i64_in _ ⟨by omega, by omega⟩
      have FX := Four.new wr x 37
      have hbel := hbel.alloc (o := .cells #[.string x.nm, .int .i64 x.ra, .int .i64 x.he, .int .i64 x.qu] 37) hbel.size
      have hown := hown.alloc (.cells #[.string x.nm, .int .i64 x.ra, .int .i64 x.he, .int .i64 x.qu] 37)
      obtain ⟨fs, hfs⟩ : ∃ fs, fsB rs k = fs := ⟨_, rfl⟩
      obtain ⟨co, hco⟩ : ∃ co, coB rs k = co := ⟨_, rfl⟩
      have HFK := Lib.hid (fun W (hb : Below w.heap.size w W) => HFI.out W k hb hlt2)
      have HCK := Lib.hid (fun W (hb : Below w.heap.size w W) => HCO.out W k hb hlt2)
      rw [hfs] at HFK
      rw [hco] at HCK
      have HPB : Hid (pB rs k = (fs && co)) := Lib.hid (by rw [pB, hfs, hco])
      have HX := Lib.hid hx
      clear hfs hco hx
      go_upto_region 8 with fail
      generalize wr.alloc (.cells #[.string x.nm, .int .i64 x.ra, .int .i64 x.he, .int .i64 x.qu] 37) = W at *
      generalize wr.heap.size = XB at *
      clear c0 c1 c2 c3
      go_wp2_with fail
      refine (HFK.out _ hbel).mono ?_; rintro e w2 ⟨rfl, b2⟩
      have hbel := hbel.trans (b2.mono hbel.size)
      have FX := FX.below b2 FX.lt
      have hown := ownsRow_kept hown b2 (Nat.le_refl _)
      clear b2
      cases fs
      · have HN : Hid (rhTo rs (pB rs) (k + 1) = st) := Lib.hid (by rw [HSTEP.out, HPB.out, if_neg (by rintro ⟨h, -⟩; cases h)])
        go_wp2_with fail
        go_roundw
        case rel => exact ⟨k + 1, st, by omega, by go_num, hown, HN, hbel⟩
        case measure => simp [intOf]; omega
      · go_wp2_with fail
        refine (HCK.out _ hbel).mono ?_; rintro e w3 ⟨rfl, b3⟩
        have hbel := hbel.trans (b3.mono hbel.size)
        have FX := FX.below b3 FX.lt
        have hown := ownsRow_kept hown b3 (Nat.le_refl _)
        clear b3
        cases co
        · have HN : Hid (rhTo rs (pB rs) (k + 1) = st) := Lib.hid (by rw [HSTEP.out, HPB.out, if_neg (by rintro ⟨h, -⟩; cases h)])
          go_wp2_with fail
          go_roundw
          case rel => exact ⟨k + 1, st, by omega, by go_num, hown, HN, hbel⟩
          case measure => simp [intOf]; omega
        · obtain ⟨a3, c3, rfl⟩ := hown_form hown
          obtain ⟨m, hm⟩ : ∃ m, st.length = m := ⟨_, rfl⟩
          have HM := Lib.hid hm
          rw [hm] at hown hsl ⊢
          clear hm
          obtain ⟨SK, hSK⟩ : ∃ SK : Bool, rhSkip rs k st = SK := ⟨_, rfl⟩
          have HSK := Lib.hid hSK
          clear hSK
          have d3 := FX.c3; have dl := FX.lt
          go_upto_region 9 with fail
          go_cut [47] (fun s47 wx => s47 = .bool (!SK) ∧ ∃ q, wx = w3.drewN q)
          case first =>
            cases st with
            | nil =>
              have e : SK = false := HSK.out.symm
              subst e
              obtain rfl : m = 0 := HM.out.symm
              go_quiet (fail)
              go_wp2_with fail
              go_meet
              exact ⟨rfl, _, rfl⟩
            | cons a t =>
              have hak := HLT.out a List.mem_cons_self
              have hN := (corn_nums (st := a :: t) (by rw [HM.out]; exact hown)).nums
              have htm : t.length = m - 1 := by have := HM.out; simp at this; omega
              have hm1 : 1 ≤ m := by have := HM.out; simp at this; omega
              rcases hN with ⟨_, _, _, h0⟩ | ⟨g, o, cp, hv, hne, hg, hcm, hcc⟩
              · have := congrArg List.length h0; rw [cornI_len] at this; simp at this
              · simp only [Value.slice.injEq] at hv
                obtain ⟨rfl, -, rfl⟩ := hv
                have h1 := hcc t.length (by rw [cornI_len]; simp)
                rw [cornI_top, htm] at h1
                clear hcc hne
                obtain ⟨-, -, -, y3⟩ := HC.out a (by omega)
                rw [← hbel.cell (p := ⟨b, off + a * 4 + 3, none⟩) hlt] at y3
                obtain ⟨y, hy⟩ : ∃ y, (rs.getD a rung0).qu = y := ⟨_, rfl⟩
                rw [hy] at y3
                have e : SK = decide (x.qu ≤ y) := by rw [← HSK.out, ← hy, ← HX.out]; rfl
                have g1 : 0 < m := by omega
                have g2 : ((m : Int) == 0) = false := by simp; omega
                have i0' : (0 : Int) ≤ (a : Int) := by omega
                have i1' : (a : Int) < (n : Int) := by omega
                have j2 : (0 : Int) ≤ (m : Int) - 1 := by omega
                have j3 : (m : Int) - 1 < (m : Int) := by omega
                have j6 : (1 : Int) ≤ (m : Int) := by omega
                have j4 : ((m : Int) - 1).toNat = m - 1 := by omega
                have j5 : IntKind.i64.wrap ((m : Int) - 1) = (m : Int) - 1 := IntWalk.i64_in _ ⟨by omega, by omega⟩
                clear hy htm
                by_cases hq : y < x.qu
                · rw [decide_eq_false (show ¬ x.qu ≤ y by omega)] at e
                  subst e
                  go_quiet (fail)
                  go_wp2_with fail
                  go_meet
                  exact ⟨rfl, _, rfl⟩
                · rw [decide_eq_true (show x.qu ≤ y by omega)] at e
                  subst e
                  have hqd := decide_eq_false hq
                  clear hq
                  go_quiet (fail)
                  go_wp2_with fail
                  go_meet
                  exact ⟨rfl, _, rfl⟩
          case rest =>
            obtain ⟨rfl, nq, rfl⟩ := hcut
            have hbel := below_drewN hbel nq
            have hown : (w3.drewN nq).ownsRow w.heap.size 3 1 (.slice a3 m c3) m (cornV st) := hown
            clear d3 dl FX
            generalize w3.drewN nq = w5 at *
            cases SK
            rotate_left
            · have HN : Hid (rhTo rs (pB rs) (k + 1) = st) := Lib.hid (by rw [HSTEP.out, HSK.out, if_neg (by rintro ⟨-, h⟩; cases h)])
              go_wp2_with fail
              go_roundw
              case rel => exact ⟨k + 1, st, by omega, by go_num, by rw [HM.out]; exact hown, HN, hbel⟩
              case measure => simp [intOf]; omega
            · have HN : Hid (rhTo rs (pB rs) (k + 1) = k :: st) := Lib.hid (by rw [HSTEP.out, HSK.out, HPB.out, if_pos ⟨rfl, rfl⟩])
              go_wp2_with (at_builtin; refine wpList_append_own _ rfl _ _ 40 rfl w.heap.size 3 i0 (.int .i64 0) 1 8 Try.underlying40 hi hi0 hi1 hi2 rfl (by decide) _ _ _ rfl (hown.alloc _) ⟨w5.heap.size, 0, none⟩ 1 1 [.int .i64 (k : Int)] rfl rfl ?b1 ?b2 ?b3 ?b4 ?b5 ?_)
              case b1 =>
                have := World.news_of_block (cs := #[.int .i64 (k : Int)]) (t := 3) (fr := (0, 0)) (heap_alloc_new w5 (.cells #[.int .i64 (k : Int)] 3))
                simpa using this
              case b2 => simp [Value.oneCell']
              case b3 => unfold maxLen; omega
              case b4 => omega
              case b5 => have := hbel.size; first | omega | (simp; omega)
              intro v' w4 hown1 hgrow _
              have hb2 : Below w.heap.size w w4 := ((hbel.alloc hbel.size _).grown hgrow (by have := hbel.size; simp; omega) (fun q hq => (hown.lt q hq).1))
              clear hgrow hown
              go_wp2_with fail
              go_roundw
              case rel =>
                refine ⟨k + 1, k :: st, by omega, by go_num, ?_, HN, hb2⟩
                rw [cornV_cons, List.length_cons, HM.out]
                exact hown1
              case measure => simp [intOf]; omega
theorem rHull_none (a : Option Addr) (cap : Nat) (w : World) :
    Calls Try.prog 29 #[.slice a 0 cap] w fun e w' => e = .returned (.tuple #[.slice none 0 0, .int .i64 0]) ∧ w = w' := by
  go_enter Try.func29, Try.ntmps29
  go_wp2_with fail
  refine (rchkr_none _ _ _).mono ?_; rintro e w' ⟨rfl, rfl⟩
  go_wp2_with fail
  refine wp_loop_rounds 1 ?_
  rw [rounds_succ]
  go_wp2_with fail
  go_ret2
  exact ⟨rfl, rfl⟩
theorem rHull_fault (u : Value) (rs : List Rung) (w : World) (hS : Rungs w u rs) (hwf : ∀ y ∈ rs, y.nm.size ≤ maxLen) (h0 : rgF rs ≠ 0) :
    Calls Try.prog 29 #[u] w fun e w' => e = .returned (.tuple #[.slice none 0 0, .int .i64 (rgF rs)]) ∧ Below w.heap.size w w' := by
  have HCH := Lib.hid (rchkr_any _ rs w hS hwf)
  obtain ⟨F, hF⟩ : ∃ F, rgF rs = F := ⟨_, rfl⟩
  rw [hF] at HCH h0 ⊢
  have hne : (F == 0) = false := by simp; exact h0
  have hne2 : (F != 0) = true := by simp; exact h0
  clear h0 hF hS hwf
  go_enter Try.func29, Try.ntmps29
  go_wp2_with fail
  refine HCH.out.mono ?_; rintro e w' ⟨rfl, b1⟩
  go_wp2_with fail
  go_ret2
  exact ⟨rfl, b1⟩
theorem rHull_any (u : Value) (rs : List Rung) (w : World) (h : Rungs w u rs) (hwf : ∀ y ∈ rs, y.nm.size ≤ maxLen) :
    Calls Try.prog 29 #[u] w fun e w' => (∃ v, e = .returned (.tuple #[v, .int .i64 (rgF rs)]) ∧ NumsC w' v (hullL rs)) ∧ Below w.heap.size w w' := by
  by_cases h0 : rgF rs = 0
  · rw [hullL, if_pos h0, h0]
    by_cases h1 : rs.length = 0
    · have : rs = [] := List.length_eq_zero_iff.1 h1
      subst this
      obtain ⟨a, cap, rfl⟩ := h.parts
      refine (rHull_none a cap w).mono ?_
      rintro e w' ⟨rfl, rfl⟩
      exact ⟨⟨_, rfl, .inl ⟨_, _, rfl, rfl⟩⟩, Below.refl _ _⟩
    · obtain ⟨b, off, cap, rfl, hlt, hl, hm⟩ := h.spot (by omega)
      have hok := (rgF_zero rs).1 h0
      have h5 := rHull_walk b off rs.length cap rs w rfl (by omega) hlt h hwf h0
      rw [rh_hull (fun i j hij hj => hok.rate i j hij hj) (fun i _ => pB_iff rs i)] at h5
      exact h5
  · rw [hullL, if_neg h0]
    refine (rHull_fault u rs w h hwf h0).mono ?_
    rintro e w' ⟨rfl, b1⟩
    exact ⟨⟨_, rfl, .inl ⟨_, _, rfl, rfl⟩⟩, b1⟩
/-- slices.Equal at one list of numbers twice. -/
theorem equalI_same (u v : Value) (xs : List Int) (w : World) (hx : NumsC w u xs) (hy : NumsC w v xs) :
    Calls Try.prog 27 #[u, v] w fun e w' => e = .returned (.bool true) ∧ Below w.heap.size w w' := by
  rcases hx with ⟨a, c, rfl, hx0⟩ | ⟨b, o, c, rfl, hne, hlt, hl, hmm, hc⟩
  · rcases hy with ⟨a', c', rfl, hy0⟩ | ⟨b', o', c', rfl, hne', hlt', hl', hm', hc'⟩
    · refine (Try.slices_Equal_int_empty a a' c 0 c' w (by omega)).mono ?_
      rintro e w' ⟨rfl, rfl⟩
      exact ⟨rfl, Below.refl _ _⟩
    · exact absurd hx0 hne'
  · rcases hy with ⟨a', c', rfl, hy0⟩ | ⟨b', o', c', rfl, hne', hlt', hl', hm', hc'⟩
    · exact absurd hy0 hne
    · unfold maxLen at hmm
      refine (Try.slices_Equal_int b o xs.length c b' o' xs.length c' xs xs w (Nat.le_refl _) (Nat.le_refl _) (by omega) (by omega) hc hc').mono ?_
      rintro e w' ⟨rfl, q, rfl⟩
      exact ⟨by simp, below_drewN (Below.refl _ w) q⟩
set_option maxRecDepth 100000 in
set_option maxHeartbeats 8000000 in
theorem hullsmatch (u : Value) (rs : List Rung) (w : World) (hS : Rungs w u rs) (hwf : ∀ y ∈ rs, y.nm.size ≤ maxLen) :
    Calls Try.prog 5 #[u] w fun e w' => e = .returned (.bool true) ∧ Below w.heap.size w w' := by
  have H1 := Lib.hid (sensible_any u rs w hS hwf)
  have H2 : Hid (∀ W, Below w.heap.size w W → Calls Try.prog 24 #[u] W fun e w' => (∃ v, e = .returned (.tuple #[v, .int .i64 (rgF rs)]) ∧ NumsC w' v (senL rs)) ∧ Below W.heap.size W w') := Lib.hid (fun W hb => rSensible_any u rs W (hS.below hb (Nat.le_refl _)) hwf)
  have H3 : Hid (∀ W, Below w.heap.size w W → Calls Try.prog 25 #[u] W fun e w' => e = .returned (.int .i64 (rgF rs)) ∧ Below W.heap.size W w') := Lib.hid (fun W hb => chkr_any u rs W (hS.below hb (Nat.le_refl _)) hwf)
  have H4 : Hid (∀ W, Below w.heap.size w W → Calls Try.prog 26 #[u] W fun e w' => e = .returned (.int .i64 (rgF rs)) ∧ Below W.heap.size W w') := Lib.hid (fun W hb => rchkr_any u rs W (hS.below hb (Nat.le_refl _)) hwf)
  have H5 : Hid (∀ W, Below w.heap.size w W → Calls Try.prog 28 #[u] W fun e w' => (∃ v, e = .returned (.tuple #[v, .int .i64 (rgF rs)]) ∧ NumsC w' v (hullL rs)) ∧ Below W.heap.size W w') := Lib.hid (fun W hb => Hull_any u rs W (hS.below hb (Nat.le_refl _)) hwf)
  have H6 : Hid (∀ W, Below w.heap.size w W → Calls Try.prog 29 #[u] W fun e w' => (∃ v, e = .returned (.tuple #[v, .int .i64 (rgF rs)]) ∧ NumsC w' v (hullL rs)) ∧ Below W.heap.size W w') := Lib.hid (fun W hb => rHull_any u rs W (hS.below hb (Nat.le_refl _)) hwf)
  obtain ⟨F, hF⟩ : ∃ F, rgF rs = F := ⟨_, rfl⟩
  obtain ⟨SL, hSL⟩ : ∃ SL, senL rs = SL := ⟨_, rfl⟩
  obtain ⟨HL, hHL⟩ : ∃ HL, hullL rs = HL := ⟨_, rfl⟩
  rw [hF] at H1 H2 H3 H4 H5 H6
  rw [hSL] at H1 H2
  rw [hHL] at H5 H6
  have fz : (F != F) = false := by simp
  have fz1 : (F == F) = true := by simp
  clear hF hSL hHL hS hwf
  go_enter Try.func5, Try.ntmps5
  go_wp2_with fail
  refine H1.out.mono ?_; rintro e w1 ⟨⟨v1, rfl, n1⟩, b1⟩
  have N1 := Lib.hid n1
  clear n1
  go_wp2_with fail
  refine (H2.out _ b1).mono ?_; rintro e w2 ⟨⟨v2, rfl, n2⟩, b2⟩
  have c2 := b1.trans (b2.mono b1.size)
  have N1 := Lib.hid (N1.out.below b2 (Nat.le_refl _))
  have N2 := Lib.hid n2
  clear n2 b2
  go_wp2_with fail
  refine (H3.out _ c2).mono ?_; rintro e w3 ⟨rfl, b3⟩
  have c3 := c2.trans (b3.mono c2.size)
  have N1 := Lib.hid (N1.out.below b3 (Nat.le_refl _))
  have N2 := Lib.hid (N2.out.below b3 (Nat.le_refl _))
  clear b3
  go_wp2_with fail
  refine (H4.out _ c3).mono ?_; rintro e w4 ⟨rfl, b4⟩
  have c4 := c3.trans (b4.mono c3.size)
  have N1 := Lib.hid (N1.out.below b4 (Nat.le_refl _))
  have N2 := Lib.hid (N2.out.below b4 (Nat.le_refl _))
  clear b4
  go_wp2_with fail
  refine (equalI_same _ _ SL _ N1.out N2.out).mono ?_; rintro e w5 ⟨rfl, b5⟩
  have c5 := c4.trans (b5.mono c4.size)
  clear b5
  go_wp2_with fail
  refine (H5.out _ c5).mono ?_; rintro e w6 ⟨⟨v6, rfl, n6⟩, b6⟩
  have c6 := c5.trans (b6.mono c5.size)
  have N6 := Lib.hid n6
  clear n6 b6
  go_wp2_with fail
  refine (H6.out _ c6).mono ?_; rintro e w7 ⟨⟨v7, rfl, n7⟩, b7⟩
  have c7 := c6.trans (b7.mono c6.size)
  have N6 := Lib.hid (N6.out.below b7 (Nat.le_refl _))
  have N7 := Lib.hid n7
  clear n7 b7
  go_wp2_with fail
  refine (equalI_same _ _ HL _ N6.out N7.out).mono ?_; rintro e w8 ⟨rfl, b8⟩
  have c8 := c7.trans (b8.mono c7.size)
  go_wp2_with fail
  refine (awake5_any _).mono ?_; rintro e w9 ⟨rfl, b9⟩
  go_wp2_with fail
  go_ret
  exact ⟨rfl, c8.trans (b9.mono c8.size)⟩

end Go.Proofs.Ytfjgpafcdkodmaa
