/- hullOf, Hull (program). -/
import Derived.Test.YtfjgpafcdkodmaaStay
import Derived.Test.YtfjgpafcdkodmaaBelowX
import Derived.Deep.DeepCutAuto
import Derived.Deep.CutBlock
namespace Go.Proofs.Ytfjgpafcdkodmaa
set_option linter.unusedVariables false
set_option linter.unusedSimpArgs false
open Go.RowKit Go.Shelf Go.Deep

theorem hown_form {w : World} {base : Nat} {e : TypeId} {size : Nat} {v : Value} {n : Nat} {xs : List Value} (h : w.ownsRow base e size v n xs) : ∃ a c, v = .slice a n c := by
  rcases h.2 with ⟨rfl, h0⟩ | ⟨g, cap, cur, rfl, _⟩
  · exact ⟨none, 0, by rw [h0]⟩
  · exact ⟨_, _, rfl⟩
/-- A row of the call's own, but for its last elements. -/
theorem own_cut {w : World} {base : Nat} {e : TypeId} {g n cap m : Nat} {xs : List Value} (h : w.ownsRow base e 1 (.slice (some ⟨g, 0, none⟩) n cap) n xs) (hm : m ≤ n) : w.ownsRow base e 1 (.slice (some ⟨g, 0, none⟩) m cap) m (xs.take m) := by
  refine ⟨by rw [List.length_take, h.1]; omega, ?_⟩
  rcases h.2 with ⟨hv, -⟩ | ⟨g', cap', cur, hv, hb, hg, hnc, hcm, hcs, htake⟩
  · simp at hv
  · simp only [Value.slice.injEq, Option.some.injEq, Addr.mk.injEq, and_true] at hv
    obtain ⟨rfl, -, rfl⟩ := hv
    refine .inr ⟨g, cap, cur, rfl, hb, hg, by omega, hcm, hcs, ?_⟩
    rw [← htake, List.take_take]
    congr 1
    omega
def cornV (st : List Nat) : List Value := (cornI st).map (Value.int .i64)
theorem cornV_len (st : List Nat) : (cornV st).length = st.length := by simp [cornV, cornI]
theorem cornV_cons (a : Nat) (t : List Nat) : cornV (a :: t) = cornV t ++ [.int .i64 (a : Int)] := by simp [cornV, cornI_cons]
theorem cornV_cut (a : Nat) (t : List Nat) : (cornV (a :: t)).take t.length = cornV t := by
  rw [cornV_cons, ← cornV_len t, List.take_left]
theorem corn_nums {w : World} {base : Nat} {e : TypeId} {v : Value} {st : List Nat} (h : w.ownsRow base e 1 v st.length (cornV st)) : NumsC w v (cornI st) := by
  have e1 : (cornI st).length = st.length := by simp [cornI]
  rw [← e1] at h
  exact NumsC.ofOwn h
def hullSkip (rs : List Rung) (r : Rung) : List Nat → Bool
  | [] => false
  | a :: _ => decide (r.qu ≤ (rs.getD a rung0).qu)
theorem hullTo_step {rs : List Rung} {k : Nat} {st : List Nat} {r : Rung} (h : hullTo rs k = st) (e : rs.getD k rung0 = r) : hullTo rs (k + 1) = if hullSkip rs r st = true then st else k :: popTo rs r st := by
  rw [hullTo, h]
  subst e
  cases st with
  | nil => rfl
  | cons a t =>
    rw [hullStep, hullSkip]
    by_cases hq : (rs.getD k rung0).qu ≤ (rs.getD a rung0).qu
    · rw [if_pos hq, decide_eq_true hq, if_pos rfl]
    · rw [if_neg hq, decide_eq_false hq, if_neg Bool.false_ne_true]
theorem popTo_len (rs : List Rung) (r : Rung) : ∀ st, (popTo rs r st).length ≤ st.length
  | [] => by simp [popTo]
  | a :: t => by
    rw [popTo]
    split
    · exact Nat.le_refl _
    · have := popTo_len rs r t; simp; omega
set_option maxRecDepth 100000 in
set_option maxHeartbeats 16000000 in
theorem hull_walk (b off n cap : Nat) (rs : List Rung) (w : World) (hz : rs.length = n) (hn0 : 0 < n) (hlt : b < w.heap.size) (hS : Rungs w (.slice (some ⟨b, off, none⟩) n cap) rs) (hok : OkRs rs) :
    Calls Try.prog 67 #[.slice (some ⟨b, off, none⟩) n cap] w fun e w' => (∃ u, e = .returned u ∧ NumsC w' u (cornI (hullTo rs n))) ∧ Below w.heap.size w w' := by
  obtain ⟨i0, hi, hi0, hi1, hi2⟩ := info_parts Try.infoInt8
  have hn : n ≤ 100 := by rw [← hz]; exact hok.len
  have HC := Lib.hid (fun j (hj : j < n) => hS.cells j (by omega))
  have HS := Lib.hid hS
  have HOK := Lib.hid hok
  have HZ := Lib.hid hz
  have HH : Hid (∀ k, k ≤ n → HullOk rs k (hullTo rs k)) := Lib.hid (fun k hk => hull_ok (fun i j hij hj => hok.rate i j hij hj) k (by omega))
  clear hS hok hz
  go_enter Try.func67, Try.ntmps67
  go_wp2_with fail
  go_loopw [3, 9] (fun v3 v9 wr => ∃ (k : Nat) (st : List Nat), k ≤ n ∧ v9 = .int .i64 k ∧ wr.ownsRow w.heap.size 3 1 v3 st.length (cornV st) ∧ Hid (hullTo rs k = st) ∧ Below w.heap.size w wr ∧ st.length ≤ k) (fun _ v9 _ => n - (intOf v9).toNat)
  case atStart => exact ⟨0, [], by omega, rfl, World.ownsRow_nil w _ _ _, Lib.hid rfl, Below.refl _ _, by simp⟩
  case round =>
    obtain ⟨k, st, hk, rfl, hown, HST, hbel, hsl⟩ := hrel
    by_cases hlt2 : k < n
    rotate_left
    · have hkn : k = n := by omega
      subst hkn
      have hlt' : decide (k < k) = false := by simp
      clear hlt2
      go_wp2_with fail
      go_ret
      refine ⟨⟨_, rfl, ?_⟩, hbel⟩
      rw [HST.out]
      exact corn_nums hown
    · obtain ⟨r, hr⟩ : ∃ r, rs.getD k rung0 = r := ⟨_, rfl⟩
      obtain ⟨c0, c1, c2, c3⟩ := HC.out k hlt2
      have okr := HOK.out.ok k (by rw [HZ.out]; exact hlt2)
      rw [hr] at c0 c1 c2 c3 okr
      rw [← hbel.cell (p := ⟨b, off + k * 4, none⟩) hlt] at c0
      rw [← hbel.cell (p := ⟨b, off + k * 4 + 1, none⟩) hlt] at c1
      rw [← hbel.cell (p := ⟨b, off + k * 4 + 2, none⟩) hlt] at c2
      rw [← hbel.cell (p := ⟨b, off + k * 4 + 3, none⟩) hlt] at c3
      have HLT : Hid (∀ x ∈ st, x < k) := Lib.hid (by rw [← HST.out]; exact (HH.out k (by omega)).lt)
      have HSTEP := Lib.hid (hullTo_step HST.out hr)
      have OKR := Lib.hid okr
      have FX := Four.new wr r 37
      have hbel := hbel.alloc (o := .cells #[.string r.nm, .int .i64 r.ra, .int .i64 r.he, .int .i64 r.qu] 37) hbel.size
      have hown := hown.alloc (.cells #[.string r.nm, .int .i64 r.ra, .int .i64 r.he, .int .i64 r.qu] 37)
      have hkI : IntKind.i64.wrap ((k : Int) + 1) = (k : Int) + 1 := IntWalk.i64_in _ ⟨by omega, by omega⟩
      clear hr okr
      go_upto_region 5 with fail
      generalize wr.alloc (.cells #[.string r.nm, .int .i64 r.ra, .int .i64 r.he, .int .i64 r.qu] 37) = W at *
      generalize wr.heap.size = X at *
      have d0 := FX.c0; have d1 := FX.c1; have d2 := FX.c2; have d3 := FX.c3; have dl := FX.lt
      clear c0 c1 c2 c3
      obtain ⟨a3, c3, rfl⟩ := hown_form hown
      obtain ⟨m, hm⟩ : ∃ m, st.length = m := ⟨_, rfl⟩
      have HM := Lib.hid hm
      rw [hm] at hown hsl ⊢
      clear hm
      obtain ⟨SK, hSK⟩ : ∃ SK : Bool, hullSkip rs r st = SK := ⟨_, rfl⟩
      have HSK := Lib.hid hSK
      clear hSK
      go_upto_region 6 with fail
      go_cut [31] (fun s31 wx => s31 = .bool SK ∧ ∃ q, wx = W.drewN q)
      case first =>
        cases st with
        | nil =>
          have e : SK = false := HSK.out.symm
          subst e
          obtain rfl : m = 0 := HM.out.symm
          go_quiet (fail)
          go_wp2_with fail
          go_meet
          exact ⟨rfl, _, rfl⟩
        | cons a t =>
          have hak := HLT.out a List.mem_cons_self
          have hN := (corn_nums (st := a :: t) (by rw [HM.out]; exact hown)).nums
          have htm : t.length = m - 1 := by have := HM.out; simp at this; omega
          have hm1 : 1 ≤ m := by have := HM.out; simp at this; omega
          rcases hN with ⟨_, _, _, h0⟩ | ⟨g, o, cp, hv, hne, hg, hcm, hcc⟩
          · have := congrArg List.length h0; rw [cornI_len] at this; simp at this
          · simp only [Value.slice.injEq] at hv
            obtain ⟨rfl, -, rfl⟩ := hv
            have h1 := hcc t.length (by rw [cornI_len]; simp)
            rw [cornI_top, htm] at h1
            clear hcc hne
            obtain ⟨-, -, -, y3⟩ := HC.out a (by omega)
            rw [← hbel.cell (p := ⟨b, off + a * 4 + 3, none⟩) hlt] at y3
            obtain ⟨y, hy⟩ : ∃ y, (rs.getD a rung0).qu = y := ⟨_, rfl⟩
            rw [hy] at y3
            have e : SK = decide (r.qu ≤ y) := by rw [← HSK.out, ← hy]; rfl
            have g1 : 0 < m := by omega
            have g2 : decide ((0 : Int) < (m : Int)) = true := by simp; omega
            have i0' : (0 : Int) ≤ (a : Int) := by omega
            have i1' : (a : Int) < (n : Int) := by omega
            have j2 : (0 : Int) ≤ (m : Int) - 1 := by omega
            have j3 : (m : Int) - 1 < (m : Int) := by omega
            have j6 : (1 : Int) ≤ (m : Int) := by omega
            have j4 : ((m : Int) - 1).toNat = m - 1 := by omega
            have j5 : IntKind.i64.wrap ((m : Int) - 1) = (m : Int) - 1 := IntWalk.i64_in _ ⟨by omega, by omega⟩
            clear hy htm
            by_cases hq : r.qu ≤ y
            · rw [decide_eq_true hq] at e
              subst e
              go_quiet (fail)
              go_wp2_with fail
              go_meet
              exact ⟨rfl, _, rfl⟩
            · have hqd := decide_eq_false hq
              rw [hqd] at e
              subst e
              clear hq
              go_quiet (fail)
              go_wp2_with fail
              go_meet
              exact ⟨rfl, _, rfl⟩
      case rest =>
        obtain ⟨rfl, nq, rfl⟩ := hcut
        have hbel := below_drewN hbel nq
        have FX := FX.drewN nq
        have hown : (W.drewN nq).ownsRow w.heap.size 3 1 (.slice a3 m c3) m (cornV st) := hown
        generalize W.drewN nq = W1 at *
        clear d0 d1 d2 d3 dl
        cases SK
        rotate_left
        · have HN : Hid (hullTo rs (k + 1) = st) := Lib.hid (by rw [HSTEP.out, if_pos HSK.out])
          go_wp2_with fail
          go_roundw
          case rel => exact ⟨k + 1, st, by omega, by go_num, by rw [HM.out]; exact hown, HN, hbel, by rw [HM.out]; omega⟩
          case measure => simp [intOf]; omega
        · have HP : Hid (hullTo rs (k + 1) = k :: popTo rs r st) := Lib.hid (by rw [HSTEP.out, if_neg (by rw [HSK.out]; exact Bool.false_ne_true)])
          have HPL : Hid ((popTo rs r st).length ≤ k) := Lib.hid (Nat.le_trans (popTo_len rs r st) (by rw [HM.out]; exact hsl))
          obtain ⟨PS, hPS⟩ : ∃ PS, popTo rs r st = PS := ⟨_, rfl⟩
          rw [hPS] at HP HPL
          have HPS := Lib.hid hPS
          have hsl0 : st.length ≤ 100 := by rw [HM.out]; omega
          have hown : W1.ownsRow w.heap.size 3 1 (.slice a3 m c3) st.length (cornV st) := by rw [HM.out]; exact hown
          clear HSTEP HST HSK hPS
          go_wp2_with fail
          go_loopw [3] (fun v3 wr => ∃ st', wr.ownsRow w.heap.size 3 1 v3 st'.length (cornV st') ∧ Hid (popTo rs r st' = PS) ∧ Hid (∀ x ∈ st', x < k) ∧ Below w.heap.size w wr ∧ Four wr X r ∧ st'.length ≤ 100) (fun v3 _ => match v3 with | .slice _ n _ => n | _ => 0)
          case atStart => exact ⟨st, hown, HPS, HLT, hbel, FX, hsl0⟩
          case round =>
            clear hown HPS HLT hbel FX hsl0 hsl
            obtain ⟨st', hown, HPS, HLT, hbel, FX, hsl⟩ := hrel
            obtain ⟨a3', c3', rfl⟩ := hown_form hown
            have hN := Lib.hid (corn_nums hown).nums
            have d0 := FX.c0; have d1 := FX.c1; have d2 := FX.c2; have d3 := FX.c3; have dl := FX.lt
            cases st' with
            | nil =>
              have e : PS = [] := HPS.out.symm
              subst e
              have hl0 : ([] : List Nat).length = 0 := rfl
              rw [hl0] at hown ⊢
              clear hl0
              go_wp2_with (at_builtin; refine wpList_append_own _ rfl _ _ 40 rfl w.heap.size 3 i0 (.int .i64 0) 1 8 Try.underlying40 hi hi0 hi1 hi2 rfl (by decide) _ _ _ rfl (hown.alloc _) ⟨wr.heap.size, 0, none⟩ 1 1 [.int .i64 (k : Int)] rfl rfl ?b1 ?b2 ?b3 ?b4 ?b5 ?_)
              case b1 =>
                have := World.news_of_block (cs := #[.int .i64 (k : Int)]) (t := 3) (fr := (0, 0)) (heap_alloc_new wr (.cells #[.int .i64 (k : Int)] 3))
                simpa using this
              case b2 => simp [Value.oneCell']
              case b3 => unfold maxLen; omega
              case b4 => omega
              case b5 => have := hbel.size; first | omega | (simp; omega)
              intro v' w2 hown1 hgrow _
              have hb2 : Below w.heap.size w w2 := ((hbel.alloc (by have := hbel.size; omega) _).grown hgrow (by have := hbel.size; simp; omega) (fun q hq => (hown.lt q hq).1))
              clear hgrow hown
              go_wp2_with fail
              go_roundw
              case rel =>
                refine ⟨k + 1, k :: [], by omega, by go_num, ?_, HP, hb2, by simp⟩
                rw [cornV_cons]; exact hown1
              case measure => simp [intOf]; omega
            | cons a t =>
              have HSTY : Hid (∀ W', Below w.heap.size w W' → Nums W' (.slice a3' (a :: t).length c3') (cornI (a :: t)) → Calls Try.prog 103 #[.slice (some ⟨b, off, none⟩) n cap, .slice a3' (a :: t).length c3', .agg #[.string r.nm, .int .i64 r.ra, .int .i64 r.he, .int .i64 r.qu]] W' fun e w' => e = .returned (.bool (stayB rs (a :: t) r)) ∧ Below W'.heap.size W' w') := Lib.hid (fun W' hb hv => stay_any _ _ rs a t r W' (HS.out.below hb (Nat.le_refl _)) hv (fun x hx => by have := HLT.out x hx; rw [HZ.out]; omega) hsl HOK.out OKR.out)
              obtain ⟨sb, hsb⟩ : ∃ sb, stayB rs (a :: t) r = sb := ⟨_, rfl⟩
              rw [hsb] at HSTY
              have HSB := Lib.hid hsb
              obtain ⟨m, hm⟩ : ∃ m, (a :: t).length = m := ⟨_, rfl⟩
              obtain ⟨g, cp, hv, hgb, hgl⟩ := hown.form (by simp)
              simp only [Value.slice.injEq] at hv
              obtain ⟨rfl, -, rfl⟩ := hv
              have hcp : (a :: t).length ≤ c3' ∧ c3' ≤ 9223372036854775807 := by
                rcases corn_nums hown with ⟨_, _, _, h0⟩ | ⟨_, _, _, hv, -, -, hl, hx, -⟩
                · have := congrArg List.length h0; rw [cornI_len] at this; simp at this
                · simp only [Value.slice.injEq] at hv
                  obtain ⟨-, -, rfl⟩ := hv
                  rw [cornI_len] at hl
                  exact ⟨hl, hx⟩
              have hm1 : t.length = m - 1 := by simp at hm; omega
              have hmp : 1 ≤ m := by simp at hm; omega
              have HMM := Lib.hid hm
              have HM := Lib.hid hm1
              rw [hm] at HSTY hN hown hsl hcp ⊢
              obtain ⟨hcp1, hcp2⟩ := hcp
              have g1 : 0 < m := by omega
              have g2 : decide ((0 : Int) < (m : Int)) = true := by simp; omega
              have j2 : (0 : Int) ≤ (m : Int) - 1 := by omega
              have j3 : (m : Int) - 1 ≤ (c3' : Int) := by omega
              have j6 : (1 : Int) ≤ (m : Int) := by omega
              have j4 : ((m : Int) - 1).toNat = m - 1 := by omega
              have j5 : IntKind.i64.wrap ((m : Int) - 1) = (m : Int) - 1 := IntWalk.i64_in _ ⟨by omega, by omega⟩
              clear hsb hm hm1
              go_wp2_with fail
              refine (HSTY.out _ hbel hN.out).mono ?_; rintro e w3 ⟨rfl, b3⟩
              have hown := ownsRow_kept hown b3 (Nat.le_refl _)
              have hbel := hbel.trans (b3.mono hbel.size)
              have FX := FX.below b3 FX.lt
              clear HSTY hN d0 d1 d2 d3
              cases sb
              rotate_left
              · have e : PS = a :: t := by rw [← HPS.out, popTo, if_pos HSB.out]
                subst e
                go_wp2_with (at_builtin; refine wpList_append_own _ rfl _ _ 40 rfl w.heap.size 3 i0 (.int .i64 0) 1 8 Try.underlying40 hi hi0 hi1 hi2 rfl (by decide) _ _ _ rfl (hown.alloc _) ⟨w3.heap.size, 0, none⟩ 1 1 [.int .i64 (k : Int)] rfl rfl ?d1 ?d2 ?d3 ?d4 ?d5 ?_)
                case d1 =>
                  have := World.news_of_block (cs := #[.int .i64 (k : Int)]) (t := 3) (fr := (0, 0)) (heap_alloc_new w3 (.cells #[.int .i64 (k : Int)] 3))
                  simpa using this
                case d2 => simp [Value.oneCell']
                case d3 => unfold maxLen; omega
                case d4 => omega
                case d5 => have := hbel.size; first | omega | (simp; omega)
                intro v' w2 hown1 hgrow _
                have hb2 : Below w.heap.size w w2 := ((hbel.alloc (by have := hbel.size; omega) _).grown hgrow (by have := hbel.size; simp; omega) (fun q hq => (hown.lt q hq).1))
                clear hgrow hown
                go_wp2_with fail
                go_roundw
                case rel =>
                  refine ⟨k + 1, k :: (a :: t), by omega, by go_num, ?_, HP, hb2, by have := HPL.out; simp at this ⊢; omega⟩
                  rw [cornV_cons, List.length_cons, HMM.out]; exact hown1
                case measure => simp [intOf]; omega
              · have HPN : Hid (popTo rs r t = PS) := Lib.hid (by rw [← HPS.out, popTo, if_neg (by rw [HSB.out]; exact Bool.false_ne_true)])
                go_wp2_with fail
                go_roundw
                case rel =>
                  refine ⟨t, ?_, HPN, Lib.hid (fun x hx => HLT.out x (List.mem_cons_of_mem _ hx)), hbel, FX, by have := HM.out; omega⟩
                  have h5 := own_cut (m := t.length) hown (by have := HM.out; omega)
                  rw [cornV_cut] at h5
                  rw [HM.out] at h5 ⊢
                  exact h5
                case measure => simp; omega
theorem hull_none (a : Option Addr) (cap : Nat) (w : World) : Calls Try.prog 67 #[.slice a 0 cap] w fun e w' => e = .returned (.slice none 0 0) ∧ w = w' := by
  go_enter Try.func67, Try.ntmps67
  go_wp2_with fail
  refine wp_loop_rounds 1 ?_
  rw [rounds_succ]
  go_wp2_with fail
  go_ret
  exact ⟨rfl, rfl⟩
theorem hullOf_any (u : Value) (rs : List Rung) (w : World) (h : Rungs w u rs) (hok : OkRs rs) :
    Calls Try.prog 67 #[u] w fun e w' => (∃ v, e = .returned v ∧ NumsC w' v (cornI (hullTo rs rs.length))) ∧ Below w.heap.size w w' := by
  by_cases h0 : rs.length = 0
  · have : rs = [] := List.length_eq_zero_iff.1 h0
    subst this
    obtain ⟨a, cap, rfl⟩ := h.parts
    refine (hull_none a cap w).mono ?_
    rintro e w' ⟨rfl, rfl⟩
    exact ⟨⟨_, rfl, .inl ⟨_, _, rfl, rfl⟩⟩, Below.refl _ _⟩
  · obtain ⟨b, off, cap, rfl, hlt, hl, hm⟩ := h.spot (by omega)
    exact hull_walk b off rs.length cap rs w rfl (by omega) hlt h hok
def hullL (rs : List Rung) : List Int := if rgF rs = 0 then cornI (hullTo rs rs.length) else []
set_option maxHeartbeats 2000000 in
theorem Hull_any (u : Value) (rs : List Rung) (w : World) (h : Rungs w u rs) (hwf : ∀ y ∈ rs, y.nm.size ≤ maxLen) :
    Calls Try.prog 28 #[u] w fun e w' => (∃ v, e = .returned (.tuple #[v, .int .i64 (rgF rs)]) ∧ NumsC w' v (hullL rs)) ∧ Below w.heap.size w w' := by
  have HCH := Lib.hid (chkr_any u rs w h hwf)
  have HNU : Hid (rgF rs = 0 → ∀ W, Below w.heap.size w W → Calls Try.prog 67 #[u] W fun e w' => (∃ v, e = .returned v ∧ NumsC w' v (hullL rs)) ∧ Below W.heap.size W w') := Lib.hid (fun h0 W hW => by
    rw [hullL, if_pos h0]
    exact hullOf_any u rs W (h.below hW (Nat.le_refl _)) ((rgF_zero rs).1 h0))
  have HZ : Hid (rgF rs ≠ 0 → hullL rs = []) := Lib.hid (fun h0 => by rw [hullL, if_neg h0])
  obtain ⟨L, hL⟩ : ∃ L, hullL rs = L := ⟨_, rfl⟩
  obtain ⟨F, hF⟩ : ∃ F, rgF rs = F := ⟨_, rfl⟩
  rw [hL, hF] at HNU HZ
  rw [hF] at HCH
  rw [hL, hF]
  clear hL hF h hwf
  by_cases h0 : F = 0
  · subst h0
    have HNN := Lib.hid (HNU.out rfl)
    go_enter Try.func28, Try.ntmps28
    go_wp2_with fail
    refine HCH.out.mono ?_; rintro e w3 ⟨rfl, b3⟩
    go_wp2_with fail
    refine (HNN.out _ b3).mono ?_; rintro e w4 ⟨⟨v, rfl, hv⟩, b4⟩
    go_wp2_with fail
    go_ret2
    exact ⟨⟨_, rfl, hv⟩, b3.trans (b4.mono b3.size)⟩
  · have e := HZ.out h0
    subst e
    have hne : (F == 0) = false := by simp; exact h0
    have hne2 : (F != 0) = true := by simp; exact h0
    clear h0
    go_enter Try.func28, Try.ntmps28
    go_wp2_with fail
    refine HCH.out.mono ?_; rintro e w3 ⟨rfl, b3⟩
    go_wp2_with fail
    go_ret2
    exact ⟨⟨_, rfl, .inl ⟨_, _, rfl, rfl⟩⟩, b3⟩

end Go.Proofs.Ytfjgpafcdkodmaa
