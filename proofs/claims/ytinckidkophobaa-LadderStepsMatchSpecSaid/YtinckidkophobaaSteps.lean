/- Steps (program). -/
import Derived.Test.YtinckidkophobaaStepPlain3
import Derived.Test.YtinckidkophobaaNext
import Derived.Test.YtinckidkophobaaBelowX
import Derived.Laws.OwnMore
namespace Go.Proofs.Ytinckidkophobaa
set_option linter.unusedVariables false
set_option linter.unusedSimpArgs false
open Go.RowKit Go.Shelf Go.Deep

def natI (xs : List Nat) : List Int := xs.map (fun n : Nat => (n : Int))
def natV (xs : List Nat) : List Value := (natI xs).map (Value.int .i64)
theorem natV_snoc (xs : List Nat) (c : Nat) : natV (xs ++ [c]) = natV xs ++ [.int .i64 (c : Int)] := by simp [natV, natI]
theorem nat_nums {w : World} {base : Nat} {e : TypeId} {v : Value} {xs : List Nat} (h : w.ownsRow base e 1 v xs.length (natV xs)) : NumsC w v (natI xs) := by
  have e1 : (natI xs).length = xs.length := by simp [natI]
  rw [← e1] at h
  exact NumsC.ofOwn h
theorem sown_form {w : World} {base : Nat} {e : TypeId} {size : Nat} {v : Value} {n : Nat} {xs : List Value} (h : w.ownsRow base e size v n xs) : ∃ a c, v = .slice a n c := by
  rcases h.2 with ⟨rfl, h0⟩ | ⟨g, cap, cur, rfl, _⟩
  · exact ⟨none, 0, by rw [h0]⟩
  · exact ⟨_, _, rfl⟩
def noGapB (rs : List Rung) (p q : Int) : Bool := (List.range rs.length).all (fun i => !gapAt rs p q i)
theorem noGapB_true {rs : List Rung} {p q : Int} (h : ∀ j, j < rs.length → gapAt rs p q j = false) : noGapB rs p q = true := by
  unfold noGapB
  rw [List.all_eq_true]
  intro j hj
  rw [h j (by simpa using hj)]; rfl
theorem noGapB_false {rs : List Rung} {p q : Int} {j : Nat} (hj : j < rs.length) (h : gapAt rs p q j = true) : noGapB rs p q = false := by
  unfold noGapB
  rw [List.all_eq_false]
  exact ⟨j, by simpa using hj, by rw [h]; exact Bool.false_ne_true⟩
theorem noGaps_of {rs : List Rung} {p q : Int} {e : Nat} (h : ∀ j, j < e + 1 → gapAt rs p q j = false) : NoGaps rs p q e := by
  intro j hj
  have h1 := h (j + 1) (by omega)
  unfold gapAt at h1
  rw [decide_eq_true (by omega : 0 < j + 1), Bool.true_and, Nat.add_sub_cancel] at h1
  exact h1
def stepsB (rs : List Rung) (p q : Int) : Bool := decide (stF rs p q = 0) && (decide (0 < rs.length) && noGapB rs p q)
def stepsL (rs : List Rung) (p q : Int) : List Int := if stepsB rs p q = true then natI (stepsN (nextN rs p q (rs.length - 1)) (rs.length - 1)) else []
theorem stepsL_none {rs : List Rung} {p q : Int} (h : stepsB rs p q = false) : stepsL rs p q = [] := by rw [stepsL, h]; rfl
theorem steps_fault (u : Value) (rs : List Rung) (p q : Int) (w : World) (hu : Rungs w u rs) (hwf : ∀ y ∈ rs, y.nm.size ≤ maxLen) (h0 : stF rs p q ≠ 0) :
    Calls Try.prog 6 #[u, .agg #[.int .i64 p, .int .i64 q]] w fun r w' => r = .returned (.tuple #[.slice none 0 0, .bool false, .int .i64 (stF rs p q)]) ∧ Below w.heap.size w w' := by
  have HC : Hid (∀ W, Below w.heap.size w W → Calls Try.prog 20 #[u, .agg #[.int .i64 p, .int .i64 q]] W fun e w' => e = .returned (.int .i64 (stF rs p q)) ∧ Below W.heap.size W w') := Lib.hid (fun W hb => checkStep_any u rs p q W (hu.below hb (Nat.le_refl _)) hwf)
  obtain ⟨F, hF⟩ : ∃ F, stF rs p q = F := ⟨_, rfl⟩
  rw [hF] at HC h0 ⊢
  have hne : (F == 0) = false := by simp; exact h0
  have hne2 : (F != 0) = true := by simp; exact h0
  have b1 : Below w.heap.size w (w.alloc (.cells #[.int .i64 p, .int .i64 q] 24)) := (Below.refl _ w).alloc (Nat.le_refl _) _
  have T1 := Two.new w p q 24
  clear hF hu hwf h0
  go_enter Try.func6, Try.ntmps6
  go_upto_region 1 with fail
  generalize w.alloc (.cells #[.int .i64 p, .int .i64 q] 24) = W at *
  have k0 := T1.c0; have k1 := T1.c1; have kl := T1.lt
  clear T1
  go_wp2_with fail
  refine (HC.out _ b1).mono ?_; rintro e w3 ⟨rfl, b3⟩
  clear k0 k1 kl
  go_wp2_with fail
  refine bodyPost_ret (by simp [results, Try.results6, go_sem]; try rfl) rfl ?_
  exact ⟨rfl, b1.trans (b3.mono b1.size)⟩
theorem steps_none (a : Option Addr) (cap : Nat) (p q : Int) (w : World) (hu : Rungs w (.slice a 0 cap) []) (h0 : stF [] p q = 0) :
    Calls Try.prog 6 #[.slice a 0 cap, .agg #[.int .i64 p, .int .i64 q]] w fun r w' => r = .returned (.tuple #[.slice none 0 0, .bool false, .int .i64 0]) ∧ Below w.heap.size w w' := by
  have HC : Hid (∀ W, Below w.heap.size w W → Calls Try.prog 20 #[.slice a 0 cap, .agg #[.int .i64 p, .int .i64 q]] W fun e w' => e = .returned (.int .i64 0) ∧ Below W.heap.size W w') := Lib.hid (fun W hb => by rw [← h0]; exact checkStep_any _ [] p q W (hu.below hb (Nat.le_refl _)) (by simp))
  have b1 : Below w.heap.size w (w.alloc (.cells #[.int .i64 p, .int .i64 q] 24)) := (Below.refl _ w).alloc (Nat.le_refl _) _
  have T1 := Two.new w p q 24
  clear hu h0
  go_enter Try.func6, Try.ntmps6
  go_upto_region 1 with fail
  generalize w.alloc (.cells #[.int .i64 p, .int .i64 q] 24) = W at *
  have k0 := T1.c0; have k1 := T1.c1; have kl := T1.lt
  clear T1
  go_wp2_with fail
  refine (HC.out _ b1).mono ?_; rintro e w3 ⟨rfl, b3⟩
  clear k0 k1 kl
  go_wp2_with fail
  refine bodyPost_ret (by simp [results, Try.results6, go_sem]; try rfl) rfl ?_
  exact ⟨rfl, b1.trans (b3.mono b1.size)⟩
set_option maxRecDepth 100000 in
set_option maxHeartbeats 16000000 in
theorem steps_walk (b off n cap e : Nat) (rs : List Rung) (p q : Int) (w : World) (hz : rs.length = n) (hne : Hid (n = e + 1)) (hlt : b < w.heap.size) (hS : Rungs w (.slice (some ⟨b, off, none⟩) n cap) rs) (h0 : stF rs p q = 0) (hwf : ∀ y ∈ rs, y.nm.size ≤ maxLen) :
    Calls Try.prog 6 #[.slice (some ⟨b, off, none⟩) n cap, .agg #[.int .i64 p, .int .i64 q]] w fun r w' => (∃ v, r = .returned (.tuple #[v, .bool (stepsB rs p q), .int .i64 0]) ∧ NumsC w' v (stepsL rs p q)) ∧ Below w.heap.size w w' := by
  obtain ⟨i0, hi, hi0, hi1, hi2⟩ := info_parts Try.infoInt8
  have hst := (stF_zero rs p q).1 h0
  have hn : n ≤ 100 := by rw [← hz]; exact hst.ok.len
  have HNE := hne
  have he : e < n := by have := HNE.out; omega
  have HC : Hid (∀ W, Below w.heap.size w W → Calls Try.prog 20 #[.slice (some ⟨b, off, none⟩) n cap, .agg #[.int .i64 p, .int .i64 q]] W fun e w' => e = .returned (.int .i64 0) ∧ Below W.heap.size W w') := Lib.hid (fun W hb => by rw [← h0]; exact checkStep_any _ rs p q W (hS.below hb (Nat.le_refl _)) hwf)
  have HGB : Hid (∀ W k, Below w.heap.size w W → k < n → Calls Try.prog 21 #[.slice (some ⟨b, off, none⟩) n cap, .int .i64 (k : Int), .agg #[.int .i64 p, .int .i64 q]] W fun e w' => e = .returned (.bool (gapAt rs p q k)) ∧ Below W.heap.size W w') := Lib.hid (fun W k hb hk => gapBefore_any _ rs k p q W (hS.below hb (Nat.le_refl _)) (by rw [hz]; exact hk) hst.ok hst.hp hst.hq)
  have HNX : Hid (NoGaps rs p q e → ∀ W, Below w.heap.size w W → Calls Try.prog 22 #[.slice (some ⟨b, off, none⟩) n cap, .agg #[.int .i64 p, .int .i64 q]] W fun r w' => (∃ g, r = .returned (.slice (some ⟨g, 0, none⟩) n n) ∧ TbAt w' g n (nextN rs p q e) ∧ W.heap.size ≤ g) ∧ Below W.heap.size W w') := Lib.hid (fun hg W hb => next_walk b off n cap e rs p q W hz HNE hn (Nat.lt_of_lt_of_le hlt hb.size) (hS.below hb (Nat.le_refl _)) hst hg)
  have HNO : Hid (NoGaps rs p q e → ∀ j, j < e → j < nextN rs p q e j ∧ nextN rs p q e j ≤ e) := Lib.hid (fun hg j hj => ⟨(nextN_ok rs p q e hg j hj).1, (nextN_ok rs p q e hg j hj).2.1⟩)
  have HF1 : Hid (∀ j, j < n → gapAt rs p q j = true → stepsB rs p q = false ∧ stepsL rs p q = []) := Lib.hid (fun j hj h => by
    have e1 : stepsB rs p q = false := by rw [stepsB, noGapB_false (by rw [hz]; exact hj) h, Bool.and_false, Bool.and_false]
    exact ⟨e1, stepsL_none e1⟩)
  have HF2 : Hid ((∀ j, j < n → gapAt rs p q j = false) → stepsB rs p q = true ∧ stepsL rs p q = natI (stepsN (nextN rs p q e) e)) := Lib.hid (fun h => by
    have e1 : stepsB rs p q = true := by rw [stepsB, noGapB_true (by rw [hz]; exact h), decide_eq_true h0, decide_eq_true (by omega : 0 < rs.length)]; rfl
    have e2 : rs.length - 1 = e := by have := HNE.out; omega
    refine ⟨e1, ?_⟩
    rw [stepsL, if_pos e1, e2])
  have b1 : Below w.heap.size w (w.alloc (.cells #[.int .i64 p, .int .i64 q] 24)) := (Below.refl _ w).alloc (Nat.le_refl _) _
  have T1 := Two.new w p q 24
  obtain ⟨SB, hSB⟩ : ∃ SB, stepsB rs p q = SB := ⟨_, rfl⟩
  obtain ⟨SL, hSL⟩ : ∃ SL, stepsL rs p q = SL := ⟨_, rfl⟩
  rw [hSB, hSL] at HF1 HF2 ⊢
  clear hS h0 hwf hst hz hSB hSL hne
  go_enter Try.func6, Try.ntmps6
  go_upto_region 1 with fail
  generalize w.alloc (.cells #[.int .i64 p, .int .i64 q] 24) = W at *
  have k0 := T1.c0; have k1 := T1.c1; have kl := T1.lt
  go_wp2_with fail
  refine (HC.out _ b1).mono ?_; rintro r w2 ⟨rfl, b2⟩
  have T1 := T1.below b2 T1.lt
  have b1 := b1.trans (b2.mono b1.size)
  have hn0 : ((n : Int) == 0) = false := by simp; omega
  clear k0 k1 kl b2 HC
  go_wp2_with fail
  go_loopw [23] (fun v23 wr => ∃ k : Nat, k ≤ n ∧ v23 = .int .i64 (k : Int) ∧ Hid (∀ j, j < k → gapAt rs p q j = false) ∧ Two wr w.heap.size p q ∧ Below w.heap.size w wr) (fun v23 _ => n - (intOf v23).toNat)
  case atStart => exact ⟨0, by omega, rfl, Lib.hid (fun j hj => by omega), T1, b1⟩
  case round =>
    clear T1 b1
    obtain ⟨k, hk, rfl, HK, T1, hbr⟩ := hrel
    have k0 := T1.c0; have k1 := T1.c1; have kl := T1.lt
    by_cases hk2 : k < n
    · have kI : (k : Int) < (n : Int) := by omega
      have wk1 : IntKind.i64.wrap ((k : Int) + 1) = (k : Int) + 1 := IntWalk.i64_in _ ⟨by omega, by omega⟩
      obtain ⟨G, hG⟩ : ∃ G, gapAt rs p q k = G := ⟨_, rfl⟩
      have HG := Lib.hid hG
      have HCA := Lib.hid (HGB.out wr k hbr hk2)
      rw [hG] at HCA
      clear hG
      go_wp2_with fail
      refine HCA.out.mono ?_; rintro r w3 ⟨rfl, b3⟩
      have T1 := T1.below b3 T1.lt
      have hbr := hbr.trans (b3.mono hbr.size)
      clear k0 k1 kl b3 HCA
      cases G
      · have HN : Hid (∀ j, j < k + 1 → gapAt rs p q j = false) := Lib.hid (fun j hj => by
          by_cases ej : j = k
          · rw [ej]; exact HG.out
          · exact HK.out j (by omega))
        go_wp2_with fail
        go_roundw
        case rel => exact ⟨k + 1, by omega, by go_num, HN, T1, hbr⟩
        case measure => simp [intOf]; omega
      · obtain ⟨e1, e2⟩ := HF1.out k hk2 HG.out
        subst e1 e2
        go_wp2_with fail
        refine bodyPost_ret (by simp [results, Try.results6, go_sem]; try rfl) rfl ?_
        exact ⟨⟨_, rfl, .inl ⟨_, _, rfl, rfl⟩⟩, hbr⟩
    · have hkn : k = n := by omega
      have hall : ∀ j, j < n → gapAt rs p q j = false := fun j hj => HK.out j (by omega)
      obtain ⟨e1, e2⟩ := HF2.out hall
      have hg : NoGaps rs p q e := noGaps_of (by rw [← HNE.out]; exact hall)
      have HX := Lib.hid (HNO.out hg)
      have HSL := Lib.hid e2
      have HCA := Lib.hid (HNX.out hg wr hbr)
      obtain ⟨nx, hnx⟩ : ∃ nx, nextN rs p q e = nx := ⟨_, rfl⟩
      rw [hnx] at HX HSL HCA
      subst e1
      have kD : decide ((k : Int) < (n : Int)) = false := by simp; omega
      have kD2 : decide (k < n) = false := by simp; omega
      clear hnx hall hg hkn e2
      go_wp2_with fail
      refine HCA.out.mono ?_; rintro r w3 ⟨⟨g, rfl, tg, hgw⟩, b3⟩
      have hbr := hbr.trans (b3.mono hbr.size)
      clear k0 k1 kl b3 HCA T1 hgw
      have hwz := hbr.size
      obtain ⟨Z, hZ⟩ : ∃ Z, w3.heap.size = Z := ⟨_, rfl⟩
      have HZZ := Lib.hid hZ
      have HSZ : Hid (∀ wr, Below Z w3 wr → Z ≤ wr.heap.size) := Lib.hid (fun wr hb => by have := hb.size; omega)
      have hown : (w3.alloc (.cells #[.int .i64 0] 3)).ownsRow Z 3 1 (.slice (some ⟨w3.heap.size, 0, none⟩) 1 1) 1 #[.int .i64 0].toList := World.ownsRow_lit w3 #[.int .i64 0] 1 (by omega) (by unfold maxLen; omega) rfl
      have hbel : Below Z w3 (w3.alloc (.cells #[.int .i64 0] 3)) := (Below.refl _ _).alloc (by omega) _
      have hgZ : g < Z := by have := tg.lt; omega
      have tg := tg.below hbel hgZ
      have HFU : Hid ([0] ++ walkN nx e (e - 0) 0 = stepsN nx e) := Lib.hid rfl
      clear hZ
      go_upto_region 14 with fail
      generalize w3.alloc (.cells #[.int .i64 0] 3) = W5 at *
      generalize w3.heap.size = Y5 at *
      go_wp2_with fail
      go_loopw [10, 11] (fun v10 v11 wr => ∃ (a : Nat) (xs : List Nat), a ≤ e ∧ v11 = .int .i64 (a : Int) ∧ wr.ownsRow Z 3 1 v10 xs.length (natV xs) ∧ Hid (xs ++ walkN nx e (e - a) a = stepsN nx e) ∧ Below Z w3 wr ∧ TbAt wr g n nx ∧ xs.length ≤ a + 1) (fun _ v11 _ => e - (intOf v11).toNat)
      case atStart => exact ⟨0, [0], Nat.zero_le _, rfl, hown, HFU, hbel, tg, Nat.le_refl _⟩
      case round =>
        clear hown HFU hbel tg
        obtain ⟨a, xs, ha, rfl, hown, HFU, hbel, tg, hxl⟩ := hrel
        obtain ⟨a3, c3, rfl⟩ := sown_form hown
        have wn1 : IntKind.i64.wrap ((n : Int) - 1) = (e : Int) := by have := HNE.out; rw [show (n : Int) - 1 = (e : Int) by omega]; exact IntWalk.i64_in _ ⟨by omega, by omega⟩
        by_cases hae : a < e
        · obtain ⟨hc1, hc2⟩ := HX.out a hae
          have s1 := tg.c a (by omega)
          obtain ⟨c, hc⟩ : ∃ c, nx a = c := ⟨_, rfl⟩
          have HFN : Hid (xs ++ [c] ++ walkN nx e (e - c) c = stepsN nx e) := Lib.hid (by
            rw [← HFU.out, walkN_at nx e a HX.out hae, hc, List.append_assoc]; rfl)
          rw [hc] at hc1 hc2 s1
          have aD : decide ((a : Int) < (e : Int)) = true := by simp; omega
          have aI : (a : Int) < (n : Int) := by omega
          clear hc
          go_wp2_with (at_builtin; refine wpList_append_own _ rfl _ _ 25 rfl Z 3 i0 (.int .i64 0) 1 8 Try.underlying25 hi hi0 hi1 hi2 rfl (by decide) _ _ _ rfl (hown.alloc _) ⟨wr.heap.size, 0, none⟩ 1 1 [.int .i64 (c : Int)] rfl rfl ?B1 ?B2 ?B3 ?B4 ?B5 ?_)
          case B1 =>
            have := World.news_of_block (cs := #[.int .i64 (c : Int)]) (t := 3) (fr := (0, 0)) (heap_alloc_new wr (.cells #[.int .i64 (c : Int)] 3))
            simpa using this
          case B2 => simp [Value.oneCell']
          case B3 => unfold maxLen; omega
          case B4 => omega
          case B5 => have := HSZ.out _ hbel; first | omega | (simp; omega)
          intro v' w2 hown1 hgrow _
          have hszr := HSZ.out _ hbel
          have hb3 : Below Z wr w2 := (((Below.refl Z wr).alloc hszr _).grown hgrow (by simp; omega) (fun q hq => (hown.lt q hq).1))
          have hb2 := hbel.trans hb3
          clear hgrow hown
          go_wp2_with fail
          go_roundw
          case rel =>
            refine ⟨c, xs ++ [c], hc2, rfl, ?_, HFN, hb2, tg.below hb3 hgZ, by rw [List.length_append]; simp; omega⟩
            rw [natV_snoc, List.length_append]; exact hown1
          case measure => simp [intOf]; omega
        · have hx : a = e := by omega
          have HFN : Hid (xs = stepsN nx e) := Lib.hid (by
            rw [← HFU.out, hx, walkN_end, List.append_nil])
          have aD : decide ((a : Int) < (e : Int)) = false := by simp; omega
          clear hx
          go_wp2_with fail
          refine bodyPost_ret (by simp [results, Try.results6, go_sem]; try rfl) rfl ?_
          refine ⟨⟨_, rfl, ?_⟩, hbr.trans (hbel.mono (by have := HZZ.out; omega))⟩
          rw [HSL.out, ← HFN.out]
          exact nat_nums hown
theorem Steps_any (u : Value) (rs : List Rung) (p q : Int) (w : World) (hu : Rungs w u rs) (hwf : ∀ y ∈ rs, y.nm.size ≤ maxLen) :
    Calls Try.prog 6 #[u, .agg #[.int .i64 p, .int .i64 q]] w fun r w' => (∃ v, r = .returned (.tuple #[v, .bool (stepsB rs p q), .int .i64 (stF rs p q)]) ∧ NumsC w' v (stepsL rs p q)) ∧ Below w.heap.size w w' := by
  by_cases h0 : stF rs p q = 0
  · by_cases hl : rs.length = 0
    · have : rs = [] := List.length_eq_zero_iff.1 hl
      subst this
      obtain ⟨a, cap, rfl⟩ := hu.parts
      have e1 : stepsB [] p q = false := by unfold stepsB; simp
      rw [e1, stepsL_none e1, h0]
      refine (steps_none a cap p q w hu h0).mono ?_
      rintro r w' ⟨rfl, hb⟩
      exact ⟨⟨_, rfl, .inl ⟨_, _, rfl, rfl⟩⟩, hb⟩
    · obtain ⟨b, off, cap, rfl, hb, -, -⟩ := hu.spot (by omega)
      rw [h0]
      exact steps_walk b off rs.length cap (rs.length - 1) rs p q w rfl (Lib.hid (by omega)) hb hu h0 hwf
  · have e1 : stepsB rs p q = false := by unfold stepsB; rw [decide_eq_false h0]; rfl
    rw [e1, stepsL_none e1]
    refine (steps_fault u rs p q w hu hwf h0).mono ?_
    rintro r w' ⟨rfl, hb⟩
    exact ⟨⟨_, rfl, .inl ⟨_, _, rfl, rfl⟩⟩, hb⟩

end Go.Proofs.Ytinckidkophobaa
