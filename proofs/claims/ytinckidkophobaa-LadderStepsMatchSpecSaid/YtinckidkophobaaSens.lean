/- isSensible, numbersOf, Sensible (program). -/
import Derived.Test.YtinckidkophobaaChkR
import Derived.Test.YtinckidkophobaaIntsC
import Derived.Test.YtinckidkophobaaBelowX
import Derived.Deep.AppendLies
namespace Go.Proofs.Ytinckidkophobaa
set_option linter.unusedVariables false
set_option linter.unusedSimpArgs false
open Go.RowKit Go.Shelf Go.Deep

/-- x is no dearer and no worse than r, but not the same. -/
def beatsB (r x : Rung) : Bool := (x.ra != r.ra || x.qu != r.qu) && decide (x.ra ≤ r.ra) && decide (r.qu ≤ x.qu)
def senB (rs : List Rung) (r : Rung) : Bool := !(rs.any (beatsB r))
/-- The numbers of the first k renditions that are wanted. -/
def pickI (p : Rung → Bool) (rs : List Rung) : Nat → List Int
  | 0 => []
  | k + 1 => if p (rs.getD k rung0) = true then pickI p rs k ++ [(k : Int)] else pickI p rs k
theorem pickI_len (p : Rung → Bool) (rs : List Rung) : ∀ k, (pickI p rs k).length ≤ k
  | 0 => by simp [pickI]
  | k + 1 => by
    have := pickI_len p rs k
    rw [pickI]
    split
    · simp; omega
    · omega
set_option maxRecDepth 100000 in
set_option maxHeartbeats 4000000 in
theorem beats_any (x r : Rung) (X : Nat) (w : World) (FX : Four w X r) :
    Calls Try.prog 61 #[.agg (encR x).toArray, .pointer (some ⟨X, 0, none⟩)] w fun e w' => e = .returned (.bool (beatsB r x)) ∧ Below w.heap.size w w' := by
  have FY := Four.new w x 56
  have FX := FX.alloc (.cells #[.string x.nm, .int .i64 x.ra, .int .i64 x.he, .int .i64 x.qu] 56)
  have hb : Below w.heap.size w (w.alloc (.cells #[.string x.nm, .int .i64 x.ra, .int .i64 x.he, .int .i64 x.qu] 56)) := (Below.refl _ w).alloc (Nat.le_refl _) _
  obtain ⟨R, hR⟩ : ∃ R, beatsB r x = R := ⟨_, rfl⟩
  have HR := Lib.hid hR
  rw [hR]
  clear hR
  have ex : encR x = [.string x.nm, .int .i64 x.ra, .int .i64 x.he, .int .i64 x.qu] := rfl
  rw [ex]
  clear ex
  go_enter Try.func61, Try.ntmps61
  go_upto_region 1 with fail
  generalize w.alloc (.cells #[.string x.nm, .int .i64 x.ra, .int .i64 x.he, .int .i64 x.qu] 56) = W at *
  have x1 := FX.c1; have x3 := FX.c3; have y1 := FY.c1; have y3 := FY.c3
  by_cases h1 : x.ra = r.ra
  · have t1 : (x.ra == r.ra) = true := by simp; exact h1
    have t2 : (x.ra != r.ra) = false := by simp; exact h1
    have l1 : x.ra ≤ r.ra := by omega
    by_cases h2 : x.qu = r.qu
    · have t3 : (x.qu == r.qu) = true := by simp; exact h2
      have t4 : (x.qu != r.qu) = false := by simp; exact h2
      have e : R = false := by rw [← HR.out, beatsB, t2, t4]; rfl
      subst e
      clear h1 h2 l1
      go_wp2_with fail
      go_ret
      exact ⟨rfl, hb⟩
    · have t3 : (x.qu == r.qu) = false := by simp; exact h2
      have t4 : (x.qu != r.qu) = true := by simp; exact h2
      by_cases l3 : r.qu ≤ x.qu
      · have e : R = true := by rw [← HR.out, beatsB, t2, t4, Bool.or_true, Bool.true_and, decide_eq_true l1, decide_eq_true l3]; rfl
        subst e
        clear h1 h2
        go_wp2_with fail
        go_ret
        exact ⟨rfl, hb⟩
      · have l4 : decide (r.qu ≤ x.qu) = false := decide_eq_false l3
        have e : R = false := by rw [← HR.out, beatsB, l4, Bool.and_false]
        subst e
        clear h1 h2 l3
        go_wp2_with fail
        go_ret
        exact ⟨rfl, hb⟩
  · have t1 : (x.ra == r.ra) = false := by simp; exact h1
    have t2 : (x.ra != r.ra) = true := by simp; exact h1
    have t4 : (x.qu != r.qu) = (x.qu != r.qu) := rfl
    by_cases l1 : x.ra ≤ r.ra
    · by_cases l3 : r.qu ≤ x.qu
      · have e : R = true := by rw [← HR.out, beatsB, t2, Bool.true_or, Bool.true_and, decide_eq_true l1, decide_eq_true l3]; rfl
        subst e
        clear h1 t4
        go_wp2_with fail
        go_ret
        exact ⟨rfl, hb⟩
      · have l4 : decide (r.qu ≤ x.qu) = false := decide_eq_false l3
        have e : R = false := by rw [← HR.out, beatsB, l4, Bool.and_false]
        subst e
        clear h1 t4 l3
        go_wp2_with fail
        go_ret
        exact ⟨rfl, hb⟩
    · have l2 : decide (x.ra ≤ r.ra) = false := decide_eq_false l1
      have e : R = false := by rw [← HR.out, beatsB, t2, l2]; rfl
      subst e
      clear h1 l1 t4
      go_wp2_with fail
      go_ret
      exact ⟨rfl, hb⟩
set_option maxRecDepth 100000 in
set_option maxHeartbeats 4000000 in
theorem isSensible_any (u : Value) (rs : List Rung) (r : Rung) (w : World) (h : Rungs w u rs) :
    Calls Try.prog 38 #[u, .agg #[.string r.nm, .int .i64 r.ra, .int .i64 r.he, .int .i64 r.qu]] w fun e w' => e = .returned (.bool (senB rs r)) ∧ Below w.heap.size w w' := by
  have FX := Four.new w r 56
  have hb : Below w.heap.size w (w.alloc (.cells #[.string r.nm, .int .i64 r.ra, .int .i64 r.he, .int .i64 r.qu] 56)) := (Below.refl _ w).alloc (Nat.le_refl _) _
  have HCT : Hid (∀ W, Below w.heap.size w W → Four W w.heap.size r → Calls Try.prog 36 #[u, .func (.func 61) #[] #[.pointer (some ⟨w.heap.size, 0, none⟩)]] W fun e w' => e = .returned (.bool (rs.any (beatsB r))) ∧ Below W.heap.size W w') := Lib.hid (fun W hW hFW =>
    rcontains_any u rs (beatsB r) 61 #[.pointer (some ⟨w.heap.size, 0, none⟩)] (enters_of Try.func61 (by kernel_rfl) rfl) W (h.below hW (Nat.le_refl _)) (fun W' x hb' => (beats_any x r w.heap.size W' (hFW.below hb' hFW.lt)).mono (fun e w' ⟨h1, h2⟩ => ⟨h1, hb'.trans (h2.mono hb'.size)⟩)))
  obtain ⟨A, hA⟩ : ∃ A, rs.any (beatsB r) = A := ⟨_, rfl⟩
  have e : senB rs r = !A := by rw [senB, hA]
  rw [hA] at HCT
  rw [e]
  clear e hA h
  go_enter Try.func38, Try.ntmps38
  go_upto_region 1 with fail
  generalize w.alloc (.cells #[.string r.nm, .int .i64 r.ra, .int .i64 r.he, .int .i64 r.qu] 56) = W at *
  go_wp2_with fail
  refine (HCT.out _ hb FX).mono ?_; rintro e w3 ⟨rfl, b3⟩
  go_wp2_with fail
  go_ret
  exact ⟨rfl, hb.trans (b3.mono hb.size)⟩
/-- A predicate that is called: what it answers, nothing that was is changed. -/
def PredC (g : Nat) (lb : Array Value) (p : Rung → Bool) (w : World) : Prop :=
  ∀ (W : World) (x : Rung), Below w.heap.size w W → Calls Try.prog g (#[.agg #[.string x.nm, .int .i64 x.ra, .int .i64 x.he, .int .i64 x.qu]] ++ lb) W fun e w' => e = .returned (.bool (p x)) ∧ Below W.heap.size W w'
set_option maxRecDepth 100000 in
set_option maxHeartbeats 8000000 in
theorem numbers_walk (b off n cap : Nat) (rs : List Rung) (p : Rung → Bool) (g : Nat) (lb : Array Value) (eg : ∀ args w, (callFunc g args).run Try.prog w = .ok (.enter g args) w) (w : World) (hz : rs.length = n) (hn0 : 0 < n) (hn : n ≤ 100) (hlt : b < w.heap.size) (hS : Rungs w (.slice (some ⟨b, off, none⟩) n cap) rs) (hp : PredC g lb p w) :
    Calls Try.prog 31 #[.slice (some ⟨b, off, none⟩) n cap, .func (.func g) #[] lb] w fun e w' => (∃ v, e = .returned v ∧ NumsC w' v (pickI p rs n)) ∧ Below w.heap.size w w' := by
  obtain ⟨i0, hi, hi0, hi1, hi2⟩ := info_parts Try.infoInt8
  have HC := Lib.hid (fun j (hj : j < n) => hS.cells j (by omega))
  have HP := Lib.hid hp
  clear hS hz hp
  go_enter Try.func31, Try.ntmps31
  go_wp2_with fail
  go_loopw [5, 10] (fun v5 v10 wr => ∃ (k : Nat) (zs : List Int), k ≤ n ∧ v10 = .int .i64 k ∧ wr.ownsRow w.heap.size 3 1 v5 zs.length (zs.map (Value.int .i64)) ∧ Hid (pickI p rs k = zs) ∧ Below w.heap.size w wr) (fun _ v10 _ => n - (intOf v10).toNat)
  case atStart => exact ⟨0, [], by omega, rfl, World.ownsRow_nil w _ _ _, Lib.hid rfl, Below.refl _ _⟩
  case round =>
    obtain ⟨k, zs, hk, rfl, hown, HZS, hbel⟩ := hrel
    by_cases hlt2 : k < n
    rotate_left
    · have hkn : k = n := by omega
      subst hkn
      have hlt' : decide (k < k) = false := by simp
      clear hlt2
      go_wp2_with fail
      go_ret
      refine ⟨⟨_, rfl, ?_⟩, hbel⟩
      rw [HZS.out]
      exact NumsC.ofOwn hown
    · obtain ⟨r, hr⟩ : ∃ r, rs.getD k rung0 = r := ⟨_, rfl⟩
      obtain ⟨c0, c1, c2, c3⟩ := HC.out k hlt2
      rw [hr] at c0 c1 c2 c3
      rw [← hbel.cell (p := ⟨b, off + k * 4, none⟩) hlt] at c0
      rw [← hbel.cell (p := ⟨b, off + k * 4 + 1, none⟩) hlt] at c1
      rw [← hbel.cell (p := ⟨b, off + k * 4 + 2, none⟩) hlt] at c2
      rw [← hbel.cell (p := ⟨b, off + k * 4 + 3, none⟩) hlt] at c3
      have hzl : zs.length ≤ 100 := by have := pickI_len p rs k; rw [HZS.out] at this; omega
      have HST : Hid (pickI p rs (k + 1) = if p r = true then zs ++ [(k : Int)] else zs) := Lib.hid (by rw [pickI, hr, HZS.out])
      have FX := Four.new wr r 56
      have hbel := hbel.alloc (o := .cells #[.string r.nm, .int .i64 r.ra, .int .i64 r.he, .int .i64 r.qu] 56) hbel.size
      have hown := hown.alloc (.cells #[.string r.nm, .int .i64 r.ra, .int .i64 r.he, .int .i64 r.qu] 56)
      have hkI : IntKind.i64.wrap ((k : Int) + 1) = (k : Int) + 1 := IntWalk.i64_in _ ⟨by omega, by omega⟩
      clear hr
      go_upto_region 5 with fail
      generalize wr.alloc (.cells #[.string r.nm, .int .i64 r.ra, .int .i64 r.he, .int .i64 r.qu] 56) = W at *
      generalize wr.heap.size = X at *
      have d0 := FX.c0; have d1 := FX.c1; have d2 := FX.c2; have d3 := FX.c3; have dl := FX.lt
      clear c0 c1 c2 c3
      obtain ⟨pr, hpr⟩ : ∃ pr, p r = pr := ⟨_, rfl⟩
      have hpc := HP.out W r hbel
      rw [hpr] at hpc HST
      have HPC := Lib.hid hpc
      clear hpr hpc
      go_wp2_with fail
      refine HPC.out.mono ?_; rintro e w3 ⟨rfl, b3⟩
      have hown := ownsRow_kept hown b3 (Nat.le_refl _)
      have hbel := hbel.trans (b3.mono hbel.size)
      clear b3 HPC d0 d1 d2 d3 dl FX
      cases pr
      · have HN : Hid (pickI p rs (k + 1) = zs) := Lib.hid (by rw [HST.out, if_neg Bool.false_ne_true])
        go_wp2_with fail
        go_roundw
        case rel => exact ⟨k + 1, zs, by omega, by go_num, hown, HN, hbel⟩
        case measure => simp [intOf]; omega
      · have HN : Hid (pickI p rs (k + 1) = zs ++ [(k : Int)]) := Lib.hid (by rw [HST.out, if_pos rfl])
        go_wp2_with (at_builtin; refine wpList_append_own _ rfl _ _ 25 rfl w.heap.size 3 i0 (.int .i64 0) 1 8 Try.underlying25 hi hi0 hi1 hi2 rfl (by decide) _ _ _ rfl (hown.alloc _) ⟨w3.heap.size, 0, none⟩ 1 1 [.int .i64 (k : Int)] rfl rfl ?b1 ?b2 ?b3 ?b4 ?b5 ?_)
        case b1 =>
          have := World.news_of_block (cs := #[.int .i64 (k : Int)]) (t := 3) (fr := (0, 0)) (heap_alloc_new w3 (.cells #[.int .i64 (k : Int)] 3))
          simpa using this
        case b2 => simp [Value.oneCell']
        case b3 => unfold maxLen; omega
        case b4 => omega
        case b5 => have := hbel.size; first | omega | (simp; omega)
        intro v' w4 hown1 hgrow _
        have hb2 : Below w.heap.size w w4 := ((hbel.alloc hbel.size _).grown hgrow (by have := hbel.size; simp; omega) (fun q hq => (hown.lt q hq).1))
        clear hgrow hown
        go_wp2_with fail
        go_roundw
        case rel =>
          refine ⟨k + 1, zs ++ [(k : Int)], by omega, by go_num, ?_, HN, hb2⟩
          rw [List.length_append, List.map_append]
          exact hown1
        case measure => simp [intOf]; omega
theorem numbers_none (a : Option Addr) (cap : Nat) (f : Value) (w : World) : Calls Try.prog 31 #[.slice a 0 cap, f] w fun e w' => e = .returned (.slice none 0 0) ∧ w = w' := by
  go_enter Try.func31, Try.ntmps31
  go_wp2_with fail
  refine wp_loop_rounds 1 ?_
  rw [rounds_succ]
  go_wp2_with fail
  go_ret
  exact ⟨rfl, rfl⟩
theorem numbers_any (u : Value) (rs : List Rung) (p : Rung → Bool) (g : Nat) (lb : Array Value) (eg : ∀ args w, (callFunc g args).run Try.prog w = .ok (.enter g args) w) (w : World) (h : Rungs w u rs) (hn : rs.length ≤ 100) (hp : PredC g lb p w) :
    Calls Try.prog 31 #[u, .func (.func g) #[] lb] w fun e w' => (∃ v, e = .returned v ∧ NumsC w' v (pickI p rs rs.length)) ∧ Below w.heap.size w w' := by
  by_cases h0 : rs.length = 0
  · have : rs = [] := List.length_eq_zero_iff.1 h0
    subst this
    obtain ⟨a, cap, rfl⟩ := h.parts
    refine (numbers_none a cap _ w).mono ?_
    rintro e w' ⟨rfl, rfl⟩
    exact ⟨⟨_, rfl, .inl ⟨_, _, rfl, rfl⟩⟩, Below.refl _ _⟩
  · obtain ⟨b, off, cap, rfl, hlt, hl, hm⟩ := h.spot (by omega)
    exact numbers_walk b off rs.length cap rs p g lb eg w rfl (by omega) hn hlt h hp
def senL (rs : List Rung) : List Int := if rgF rs = 0 then pickI (senB rs) rs rs.length else []
end Go.Proofs.Ytinckidkophobaa
