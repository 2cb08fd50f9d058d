/- The reference's sensible, Sensible, firstOfRate, corner, Hull. -/
import Derived.Test.YtinckidkophobaaSens
import Derived.Test.YtinckidkophobaaRChkR
import Derived.Test.YtinckidkophobaaHullPlain4
import Derived.Test.YtinckidkophobaaHull
namespace Go.Proofs.Ytinckidkophobaa
set_option linter.unusedVariables false
set_option linter.unusedSimpArgs false
open Go.RowKit Go.Shelf Go.Deep

theorem senB_bad {rs : List Rung} {r : Rung} {j : Nat} (hj : j < rs.length) (h : beatsB r (rs.getD j rung0) = true) : senB rs r = false := by
  unfold senB
  rw [Bool.not_eq_false', List.any_eq_true]
  exact ⟨_, by rw [List.getD_eq_getElem?_getD, List.getElem?_eq_getElem hj]; exact List.getElem_mem _, h⟩
theorem senB_good {rs : List Rung} {r : Rung} (h : ∀ j, j < rs.length → beatsB r (rs.getD j rung0) = false) : senB rs r = true := by
  unfold senB
  rw [Bool.not_eq_true', List.any_eq_false]
  intro x hx
  obtain ⟨j, hj, rfl⟩ := List.mem_iff_getElem.1 hx
  have := h j hj
  rw [List.getD_eq_getElem?_getD, List.getElem?_eq_getElem hj] at this
  simp only [Option.getD_some] at this
  rw [this]; exact Bool.false_ne_true
def badF (rs : List Rung) (i k : Nat) : Bool := decide ((rs.getD k rung0).ra = (rs.getD i rung0).ra) && (decide ((rs.getD i rung0).qu < (rs.getD k rung0).qu) || (decide ((rs.getD k rung0).qu = (rs.getD i rung0).qu) && decide (k < i)))
def fsB (rs : List Rung) (i : Nat) : Bool := (List.range rs.length).all fun k => !badF rs i k
theorem fsB_iff (rs : List Rung) (i : Nat) : fsB rs i = true ↔ Fst rs i := by
  unfold fsB Fst
  rw [List.all_eq_true]
  constructor
  · intro h k hk hra
    have h1 := h k (by simpa using hk)
    unfold badF at h1
    rw [decide_eq_true hra, Bool.true_and, Bool.not_eq_true', Bool.or_eq_false_iff, Bool.and_eq_false_iff, decide_eq_false_iff_not, decide_eq_false_iff_not, decide_eq_false_iff_not] at h1
    refine ⟨by omega, fun e => ?_⟩
    rcases h1.2 with h2 | h2
    · exact absurd e h2
    · omega
  · intro h k hk
    unfold badF
    by_cases hra : (rs.getD k rung0).ra = (rs.getD i rung0).ra
    · obtain ⟨h1, h2⟩ := h k (by simpa using hk) hra
      rw [decide_eq_true hra, Bool.true_and, Bool.not_eq_true', Bool.or_eq_false_iff, Bool.and_eq_false_iff, decide_eq_false_iff_not, decide_eq_false_iff_not, decide_eq_false_iff_not]
      refine ⟨by omega, ?_⟩
      by_cases e : (rs.getD k rung0).qu = (rs.getD i rung0).qu
      · right; have := h2 e; omega
      · exact .inl e
    · rw [decide_eq_false hra]; rfl
theorem fsB_bad {rs : List Rung} {i k : Nat} (hk : k < rs.length) (h : badF rs i k = true) : fsB rs i = false := by
  unfold fsB
  rw [List.all_eq_false]
  exact ⟨k, by simpa using hk, by rw [h]; exact Bool.false_ne_true⟩
theorem fsB_good {rs : List Rung} {i : Nat} (h : ∀ k, k < rs.length → badF rs i k = false) : fsB rs i = true := by
  unfold fsB
  rw [List.all_eq_true]
  intro k hk
  rw [h k (by simpa using hk)]; rfl
/-- Between a and b, and not above their line. -/
def badC (r a b : Rung) : Bool := (decide (a.ra < r.ra) && decide (r.ra < b.ra)) && decide ((r.qu - a.qu) * (b.ra - a.ra) ≤ (b.qu - a.qu) * (r.ra - a.ra))
def coB (rs : List Rung) (i : Nat) : Bool := (List.range rs.length).all fun a => (List.range rs.length).all fun b => !badC (rs.getD i rung0) (rs.getD a rung0) (rs.getD b rung0)
theorem coB_iff (rs : List Rung) (i : Nat) : coB rs i = true ↔ Cor rs i := by
  unfold coB Cor
  rw [List.all_eq_true]
  constructor
  · intro h a b ha hb h1 h2
    have h3 := h a (by simpa using ha)
    rw [List.all_eq_true] at h3
    have h4 := h3 b (by simpa using hb)
    unfold badC at h4
    rw [decide_eq_true h1, decide_eq_true h2, Bool.true_and, Bool.true_and, Bool.not_eq_true', decide_eq_false_iff_not] at h4
    exact decide_eq_true (by omega)
  · intro h a ha
    rw [List.all_eq_true]
    intro b hb
    unfold badC
    by_cases h1 : (rs.getD a rung0).ra < (rs.getD i rung0).ra
    · by_cases h2 : (rs.getD i rung0).ra < (rs.getD b rung0).ra
      · have := of_decide_eq_true (h a b (by simpa using ha) (by simpa using hb) h1 h2)
        rw [decide_eq_true h1, decide_eq_true h2, Bool.true_and, Bool.true_and, Bool.not_eq_true', decide_eq_false_iff_not]
        omega
      · rw [decide_eq_false h2, Bool.and_false]; rfl
    · rw [decide_eq_false h1]; rfl
theorem coB_bad {rs : List Rung} {i a b : Nat} (ha : a < rs.length) (hb : b < rs.length) (h : badC (rs.getD i rung0) (rs.getD a rung0) (rs.getD b rung0) = true) : coB rs i = false := by
  unfold coB
  rw [List.all_eq_false]
  refine ⟨a, by simpa using ha, ?_⟩
  rw [Bool.not_eq_true, List.all_eq_false]
  exact ⟨b, by simpa using hb, by rw [h]; exact Bool.false_ne_true⟩
theorem coB_good {rs : List Rung} {i : Nat} (h : ∀ a, a < rs.length → ∀ b, b < rs.length → badC (rs.getD i rung0) (rs.getD a rung0) (rs.getD b rung0) = false) : coB rs i = true := by
  unfold coB
  rw [List.all_eq_true]
  intro a ha
  rw [List.all_eq_true]
  intro b hb
  rw [h a (by simpa using ha) b (by simpa using hb)]; rfl
set_option maxRecDepth 100000 in
set_option maxHeartbeats 8000000 in
theorem rsens_any (b off n cap : Nat) (rs : List Rung) (i : Nat) (w : World) (hz : rs.length = n) (hi : i < n) (hn : n ≤ 100) (hlt : b < w.heap.size) (hS : Rungs w (.slice (some ⟨b, off, none⟩) n cap) rs) :
    Calls Try.prog 39 #[.slice (some ⟨b, off, none⟩) n cap, .int .i64 (i : Int)] w fun e w' => e = .returned (.bool (senB rs (rs.getD i rung0))) ∧ Below w.heap.size w w' := by
  have HC := Lib.hid (fun j (hj : j < n) => hS.cells j (by omega))
  obtain ⟨r, hr⟩ : ∃ r, rs.getD i rung0 = r := ⟨_, rfl⟩
  have HR := Lib.hid hr
  have HB : Hid (∀ j, j < n → beatsB r (rs.getD j rung0) = true → senB rs (rs.getD i rung0) = false) := Lib.hid (fun j hj h => by rw [hr]; exact senB_bad (by omega) h)
  have HG : Hid ((∀ j, j < n → beatsB r (rs.getD j rung0) = false) → senB rs (rs.getD i rung0) = true) := Lib.hid (fun h => by rw [hr]; exact senB_good (by rw [hz]; exact h))
  obtain ⟨R, hR⟩ : ∃ R, senB rs (rs.getD i rung0) = R := ⟨_, rfl⟩
  rw [hR] at HB HG ⊢
  have i0 : (0 : Int) ≤ (i : Int) := by omega
  have i1 : (i : Int) < (n : Int) := by omega
  clear hz hS hR hr
  go_enter Try.func39, Try.ntmps39
  go_wp2_with fail
  go_loopw [9] (fun v wr => ∃ k : Nat, k ≤ n ∧ v = .int .i64 k ∧ Hid (∀ j, j < k → beatsB r (rs.getD j rung0) = false) ∧ Below w.heap.size w wr) (fun v _ => n - (intOf v).toNat)
  case atStart => exact ⟨0, by omega, rfl, Lib.hid (fun j hj => by omega), Below.refl _ _⟩
  case round =>
    obtain ⟨k, hk, rfl, HK, hbel⟩ := hrel
    by_cases hlt2 : k < n
    rotate_left
    · have hkn : k = n := by omega
      have e1 : R = true := HG.out (fun j hj => HK.out j (by omega))
      subst e1
      have hlt' : decide (k < n) = false := by simp; omega
      clear hlt2 hkn
      go_wp2_with fail
      go_ret
      exact ⟨rfl, hbel⟩
    · obtain ⟨x, hx⟩ : ∃ x, rs.getD k rung0 = x := ⟨_, rfl⟩
      obtain ⟨c0, c1, c2, c3⟩ := HC.out k hlt2
      rw [hx] at c0 c1 c2 c3
      rw [← hbel.cell (p := ⟨b, off + k * 4, none⟩) hlt] at c0
      rw [← hbel.cell (p := ⟨b, off + k * 4 + 1, none⟩) hlt] at c1
      rw [← hbel.cell (p := ⟨b, off + k * 4 + 2, none⟩) hlt] at c2
      rw [← hbel.cell (p := ⟨b, off + k * 4 + 3, none⟩) hlt] at c3
      obtain ⟨bb, hbb⟩ : ∃ bb, beatsB r x = bb := ⟨_, rfl⟩
      have HBK : Hid (bb = true → R = false) := Lib.hid (fun h => HB.out k hlt2 (by rw [hx]; rw [hbb]; exact h))
      have HN : Hid (bb = false → ∀ j, j < k + 1 → beatsB r (rs.getD j rung0) = false) := Lib.hid (fun h j hj => by
        by_cases e : j = k
        · subst e; rw [hx]; rw [hbb]; exact h
        · exact HK.out j (by omega))
      have HBB := Lib.hid hbb
      have hkI : IntKind.i64.wrap ((k : Int) + 1) = (k : Int) + 1 := IntWalk.i64_in _ ⟨by omega, by omega⟩
      have FX := Four.new wr x 56
      have hbel := hbel.alloc (o := .cells #[.string x.nm, .int .i64 x.ra, .int .i64 x.he, .int .i64 x.qu] 56) hbel.size
      clear hx hbb
      go_upto_region 4 with fail
      generalize wr.alloc (.cells #[.string x.nm, .int .i64 x.ra, .int .i64 x.he, .int .i64 x.qu] 56) = W at *
      have d0 := FX.c0; have d1 := FX.c1; have d2 := FX.c2; have d3 := FX.c3; have dl := FX.lt
      obtain ⟨-, y1, -, y3⟩ := HC.out i hi
      rw [HR.out] at y1 y3
      rw [← hbel.cell (p := ⟨b, off + i * 4 + 1, none⟩) hlt] at y1
      rw [← hbel.cell (p := ⟨b, off + i * 4 + 3, none⟩) hlt] at y3
      clear c0 c1 c2 c3
      go_cut [50] (fun sx wx => sx = .bool bb ∧ Below w.heap.size w wx)
      case first =>
        by_cases p : x.ra ≤ r.ra
        · have p1 := decide_eq_true p
          by_cases q : r.qu ≤ x.qu
          · have q1 := decide_eq_true q
            by_cases u : x.ra = r.ra
            · have u1 : (x.ra == r.ra) = true := by simp; omega
              have u2 : (x.ra != r.ra) = false := by simp; omega
              by_cases v : x.qu = r.qu
              · have v1 : (x.qu == r.qu) = true := by simp; omega
                have v2 : (x.qu != r.qu) = false := by simp; omega
                have e1 : bb = false := by
                  rw [← HBB.out]
                  rw [beatsB, u2, v2]; rfl
                subst e1
                clear u v p1 q1
                go_quiet (fail)
                go_wp2_with fail
                go_meet
                exact ⟨rfl, below_drewN hbel nq⟩
              · have v1 : (x.qu == r.qu) = false := by simp; omega
                have v2 : (x.qu != r.qu) = true := by simp; omega
                have e1 : bb = true := by
                  rw [← HBB.out]
                  rw [beatsB, u2, v2, p1, q1]; rfl
                subst e1
                clear u v p1 q1
                go_quiet (fail)
                go_wp2_with fail
                go_meet
                exact ⟨rfl, below_drewN hbel nq⟩
            · have u1 : (x.ra == r.ra) = false := by simp; omega
              have u2 : (x.ra != r.ra) = true := by simp; omega
              have e1 : bb = true := by
                rw [← HBB.out]
                rw [beatsB, u2, p1, q1, Bool.true_or]; rfl
              subst e1
              clear u p1 q1
              go_quiet (fail)
              go_wp2_with fail
              go_meet
              exact ⟨rfl, below_drewN hbel nq⟩
          · have q1 := decide_eq_false q
            have e1 : bb = false := by
              rw [← HBB.out]
              rw [beatsB, q1, Bool.and_false]
            subst e1
            clear q
            go_quiet (fail)
            go_wp2_with fail
            go_meet
            exact ⟨rfl, below_drewN hbel nq⟩
        · have p1 := decide_eq_false p
          have e1 : bb = false := by
            rw [← HBB.out]
            rw [beatsB, p1, Bool.and_false, Bool.false_and]
          subst e1
          clear p
          go_quiet (fail)
          go_wp2_with fail
          go_meet
          exact ⟨rfl, below_drewN hbel nq⟩
      case rest =>
        obtain ⟨rfl, hbel⟩ := hcut
        clear d0 d1 d2 d3 dl y1 y3
        cases bb
        · have HN2 := Lib.hid (HN.out rfl)
          go_wp2_with fail
          go_roundw
          case rel => exact ⟨k + 1, by omega, by go_num, HN2, hbel⟩
          case measure => simp [intOf]; omega
        · have e1 : R = false := HBK.out rfl
          subst e1
          go_wp2_with fail
          go_ret
          exact ⟨rfl, hbel⟩
end Go.Proofs.Ytinckidkophobaa
