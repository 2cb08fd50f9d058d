/- The reference's sensible, Sensible, firstOfRate, corner, Hull. -/
import Derived.Test.YtfjgpafcdkodmaaSens
import Derived.Test.YtfjgpafcdkodmaaRChkR
import Derived.Test.YtfjgpafcdkodmaaHullPlain4
import Derived.Test.YtfjgpafcdkodmaaHull
namespace Go.Proofs.Ytfjgpafcdkodmaa
set_option linter.unusedVariables false
set_option linter.unusedSimpArgs false
open Go.RowKit Go.Shelf Go.Deep

theorem senB_bad {rs : List Rung} {r : Rung} {j : Nat} (hj : j < rs.length) (h : beatsB r (rs.getD j rung0) = true) : senB rs r = false := by
  unfold senB
  rw [Bool.not_eq_false', List.any_eq_true]
  exact ⟨_, by rw [List.getD_eq_getElem?_getD, List.getElem?_eq_getElem hj]; exact List.getElem_mem _, h⟩
theorem senB_good {rs : List Rung} {r : Rung} (h : ∀ j, j < rs.length → beatsB r (rs.getD j rung0) = false) : senB rs r = true := by
  unfold senB
  rw [Bool.not_eq_true', List.any_eq_false]
  intro x hx
  obtain ⟨j, hj, rfl⟩ := List.mem_iff_getElem.1 hx
  have := h j hj
  rw [List.getD_eq_getElem?_getD, List.getElem?_eq_getElem hj] at this
  simp only [Option.getD_some] at this
  rw [this]; exact Bool.false_ne_true
def badF (rs : List Rung) (i k : Nat) : Bool := decide ((rs.getD k rung0).ra = (rs.getD i rung0).ra) && (decide ((rs.getD i rung0).qu < (rs.getD k rung0).qu) || (decide ((rs.getD k rung0).qu = (rs.getD i rung0).qu) && decide (k < i)))
def fsB (rs : List Rung) (i : Nat) : Bool := (List.range rs.length).all fun k => !badF rs i k
theorem fsB_iff (rs : List Rung) (i : Nat) : fsB rs i = true ↔ Fst rs i := by
  unfold fsB Fst
  rw [List.all_eq_true]
  constructor
  · intro h k hk hra
    have h1 := h k (by simpa using hk)
    unfold badF at h1
    rw [decide_eq_true hra, Bool.true_and, Bool.not_eq_true', Bool.or_eq_false_iff, Bool.and_eq_false_iff, decide_eq_false_iff_not, decide_eq_false_iff_not, decide_eq_false_iff_not] at h1
    refine ⟨by omega, fun e => ?_⟩
    rcases h1.2 with h2 | h2
    · exact absurd e h2
    · omega
  · intro h k hk
    unfold badF
    by_cases hra : (rs.getD k rung0).ra = (rs.getD i rung0).ra
    · obtain ⟨h1, h2⟩ := h k (by simpa using hk) hra
      rw [decide_eq_true hra, Bool.true_and, Bool.not_eq_true', Bool.or_eq_false_iff, Bool.and_eq_false_iff, decide_eq_false_iff_not, decide_eq_false_iff_not, decide_eq_false_iff_not]
      refine ⟨by omega, ?_⟩
      by_cases e : (rs.getD k rung0).qu = (rs.getD i rung0).qu
      · right; have := h2 e; omega
      · exact .inl e
    · rw [decide_eq_false hra]; rfl
theorem fsB_bad {rs : List Rung} {i k : Nat} (hk : k < rs.length) (h : badF rs i k = true) : fsB rs i = false := by
  unfold fsB
  rw [List.all_eq_false]
  exact ⟨k, by simpa using hk, by rw [h]; exact Bool.false_ne_true⟩
theorem fsB_good {rs : List Rung} {i : Nat} (h : ∀ k, k < rs.length → badF rs i k = false) : fsB rs i = true := by
  unfold fsB
  rw [List.all_eq_true]
  intro k hk
  rw [h k (by simpa using hk)]; rfl
/-- Between a and b, and not above their line. -/
def badC (r a b : Rung) : Bool := (decide (a.ra < r.ra) && decide (r.ra < b.ra)) && decide ((r.qu - a.qu) * (b.ra - a.ra) ≤ (b.qu - a.qu) * (r.ra - a.ra))
def coB (rs : List Rung) (i : Nat) : Bool := (List.range rs.length).all fun a => (List.range rs.length).all fun b => !badC (rs.getD i rung0) (rs.getD a rung0) (rs.getD b rung0)
theorem coB_iff (rs : List Rung) (i : Nat) : coB rs i = true ↔ Cor rs i := by
  unfold coB Cor
  rw [List.all_eq_true]
  constructor
  · intro h a b ha hb h1 h2
    have h3 := h a (by simpa using ha)
    rw [List.all_eq_true] at h3
    have h4 := h3 b (by simpa using hb)
    unfold badC at h4
    rw [decide_eq_true h1, decide_eq_true h2, Bool.true_and, Bool.true_and, Bool.not_eq_true', decide_eq_false_iff_not] at h4
    exact decide_eq_true (by omega)
  · intro h a ha
    rw [List.all_eq_true]
    intro b hb
    unfold badC
    by_cases h1 : (rs.getD a rung0).ra < (rs.getD i rung0).ra
    · by_cases h2 : (rs.getD i rung0).ra < (rs.getD b rung0).ra
      · have := of_decide_eq_true (h a b (by simpa using ha) (by simpa using hb) h1 h2)
        rw [decide_eq_true h1, decide_eq_true h2, Bool.true_and, Bool.true_and, Bool.not_eq_true', decide_eq_false_iff_not]
        omega
      · rw [decide_eq_false h2, Bool.and_false]; rfl
    · rw [decide_eq_false h1]; rfl
theorem coB_bad {rs : List Rung} {i a b : Nat} (ha : a < rs.length) (hb : b < rs.length) (h : badC (rs.getD i rung0) (rs.getD a rung0) (rs.getD b rung0) = true) : coB rs i = false := by
  unfold coB
  rw [List.all_eq_false]
  refine ⟨a, by simpa using ha, ?_⟩
  rw [Bool.not_eq_true, List.all_eq_false]
  exact ⟨b, by simpa using hb, by rw [h]; exact Bool.false_ne_true⟩
theorem coB_good {rs : List Rung} {i : Nat} (h : ∀ a, a < rs.length → ∀ b, b < rs.length → badC (rs.getD i rung0) (rs.getD a rung0) (rs.getD b rung0) = false) : coB rs i = true := by
  unfold coB
  rw [List.all_eq_true]
  intro a ha
  rw [List.all_eq_true]
  intro b hb
  rw [h a (by simpa using ha) b (by simpa using hb)]; rfl
set_option maxRecDepth 100000 in
set_option maxHeartbeats 8000000 in
theorem rsens_any (b off n cap : Nat) (rs : List Rung) (i : Nat) (w : World) (hz : rs.length = n) (hi : i < n) (hn : n ≤ 100) (hlt : b < w.heap.size) (hS : Rungs w (.slice (some ⟨b, off, none⟩) n cap) rs) :
    Calls Try.prog 59 #[.slice (some ⟨b, off, none⟩) n cap, .int .i64 (i : Int)] w fun e w' => e = .returned (.bool (senB rs (rs.getD i rung0))) ∧ Below w.heap.size w w' := by
  have HC := Lib.hid (fun j (hj : j < n) => hS.cells j (by omega))
  obtain ⟨r, hr⟩ : ∃ r, rs.getD i rung0 = r := ⟨_, rfl⟩
  have HR := Lib.hid hr
  have HB : Hid (∀ j, j < n → beatsB r (rs.getD j rung0) = true → senB rs (rs.getD i rung0) = false) := Lib.hid (fun j hj h => by rw [hr]; exact senB_bad (by omega) h)
  have HG : Hid ((∀ j, j < n → beatsB r (rs.getD j rung0) = false) → senB rs (rs.getD i rung0) = true) := Lib.hid (fun h => by rw [hr]; exact senB_good (by rw [hz]; exact h))
  obtain ⟨R, hR⟩ : ∃ R, senB rs (rs.getD i rung0) = R := ⟨_, rfl⟩
  rw [hR] at HB HG ⊢
  have i0 : (0 : Int) ≤ (i : Int) := by omega
  have i1 : (i : Int) < (n : Int) := by omega
  clear hz hS hR hr
  go_enter Try.func59, Try.ntmps59
  go_wp2_with fail
  go_loopw [9] (fun v wr => ∃ k : Nat, k ≤ n ∧ v = .int .i64 k ∧ Hid (∀ j, j < k → beatsB r (rs.getD j rung0) = false) ∧ Below w.heap.size w wr) (fun v _ => n - (intOf v).toNat)
  case atStart => exact ⟨0, by omega, rfl, Lib.hid (fun j hj => by omega), Below.refl _ _⟩
  case round =>
    obtain ⟨k, hk, rfl, HK, hbel⟩ := hrel
    by_cases hlt2 : k < n
    rotate_left
    · have hkn : k = n := by omega
      have e1 : R = true := HG.out (fun j hj => HK.out j (by omega))
      subst e1
      have hlt' : decide (k < n) = false := by simp; omega
      clear hlt2 hkn
      go_wp2_with fail
      go_ret
      exact ⟨rfl, hbel⟩
    · obtain ⟨x, hx⟩ : ∃ x, rs.getD k rung0 = x := ⟨_, rfl⟩
      obtain ⟨c0, c1, c2, c3⟩ := HC.out k hlt2
      rw [hx] at c0 c1 c2 c3
      rw [← hbel.cell (p := ⟨b, off + k * 4, none⟩) hlt] at c0
      rw [← hbel.cell (p := ⟨b, off + k * 4 + 1, none⟩) hlt] at c1
      rw [← hbel.cell (p := ⟨b, off + k * 4 + 2, none⟩) hlt] at c2
      rw [← hbel.cell (p := ⟨b, off + k * 4 + 3, none⟩) hlt] at c3
      obtain ⟨bb, hbb⟩ : ∃ bb, beatsB r x = bb := ⟨_, rfl⟩
      have HBK : Hid (bb = true → R = false) := Lib.hid (fun h => HB.out k hlt2 (by rw [hx]; rw [hbb]; exact h))
      have HN : Hid (bb = false → ∀ j, j < k + 1 → beatsB r (rs.getD j rung0) = false) := Lib.hid (fun h j hj => by
        by_cases e : j = k
        · subst e; rw [hx]; rw [hbb]; exact h
        · exact HK.out j (by omega))
      have HBB := Lib.hid hbb
      have hkI : IntKind.i64.wrap ((k : Int) + 1) = (k : Int) + 1 := IntWalk.i64_in _ ⟨by omega, by omega⟩
      have FX := Four.new wr x 37
      have hbel := hbel.alloc (o := .cells #[.string x.nm, .int .i64 x.ra, .int .i64 x.he, .int .i64 x.qu] 37) hbel.size
      clear hx hbb
      go_upto_region 4 with fail
      generalize wr.alloc (.cells #[.string x.nm, .int .i64 x.ra, .int .i64 x.he, .int .i64 x.qu] 37) = W at *
      have d0 := FX.c0; have d1 := FX.c1; have d2 := FX.c2; have d3 := FX.c3; have dl := FX.lt
      obtain ⟨-, y1, -, y3⟩ := HC.out i hi
      rw [HR.out] at y1 y3
      rw [← hbel.cell (p := ⟨b, off + i * 4 + 1, none⟩) hlt] at y1
      rw [← hbel.cell (p := ⟨b, off + i * 4 + 3, none⟩) hlt] at y3
      clear c0 c1 c2 c3
      go_cut [50] (fun sx wx => sx = .bool bb ∧ Below w.heap.size w wx)
      case first =>
        by_cases p : x.ra ≤ r.ra
        · have p1 := decide_eq_true p
          by_cases q : r.qu ≤ x.qu
          · have q1 := decide_eq_true q
            by_cases u : x.ra = r.ra
            · have u1 : (x.ra == r.ra) = true := by simp; omega
              have u2 : (x.ra != r.ra) = false := by simp; omega
              by_cases v : x.qu = r.qu
              · have v1 : (x.qu == r.qu) = true := by simp; omega
                have v2 : (x.qu != r.qu) = false := by simp; omega
                have e1 : bb = false := by
                  rw [← HBB.out]
                  rw [beatsB, u2, v2]; rfl
                subst e1
                clear u v p1 q1
                go_quiet (fail)
                go_wp2_with fail
                go_meet
                exact ⟨rfl, below_drewN hbel nq⟩
              · have v1 : (x.qu == r.qu) = false := by simp; omega
                have v2 : (x.qu != r.qu) = true := by simp; omega
                have e1 : bb = true := by
                  rw [← HBB.out]
                  rw [beatsB, u2, v2, p1, q1]; rfl
                subst e1
                clear u v p1 q1
                go_quiet (fail)
                go_wp2_with fail
                go_meet
                exact ⟨rfl, below_drewN hbel nq⟩
            · have u1 : (x.ra == r.ra) = false := by simp; omega
              have u2 : (x.ra != r.ra) = true := by simp; omega
              have e1 : bb = true := by
                rw [← HBB.out]
                rw [beatsB, u2, p1, q1, Bool.true_or]; rfl
              subst e1
              clear u p1 q1
              go_quiet (fail)
              go_wp2_with fail
              go_meet
              exact ⟨rfl, below_drewN hbel nq⟩
          · have q1 := decide_eq_false q
            have e1 : bb = false := by
              rw [← HBB.out]
              rw [beatsB, q1, Bool.and_false]
            subst e1
            clear q
            go_quiet (fail)
            go_wp2_with fail
            go_meet
            exact ⟨rfl, below_drewN hbel nq⟩
        · have p1 := decide_eq_false p
          have e1 : bb = false := by
            rw [← HBB.out]
            rw [beatsB, p1, Bool.and_false, Bool.false_and]
          subst e1
          clear p
          go_quiet (fail)
          go_wp2_with fail
          go_meet
          exact ⟨rfl, below_drewN hbel nq⟩
      case rest =>
        obtain ⟨rfl, hbel⟩ := hcut
        clear d0 d1 d2 d3 dl y1 y3
        cases bb
        · have HN2 := Lib.hid (HN.out rfl)
          go_wp2_with fail
          go_roundw
          case rel => exact ⟨k + 1, by omega, by go_num, HN2, hbel⟩
          case measure => simp [intOf]; omega
        · have e1 : R = false := HBK.out rfl
          subst e1
          go_wp2_with fail
          go_ret
          exact ⟨rfl, hbel⟩
set_option maxRecDepth 100000 in
set_option maxHeartbeats 8000000 in
theorem rfirst_any (b off n cap : Nat) (rs : List Rung) (i : Nat) (w : World) (hz : rs.length = n) (hi : i < n) (hn : n ≤ 100) (hlt : b < w.heap.size) (hS : Rungs w (.slice (some ⟨b, off, none⟩) n cap) rs) :
    Calls Try.prog 68 #[.slice (some ⟨b, off, none⟩) n cap, .int .i64 (i : Int)] w fun e w' => e = .returned (.bool (fsB rs i)) ∧ Below w.heap.size w w' := by
  have HC := Lib.hid (fun j (hj : j < n) => hS.cells j (by omega))
  obtain ⟨r, hr⟩ : ∃ r, rs.getD i rung0 = r := ⟨_, rfl⟩
  have HR := Lib.hid hr
  have HB : Hid (∀ j, j < n → badF rs i j = true → fsB rs i = false) := Lib.hid (fun j hj h => fsB_bad (by omega) h)
  have HG : Hid ((∀ j, j < n → badF rs i j = false) → fsB rs i = true) := Lib.hid (fun h => fsB_good (by rw [hz]; exact h))
  obtain ⟨R, hR⟩ : ∃ R, fsB rs i = R := ⟨_, rfl⟩
  rw [hR] at HB HG ⊢
  have i0 : (0 : Int) ≤ (i : Int) := by omega
  have i1 : (i : Int) < (n : Int) := by omega
  clear hz hS hR hr
  go_enter Try.func68, Try.ntmps68
  go_wp2_with fail
  go_loopw [9] (fun v wr => ∃ k : Nat, k ≤ n ∧ v = .int .i64 k ∧ Hid (∀ j, j < k → badF rs i j = false) ∧ Below w.heap.size w wr) (fun v _ => n - (intOf v).toNat)
  case atStart => exact ⟨0, by omega, rfl, Lib.hid (fun j hj => by omega), Below.refl _ _⟩
  case round =>
    obtain ⟨k, hk, rfl, HK, hbel⟩ := hrel
    by_cases hlt2 : k < n
    rotate_left
    · have hkn : k = n := by omega
      have e1 : R = true := HG.out (fun j hj => HK.out j (by omega))
      subst e1
      have hlt' : decide (k < n) = false := by simp; omega
      clear hlt2 hkn
      go_wp2_with fail
      go_ret
      exact ⟨rfl, hbel⟩
    · obtain ⟨x, hx⟩ : ∃ x, rs.getD k rung0 = x := ⟨_, rfl⟩
      obtain ⟨c0, c1, c2, c3⟩ := HC.out k hlt2
      rw [hx] at c0 c1 c2 c3
      rw [← hbel.cell (p := ⟨b, off + k * 4, none⟩) hlt] at c0
      rw [← hbel.cell (p := ⟨b, off + k * 4 + 1, none⟩) hlt] at c1
      rw [← hbel.cell (p := ⟨b, off + k * 4 + 2, none⟩) hlt] at c2
      rw [← hbel.cell (p := ⟨b, off + k * 4 + 3, none⟩) hlt] at c3
      obtain ⟨bb, hbb⟩ : ∃ bb, (decide (x.ra = r.ra) && (decide (r.qu < x.qu) || (decide (x.qu = r.qu) && decide (k < i)))) = bb := ⟨_, rfl⟩
      have HBK : Hid (bb = true → R = false) := Lib.hid (fun h => HB.out k hlt2 (by rw [badF, hx, HR.out]; rw [hbb]; exact h))
      have HN : Hid (bb = false → ∀ j, j < k + 1 → badF rs i j = false) := Lib.hid (fun h j hj => by
        by_cases e : j = k
        · subst e; rw [badF, hx, HR.out]; rw [hbb]; exact h
        · exact HK.out j (by omega))
      have HBB := Lib.hid hbb
      have hkI : IntKind.i64.wrap ((k : Int) + 1) = (k : Int) + 1 := IntWalk.i64_in _ ⟨by omega, by omega⟩
      have FX := Four.new wr x 37
      have hbel := hbel.alloc (o := .cells #[.string x.nm, .int .i64 x.ra, .int .i64 x.he, .int .i64 x.qu] 37) hbel.size
      clear hx hbb
      go_upto_region 4 with fail
      generalize wr.alloc (.cells #[.string x.nm, .int .i64 x.ra, .int .i64 x.he, .int .i64 x.qu] 37) = W at *
      have d0 := FX.c0; have d1 := FX.c1; have d2 := FX.c2; have d3 := FX.c3; have dl := FX.lt
      obtain ⟨-, y1, -, y3⟩ := HC.out i hi
      rw [HR.out] at y1 y3
      rw [← hbel.cell (p := ⟨b, off + i * 4 + 1, none⟩) hlt] at y1
      rw [← hbel.cell (p := ⟨b, off + i * 4 + 3, none⟩) hlt] at y3
      clear c0 c1 c2 c3
      go_cut [46] (fun sx wx => sx = .bool bb ∧ Below w.heap.size w wx)
      case first =>
        by_cases p : x.ra = r.ra
        · have p1 : (x.ra == r.ra) = true := by simp; omega
          have p2 : (x.ra != r.ra) = false := by simp; omega
          have p3 := decide_eq_true p
          by_cases q : r.qu < x.qu
          · have q1 := decide_eq_true q
            have e1 : bb = true := by
              rw [← HBB.out]
              rw [p3, q1]; rfl
            subst e1
            clear p q1 p3
            go_quiet (fail)
            go_wp2_with fail
            go_meet
            exact ⟨rfl, below_drewN hbel nq⟩
          · have q1 := decide_eq_false q
            by_cases u : x.qu = r.qu
            · have u1 : (x.qu == r.qu) = true := by simp; omega
              have u2 : (x.qu != r.qu) = false := by simp; omega
              have u3 := decide_eq_true u
              by_cases v : k < i
              · have v1 := decide_eq_true v
                have e1 : bb = true := by
                  rw [← HBB.out]
                  rw [p3, q1, u3, v1]; rfl
                subst e1
                clear p q u v1 p3 u3
                go_quiet (fail)
                go_wp2_with fail
                go_meet
                exact ⟨rfl, below_drewN hbel nq⟩
              · have v1 := decide_eq_false v
                have e1 : bb = false := by
                  rw [← HBB.out]
                  rw [p3, q1, u3, v1]; rfl
                subst e1
                clear p q u v p3 u3
                go_quiet (fail)
                go_wp2_with fail
                go_meet
                exact ⟨rfl, below_drewN hbel nq⟩
            · have u1 : (x.qu == r.qu) = false := by simp; omega
              have u2 : (x.qu != r.qu) = true := by simp; omega
              have u3 := decide_eq_false u
              have e1 : bb = false := by
                rw [← HBB.out]
                rw [p3, q1, u3]; rfl
              subst e1
              clear p q u p3 u3
              go_quiet (fail)
              go_wp2_with fail
              go_meet
              exact ⟨rfl, below_drewN hbel nq⟩
        · have p1 : (x.ra == r.ra) = false := by simp; omega
          have p2 : (x.ra != r.ra) = true := by simp; omega
          have p3 := decide_eq_false p
          have e1 : bb = false := by
            rw [← HBB.out]
            rw [p3]; rfl
          subst e1
          clear p p3
          go_quiet (fail)
          go_wp2_with fail
          go_meet
          exact ⟨rfl, below_drewN hbel nq⟩
      case rest =>
        obtain ⟨rfl, hbel⟩ := hcut
        clear d0 d1 d2 d3 dl y1 y3
        cases bb
        · have HN2 := Lib.hid (HN.out rfl)
          go_wp2_with fail
          go_roundw
          case rel => exact ⟨k + 1, by omega, by go_num, HN2, hbel⟩
          case measure => simp [intOf]; omega
        · have e1 : R = false := HBK.out rfl
          subst e1
          go_wp2_with fail
          go_ret
          exact ⟨rfl, hbel⟩
set_option maxRecDepth 100000 in
set_option maxHeartbeats 8000000 in
theorem rSens_walk (b off n cap : Nat) (rs : List Rung) (w : World) (hz : rs.length = n) (hn0 : 0 < n) (hlt : b < w.heap.size) (hS : Rungs w (.slice (some ⟨b, off, none⟩) n cap) rs) (hwf : ∀ y ∈ rs, y.nm.size ≤ maxLen) (h0 : rgF rs = 0) :
    Calls Try.prog 24 #[.slice (some ⟨b, off, none⟩) n cap] w fun e w' => (∃ v, e = .returned (.tuple #[v, .int .i64 0]) ∧ NumsC w' v (pickI (senB rs) rs n)) ∧ Below w.heap.size w w' := by
  obtain ⟨i0, hi, hi0, hi1, hi2⟩ := info_parts Try.infoInt8
  have hn : n ≤ 100 := by rw [← hz]; exact ((rgF_zero rs).1 h0).len
  have HCH := Lib.hid (rchkr_any _ rs w hS hwf)
  rw [h0] at HCH
  have HSE : Hid (∀ W i, Below w.heap.size w W → i < n → Calls Try.prog 59 #[.slice (some ⟨b, off, none⟩) n cap, .int .i64 ((i : Nat) : Int)] W fun e w' => e = .returned (.bool (senB rs (rs.getD i rung0))) ∧ Below W.heap.size W w') := Lib.hid (fun W i hb hi => rsens_any b off n cap rs i W hz hi hn (Nat.lt_of_lt_of_le hlt hb.size) (hS.below hb (Nat.le_refl _)))
  clear hS hz hwf h0
  go_enter Try.func24, Try.ntmps24
  go_wp2_with fail
  refine HCH.out.mono ?_; rintro e w1 ⟨rfl, b1⟩
  go_wp2_with fail
  go_loopw [5, 14] (fun v5 v10 wr => ∃ (k : Nat) (zs : List Int), k ≤ n ∧ v10 = .int .i64 k ∧ wr.ownsRow w.heap.size 3 1 v5 zs.length (zs.map (Value.int .i64)) ∧ Hid (pickI (senB rs) rs k = zs) ∧ Below w.heap.size w wr) (fun _ v10 _ => n - (intOf v10).toNat)
  case atStart => exact ⟨0, [], by omega, rfl, World.ownsRow_nil w1 _ _ _, Lib.hid rfl, b1⟩
  case round =>
    clear b1
    obtain ⟨k, zs, hk, rfl, hown, HZS, hbel⟩ := hrel
    by_cases hlt2 : k < n
    rotate_left
    · have hkn : k = n := by omega
      subst hkn
      have hlt' : decide (k < k) = false := by simp
      clear hlt2
      go_wp2_with fail
      go_ret2
      refine ⟨⟨_, rfl, ?_⟩, hbel⟩
      rw [HZS.out]
      exact NumsC.ofOwn hown
    · have hzl : zs.length ≤ 100 := by have := pickI_len (senB rs) rs k; rw [HZS.out] at this; omega
      have HST : Hid (pickI (senB rs) rs (k + 1) = if senB rs (rs.getD k rung0) = true then zs ++ [(k : Int)] else zs) := Lib.hid (by rw [pickI, HZS.out])
      have hkI : IntKind.i64.wrap ((k : Int) + 1) = (k : Int) + 1 := IntWalk.i64_in _ ⟨by omega, by omega⟩
      have hse := HSE.out wr k hbel hlt2
      obtain ⟨pr, hpr⟩ : ∃ pr, senB rs (rs.getD k rung0) = pr := ⟨_, rfl⟩
      rw [hpr] at hse HST
      have HPC := Lib.hid hse
      clear hpr hse
      go_wp2_with fail
      refine HPC.out.mono ?_; rintro e w3 ⟨rfl, b3⟩
      have hown := ownsRow_kept hown b3 (Nat.le_refl _)
      have hbel := hbel.trans (b3.mono hbel.size)
      clear b3 HPC
      cases pr
      · have HN : Hid (pickI (senB rs) rs (k + 1) = zs) := Lib.hid (by rw [HST.out, if_neg Bool.false_ne_true])
        go_wp2_with fail
        go_roundw
        case rel => exact ⟨k + 1, zs, by omega, by go_num, hown, HN, hbel⟩
        case measure => simp [intOf]; omega
      · have HN : Hid (pickI (senB rs) rs (k + 1) = zs ++ [(k : Int)]) := Lib.hid (by rw [HST.out, if_pos rfl])
        go_wp2_with (at_builtin; refine wpList_append_own _ rfl _ _ 40 rfl w.heap.size 3 i0 (.int .i64 0) 1 8 Try.underlying40 hi hi0 hi1 hi2 rfl (by decide) _ _ _ rfl (hown.alloc _) ⟨w3.heap.size, 0, none⟩ 1 1 [.int .i64 (k : Int)] rfl rfl ?b1 ?b2 ?b3 ?b4 ?b5 ?_)
        case b1 =>
          have := World.news_of_block (cs := #[.int .i64 (k : Int)]) (t := 3) (fr := (0, 0)) (heap_alloc_new w3 (.cells #[.int .i64 (k : Int)] 3))
          simpa using this
        case b2 => simp [Value.oneCell']
        case b3 => unfold maxLen; omega
        case b4 => omega
        case b5 => have := hbel.size; first | omega | (simp; omega)
        intro v' w4 hown1 hgrow _
        have hb2 : Below w.heap.size w w4 := ((hbel.alloc hbel.size _).grown hgrow (by have := hbel.size; simp; omega) (fun q hq => (hown.lt q hq).1))
        clear hgrow hown
        go_wp2_with fail
        go_roundw
        case rel =>
          refine ⟨k + 1, zs ++ [(k : Int)], by omega, by go_num, ?_, HN, hb2⟩
          rw [List.length_append, List.map_append]
          exact hown1
        case measure => simp [intOf]; omega
theorem rSens_none (a : Option Addr) (cap : Nat) (w : World) :
    Calls Try.prog 24 #[.slice a 0 cap] w fun e w' => e = .returned (.tuple #[.slice none 0 0, .int .i64 0]) ∧ w = w' := by
  go_enter Try.func24, Try.ntmps24
  go_wp2_with fail
  refine (rchkr_none _ _ _).mono ?_; rintro e w' ⟨rfl, rfl⟩
  go_wp2_with fail
  refine wp_loop_rounds 1 ?_
  rw [rounds_succ]
  go_wp2_with fail
  go_ret2
  exact ⟨rfl, rfl⟩
theorem rSens_fault (u : Value) (rs : List Rung) (w : World) (hS : Rungs w u rs) (hwf : ∀ y ∈ rs, y.nm.size ≤ maxLen) (h0 : rgF rs ≠ 0) :
    Calls Try.prog 24 #[u] w fun e w' => e = .returned (.tuple #[.slice none 0 0, .int .i64 (rgF rs)]) ∧ Below w.heap.size w w' := by
  have HCH := Lib.hid (rchkr_any _ rs w hS hwf)
  obtain ⟨F, hF⟩ : ∃ F, rgF rs = F := ⟨_, rfl⟩
  rw [hF] at HCH h0 ⊢
  have hne : (F == 0) = false := by simp; exact h0
  have hne2 : (F != 0) = true := by simp; exact h0
  clear h0 hF hS hwf
  go_enter Try.func24, Try.ntmps24
  go_wp2_with fail
  refine HCH.out.mono ?_; rintro e w' ⟨rfl, b1⟩
  go_wp2_with fail
  go_ret2
  exact ⟨rfl, b1⟩
theorem rSensible_any (u : Value) (rs : List Rung) (w : World) (h : Rungs w u rs) (hwf : ∀ y ∈ rs, y.nm.size ≤ maxLen) :
    Calls Try.prog 24 #[u] w fun e w' => (∃ v, e = .returned (.tuple #[v, .int .i64 (rgF rs)]) ∧ NumsC w' v (senL rs)) ∧ Below w.heap.size w w' := by
  by_cases h0 : rgF rs = 0
  · rw [senL, if_pos h0, h0]
    by_cases h1 : rs.length = 0
    · have : rs = [] := List.length_eq_zero_iff.1 h1
      subst this
      obtain ⟨a, cap, rfl⟩ := h.parts
      refine (rSens_none a cap w).mono ?_
      rintro e w' ⟨rfl, rfl⟩
      exact ⟨⟨_, rfl, .inl ⟨_, _, rfl, rfl⟩⟩, Below.refl _ _⟩
    · obtain ⟨b, off, cap, rfl, hlt, hl, hm⟩ := h.spot (by omega)
      exact rSens_walk b off rs.length cap rs w rfl (by omega) hlt h hwf h0
  · rw [senL, if_neg h0]
    refine (rSens_fault u rs w h hwf h0).mono ?_
    rintro e w' ⟨rfl, b1⟩
    exact ⟨⟨_, rfl, .inl ⟨_, _, rfl, rfl⟩⟩, b1⟩

end Go.Proofs.Ytfjgpafcdkodmaa
