/- slices.Clone, slices.Delete at renditions; LadderMoreIsWorthMore. -/
import Derived.Test.YtfjgpafcdkodmaaWorth
import Derived.Test.YtfjgpafcdkodmaaMorePlain
import Derived.Test.YtfjgpafcdkodmaaMean5
import Derived.Shelf.SlicesE.Clone
import Derived.Deep.RegionLaw
import Derived.Lib.SliceRun
namespace Go.Proofs.Ytfjgpafcdkodmaa
set_option linter.unusedVariables false
set_option linter.unusedSimpArgs false
open Go.RowKit Go.Shelf Go.Deep

def rcells (rs : List Rung) : List Value := rs.flatMap fun y => [.string y.nm, .int .i64 y.ra, .int .i64 y.he, .int .i64 y.qu]
theorem rcells_cons (p : Rung) (ss : List Rung) : rcells (p :: ss) = .string p.nm :: .int .i64 p.ra :: .int .i64 p.he :: .int .i64 p.qu :: rcells ss := rfl
theorem rcells_len (ss : List Rung) : (rcells ss).length = ss.length * 4 := by
  induction ss with
  | nil => rfl
  | cons p ps ih => rw [rcells_cons]; simp [ih]; omega
theorem rcells_at (ss : List Rung) : ∀ j, j < ss.length → ∀ c, c < 4 → (rcells ss)[j * 4 + c]? = some (rungC (ss.getD j rung0) c) := by
  induction ss with
  | nil => intro j hj; simp at hj
  | cons p ps ih =>
    intro j hj c hc
    cases j with
    | zero =>
      have : c = 0 ∨ c = 1 ∨ c = 2 ∨ c = 3 := by omega
      rcases this with rfl | rfl | rfl | rfl <;> rfl
    | succ j =>
      have h0 := ih j (by simpa using hj) c hc
      rw [rcells_cons, show (j + 1) * 4 + c = j * 4 + c + 1 + 1 + 1 + 1 by omega]
      simp only [List.getElem?_cons_succ, List.getD_cons_succ]
      exact h0
theorem rcells_one (ss : List Rung) : ∀ u ∈ rcells ss, u.oneCell' = true := by
  intro u hu
  obtain ⟨y, -, hy⟩ := List.mem_flatMap.1 hu
  simp only [List.mem_cons, List.not_mem_nil, or_false] at hy
  rcases hy with rfl | rfl | rfl | rfl <;> rfl
def rcloneRen : Go.Shelf.Ren := ⟨fun | 41 => 22 | n => n, fun | 4 => 4 | 22 => 22 | 23 => 37 | n => n, fun | n => n⟩
theorem rcloneLays : Go.Proofs.SlLaysE0.n41 Try.prog rcloneRen := {
  mixed := by kernel_rfl
  f41 := ⟨"slices.Clone[[]headend/api.Rung,headend/api.Rung]", by kernel_rfl, Try.func22.trans (congrArg some (by kernel_rfl))⟩
  t4 := Try.underlying4
  a4 := Try.isAgg4
  z4 := Try.sizeOf4
  v4 := Try.zeroValue4
  t22 := Try.underlying22
  a22 := Try.isAgg22
  z22 := Try.sizeOf22
  v22 := Try.zeroValue22 }
theorem Try.infoRung : (Try.prog.info? 37).map (fun i => (i.zero, i.size, i.bytes)) = some (some (.agg #[.string ⟨#[]⟩, .int .i64 0, .int .i64 0, .int .i64 0]), 4, 40) := by kernel_rfl
set_option maxHeartbeats 1000000 in
/-- slices.Clone at renditions, of at least one. -/
theorem rclone_any (v : Value) (ss : List Rung) (w : World) (h : Rungs w v ss) (h0 : 0 < ss.length) (h5 : ss.length ≤ 100) :
    Calls Try.prog 22 #[v] w fun e w' => (∃ u, e = .returned u ∧ w'.ownsRow w.heap.size 37 4 u ss.length (rcells ss)) ∧ Below w.heap.size w w' := by
  rcases h with ⟨a, c, rfl, hz⟩ | ⟨b, off, cap, rfl, hne, hlt, hl, hm, hc⟩
  · omega
  · obtain ⟨i0, hi, hi0, hi1, hi2⟩ := info_parts Try.infoRung
    have hcell : ∀ j u, (rcells ss)[j]? = some u → w.cell? ⟨b, off + j, none⟩ = some u := by
      intro j u hu
      have hj : j < ss.length * 4 := by rw [← rcells_len]; exact (List.getElem?_eq_some_iff.1 hu).1
      have h1 := hc (j / 4) (by omega) (j % 4) (by omega)
      have h2 := rcells_at ss (j / 4) (by omega) (j % 4) (by omega)
      rw [show j / 4 * 4 + j % 4 = j by omega] at h2
      rw [show off + j / 4 * 4 + j % 4 = off + j by omega] at h1
      rw [h1, ← hu, h2]
    refine (Go.Proofs.AnyE.slices_Clone rcloneLays i0 _ 4 40 hi hi0 hi1 hi2 rfl (by omega) Try.sizeOf37 b off ss.length cap (rcells ss) w (rcells_len ss) (by unfold maxLen; omega) (by omega) hcell (rcells_one ss)).mono ?_
    rintro e w' ⟨v', rfl, hown, -, hb⟩
    exact ⟨⟨_, rfl, hown⟩, hb⟩
/-- clear at a slice of one rendition. -/
theorem run_clear_rung (w : World) (ty : TypeId) (b o c : Nat) (hc : ∀ j, j < 4 → (w.cell? ⟨b, o + j, none⟩).isSome = true) (hf : ∀ j, j < 4 → w.frozen? ⟨b, o + j, none⟩ = false) :
    (Builtin.clear_ #[22] ty #[.slice (some ⟨b, o, none⟩) 1 c]).run Try.prog w = .ok (.tuple #[]) (w.setCells b o [.string ⟨#[]⟩, .int .i64 0, .int .i64 0, .int .i64 0]) := by
  have hzc : (Builtin.zeroCells (Value.agg #[.string ⟨#[]⟩, .int .i64 0, .int .i64 0, .int .i64 0]).cells 1).toList = [.string ⟨#[]⟩, .int .i64 0, .int .i64 0, .int .i64 0] := by kernel_rfl
  have hst := run_storeCells_cells (P := Try.prog) b o [.string ⟨#[]⟩, .int .i64 0, .int .i64 0, .int .i64 0] 0 w (by simpa using hc) (by simpa using hf) (by intro v hv'; simp only [List.mem_cons, List.not_mem_nil, or_false] at hv'; rcases hv' with rfl | rfl | rfl | rfl <;> rfl)
  simp only [Nat.add_zero] at hst
  simp [Builtin.clear_, run_underlying Try.underlying22, Try.zeroValue37, hzc, hst]
theorem keeps_setCells {B : Nat} {a : World} (b : Nat) (hb : B ≤ b) : ∀ (vs : List Value) (o : Nat) {w : World}, Below B a w → Below B a (w.setCells b o vs)
  | [], _, _, h => h
  | v :: vs, o, w, h => keeps_setCells b hb vs (o + 1) (h.setCell (p := ⟨b, o, none⟩) hb v)
theorem without_cells {rs : List Rung} {n i : Nat} (hn : rs.length = n) (hi : i < n) (t : Nat) (ht : t < (n - (i + 1)) * 4) : ((rcells rs).drop ((i + 1) * 4))[t]? = some (rungC (rs.getD (i + 1 + t / 4) rung0) (t % 4)) := by
  rw [List.getElem?_drop, show (i + 1) * 4 + t = (i + 1 + t / 4) * 4 + t % 4 by omega]
  exact rcells_at rs _ (by omega) _ (by omega)
set_option maxRecDepth 100000 in
set_option maxHeartbeats 8000000 in
/-- slices.Delete of one rendition of a row of the call's own. -/
theorem rdelete_any (g n cap i base : Nat) (rs : List Rung) (w : World) (hn : rs.length = n) (hi : i < n) (hn5 : n ≤ 100) (hown : w.ownsRow base 37 4 (.slice (some ⟨g, 0, none⟩) n cap) n (rcells rs)) :
    Calls Try.prog 21 #[.slice (some ⟨g, 0, none⟩) n cap, .int .i64 (i : Int), .int .i64 ((i : Int) + 1)] w fun e w' => e = .returned (.slice (some ⟨g, 0, none⟩) (n - 1) cap) ∧ Rungs w' (.slice (some ⟨g, 0, none⟩) (n - 1) cap) (without rs i) ∧ Below base w w' := by
  obtain ⟨i0, hi0', hz0, hz1, hz2⟩ := info_parts Try.infoRung
  have hlt := hown.lt
  have hcell : ∀ j, j < n * 4 → w.cell? ⟨g, j, none⟩ = (rcells rs)[j]? := fun j hj => World.ownsRow.cellAt hown j hj
  have hfr : ∀ j, w.frozen? ⟨g, j, none⟩ = false := fun j => World.ownsRow.frozenAt hown j
  obtain ⟨hbg, hgl⟩ := hlt g rfl
  have hcap : n ≤ cap ∧ cap ≤ 9223372036854775807 := by
    rcases hown.2 with ⟨hv, -⟩ | ⟨g', cap', cur, hv, hb, hg, hnc, hcm, hcs, htake⟩
    · simp at hv
    · simp only [Value.slice.injEq] at hv
      obtain ⟨-, -, rfl⟩ := hv
      exact ⟨hnc, hcm⟩
  obtain ⟨hnc, hcm⟩ := hcap
  obtain ⟨news, hnews⟩ : ∃ news, news = (rcells rs).drop ((i + 1) * 4) := ⟨_, rfl⟩
  have hlen : news.length = (n - (i + 1)) * 4 := by rw [hnews, List.length_drop, rcells_len, hn]; omega
  have hget : ∀ t, t < (n - (i + 1)) * 4 → news[t]? = some (rungC (rs.getD (i + 1 + t / 4) rung0) (t % 4)) := fun t ht => by rw [hnews]; exact without_cells hn hi t ht
  have hcv : ∀ j, j < n → ∀ c, c < 4 → w.cell? ⟨g, j * 4 + c, none⟩ = some (rungC (rs.getD j rung0) c) := fun j hj c hc => by
    rw [hcell _ (by omega)]; exact rcells_at rs j (by omega) c hc
  have hsome : ∀ j, j < n * 4 → (w.cell? ⟨g, j, none⟩).isSome = true := fun j hj => by
    have := hcv (j / 4) (by omega) (j % 4) (by omega)
    rw [show j / 4 * 4 + j % 4 = j by omega] at this
    rw [this]; rfl
  obtain ⟨A, hA, hsrc⟩ : ∃ A : Addr, (if cap = i + 1 then some (⟨g, 0, none⟩ : Addr) else some ⟨g, (i + 1) * 4, none⟩) = some A ∧ Hid (∀ t u, news[t]? = some u → w.drew.cell? (A.add t) = some u) := by
    by_cases h : cap = i + 1
    · refine ⟨⟨g, 0, none⟩, by simp [h], Lib.hid fun t u hu => ?_⟩
      have h0 : news.length = 0 := by rw [hlen]; omega
      rw [List.length_eq_zero_iff.1 h0] at hu
      simp at hu
    · refine ⟨⟨g, (i + 1) * 4, none⟩, by simp [h], Lib.hid fun t u hu => ?_⟩
      have ht : t < (n - (i + 1)) * 4 := by
        have := (List.getElem?_eq_some_iff.1 hu).1
        rwa [hlen] at this
      rw [hget t ht] at hu
      rw [Addr.add_lit]
      have h1 := hcv (i + 1 + t / 4) (by omega) (t % 4) (by omega)
      rw [show (i + 1 + t / 4) * 4 + t % 4 = (i + 1) * 4 + t by omega] at h1
      exact h1.trans hu
  have s1 : Hid (news.length = (n - (i + 1)) * 4) := Lib.hid hlen
  have s2 : Hid (∀ u ∈ news, u.oneCell' = true) := Lib.hid (by
    intro u hu
    rw [hnews] at hu
    exact rcells_one rs u (List.mem_of_mem_drop hu))
  have s3 : Hid (∀ t, t < news.length → (w.drew.cell? ⟨g, 0 + i * 4 + t, none⟩).isSome = true ∧ w.drew.frozen? ⟨g, 0 + i * 4 + t, none⟩ = false) := Lib.hid (by
    intro t ht
    rw [hlen] at ht
    exact ⟨hsome _ (by omega), hfr _⟩)
  obtain ⟨W1, hW1⟩ : ∃ W1, W1 = w.drew.setCells g (0 + i * 4) news := ⟨_, rfl⟩
  have hsd : ∀ j, j < n * 4 → (w.drew.cell? ⟨g, j, none⟩).isSome = true := hsome
  have hsome1 : ∀ j, j < n * 4 → (W1.cell? ⟨g, j, none⟩).isSome = true := fun j hj => by
    rw [hW1]
    exact World.isSome_setCells g news _ _ _ (hsd j hj)
  have hf1 : ∀ j, W1.frozen? ⟨g, j, none⟩ = false := fun j => by rw [hW1, World.frozen?_setCells]; exact hfr j
  have hcl : ∀ ty c, (Builtin.clear_ #[22] ty #[.slice (some ⟨g, (n - 1) * 4, none⟩) 1 c]).run Try.prog W1 = .ok (.tuple #[]) (W1.setCells g ((n - 1) * 4) [.string ⟨#[]⟩, .int .i64 0, .int .i64 0, .int .i64 0]) :=
    fun ty c => run_clear_rung W1 ty g ((n - 1) * 4) c (fun j hj => hsome1 _ (by omega)) (fun j hj => hf1 _)
  have hbel1 : Below base w W1 := by rw [hW1]; exact keeps_setCells g hbg _ _ ((Below.refl _ w).drew)
  have hbel2 : Below base w (W1.setCells g ((n - 1) * 4) [.string ⟨#[]⟩, .int .i64 0, .int .i64 0, .int .i64 0]) := keeps_setCells g hbg _ _ hbel1
  have hread : Rungs (W1.setCells g ((n - 1) * 4) [.string ⟨#[]⟩, .int .i64 0, .int .i64 0, .int .i64 0]) (.slice (some ⟨g, 0, none⟩) (n - 1) cap) (without rs i) := by
    have hwl := without_len (rs := rs) (p := i) (by omega)
    rw [hn] at hwl
    by_cases h1 : n - 1 = 0
    · exact .inl ⟨_, cap, by rw [h1], by omega⟩
    · refine .inr ⟨g, 0, cap, by rw [hwl], by omega, Nat.lt_of_lt_of_le hgl hbel2.size, by omega, by unfold maxLen; omega, fun j hj c hc => ?_⟩
      rw [hwl] at hj
      show (W1.setCells g ((n - 1) * 4) _).cell? _ = some (rungC ((without rs i).getD j rung0) c)
      rw [Nat.zero_add, World.cell?_setCells_out g _ _ _ _ (fun _ _ => by left; show j * 4 + c < (n - 1) * 4; omega), hW1, without_at (by omega)]
      by_cases hji : j < i
      · rw [if_pos hji, World.cell?_setCells_out g _ _ _ _ (fun _ _ => by left; show j * 4 + c < 0 + i * 4; omega)]
        exact hcv j (by omega) c hc
      · rw [if_neg hji]
        have h2 := World.cell?_setCells_in g news (0 + i * 4) w.drew (fun t ht => hsd _ (by rw [hlen] at ht; omega)) (j * 4 + c - i * 4) (by rw [hlen]; omega)
        have h3 := hget (j * 4 + c - i * 4) (by omega)
        rw [show 0 + i * 4 + (j * 4 + c - i * 4) = j * 4 + c by omega] at h2
        rw [h2]
        rw [List.getElem?_eq_getElem (by rw [hlen]; omega)] at h3
        rw [show i + 1 + (j * 4 + c - i * 4) / 4 = j + 1 by omega, show (j * 4 + c - i * 4) % 4 = c by omega] at h3
        exact h3
  have X : Hid (Rungs (W1.setCells g ((n - 1) * 4) [.string ⟨#[]⟩, .int .i64 0, .int .i64 0, .int .i64 0]) (.slice (some ⟨g, 0, none⟩) (n - 1) cap) (without rs i) ∧ Below base w (W1.setCells g ((n - 1) * 4) [.string ⟨#[]⟩, .int .i64 0, .int .i64 0, .int .i64 0])) := Lib.hid ⟨hread, hbel2⟩
  have hW : Hid (W1 = w.drew.setCells g (0 + i * 4) news) := Lib.hid hW1
  have q0 : (0 : Int) ≤ (i : Int) := by omega
  have q1 : (i : Int) ≤ (i : Int) + 1 := by omega
  have q2 : (i : Int) + 1 ≤ (n : Int) := by omega
  have q3 : (n : Int) ≤ (cap : Int) := by omega
  have q4 : ((i : Int) == (i : Int) + 1) = false := by simp; omega
  have q5 : ((i : Int) + 1).toNat = i + 1 := by omega
  have q6 : (i : Int) ≤ (cap : Int) := by omega
  have q7 : (0 : Int) ≤ (i : Int) + 1 := by omega
  have q8 : (i : Int) + 1 ≤ (cap : Int) := by omega
  obtain ⟨p, hp⟩ : ∃ p, n - 1 = p := ⟨_, rfl⟩
  have e1 : i + (n - (i + 1)) = p := by omega
  have e2 : n - p = 1 := by omega
  have r1 : (0 : Int) ≤ (p : Int) := by omega
  have r2 : (p : Int) ≤ (n : Int) := by omega
  have r3 : ¬ cap = p := by omega
  have r4 : (p : Int) ≤ (cap : Int) := by omega
  rw [hp] at hcl X ⊢
  clear hp hread hbel1 hbel2 hsome1 hf1 hsd hW1 hsome hcv hget hlen hcell hfr hnews hown hlt hn
  go_enter Try.func21, Try.ntmps21
  go_wp2_with fail
  go_region_law (refine step_append_room rfl (.tmp 22) (.tmp 25) 22 rfl 37 i0 4 Try.underlying22 hi0' hz1 g 0 i cap (by simp [Act.eval, Act.put]) A (n - (i + 1)) (cap - (i + 1)) news (by simp [Act.eval, Act.put]) s1.out hsrc.out s2.out (by omega) s3.out ?_; rw [← hW.out])
  go_wp2_with fail
  go_ret
  exact ⟨rfl, X.out.1, X.out.2⟩


end Go.Proofs.Ytfjgpafcdkodmaa
