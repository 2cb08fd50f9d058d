/- The library's generic functions at samples: slices.Clone, slices.ContainsFunc: their contracts laid at these numbers. -/
import Derived.Test.YtgpiagdldcnijabSmps
import Derived.Test.YtgpiagdldcnijabTightPlain
import Derived.Shelf.SlicesE.Clone
import Derived.Shelf.SlicesQ.IndexFunc
namespace Go.Proofs.Ytgpiagdldcnijab
set_option linter.unusedVariables false
open Go.RowKit Go.Shelf Go.Deep

def cloneRen : Go.Shelf.Ren := ⟨fun | 41 => 120 | n => n, fun | 4 => 4 | 22 => 33 | 23 => 50 | n => n, fun | n => n⟩
theorem cloneLays : Go.Proofs.SlLaysE0.n41 Try.prog cloneRen := {
  mixed := by kernel_rfl
  f41 := ⟨"slices.Clone[[]headend/api.Sample,headend/api.Sample]", by kernel_rfl, Try.func120.trans (congrArg some (by kernel_rfl))⟩
  t4 := Try.underlying4
  a4 := Try.isAgg4
  z4 := Try.sizeOf4
  v4 := Try.zeroValue4
  t22 := Try.underlying33
  a22 := Try.isAgg33
  z22 := Try.sizeOf33
  v22 := Try.zeroValue33 }
theorem Try.infoSample : (Try.prog.info? 50).map (fun i => (i.zero, i.size, i.bytes)) = some (some (.agg #[.int .i64 0, .int .i64 0, .int .i64 0, .int .i64 0, .bool false]), 5, 40) := by kernel_rfl

def containsRen : Go.Shelf.Ren := ⟨fun | 6 => 136 | 8 => 96 | n => n, fun | 0 => 0 | 3 => 3 | 4 => 4 | 22 => 33 | 23 => 50 | 25 => 104 | n => n, fun | n => n⟩
theorem containsLays : Go.Proofs.SlLaysH0.n8 Try.prog containsRen := {
  mixed := by kernel_rfl
  f6 := ⟨"slices.IndexFunc[[]headend/api.Sample,headend/api.Sample]", by kernel_rfl, Try.func136.trans (congrArg some (by kernel_rfl))⟩
  f8 := ⟨"slices.ContainsFunc[[]headend/api.Sample,headend/api.Sample]", by kernel_rfl, Try.func96.trans (congrArg some (by kernel_rfl))⟩
  t0 := Try.underlying0
  a0 := Try.isAgg0
  z0 := Try.sizeOf0
  v0 := Try.zeroValue0
  t3 := Try.underlying3
  a3 := Try.isAgg3
  z3 := Try.sizeOf3
  v3 := Try.zeroValue3
  t4 := Try.underlying4
  a4 := Try.isAgg4
  z4 := Try.sizeOf4
  v4 := Try.zeroValue4
  t22 := Try.underlying33
  a22 := Try.isAgg33
  z22 := Try.sizeOf33
  v22 := Try.zeroValue33
  t25 := Try.underlying104
  a25 := Try.isAgg104
  z25 := Try.sizeOf104
  v25 := Try.zeroValue104 }

/-- A slice that reads as samples, of the call's own (from base on), or empty. -/
def OwnS (w : World) (base : Nat) (v : Value) (ss : List Smp) : Prop :=
  (ss = [] ∧ ∃ a cap, v = .slice a 0 cap) ∨ w.ownsRow base 50 5 v ss.length (scells ss)

theorem Smps.ofOwn {w : World} {base : Nat} {e : TypeId} {v : Value} {ss : List Smp} (h : w.ownsRow base e 5 v ss.length (scells ss)) : Smps w v ss := by
  by_cases hz : ss = []
  · subst hz
    rcases h.2 with ⟨rfl, _⟩ | ⟨g, cap, cur, rfl, _⟩
    · exact .nil w
    · exact .inl ⟨_, _, rfl, rfl⟩
  · have hl : 0 < ss.length := List.length_pos_iff.2 hz
    have hlt := h.lt
    rcases h.2 with ⟨_, h0⟩ | ⟨g, cap, cur, rfl, hb, hg, hnc, hcm, hcs, htake⟩
    · omega
    · refine .inr ⟨g, 0, cap, rfl, hl, (hlt g rfl).2, hnc, hcm, fun j hj c hc => ?_⟩
      obtain ⟨h0, h1, h2, h3, h4⟩ := scells_at ss j hj
      rw [Nat.zero_add, World.ownsRow.cellAt h (j * 5 + c) (by omega)]
      have : c = 0 ∨ c = 1 ∨ c = 2 ∨ c = 3 ∨ c = 4 := by omega
      rcases this with rfl | rfl | rfl | rfl | rfl
      · exact h0
      · exact h1
      · exact h2
      · exact h3
      · exact h4
theorem OwnS.smps {w : World} {base : Nat} {v : Value} {ss : List Smp} (h : OwnS w base v ss) : Smps w v ss := by
  rcases h with ⟨rfl, a, c, rfl⟩ | h
  · exact .inl ⟨a, c, rfl, rfl⟩
  · exact .ofOwn h

set_option maxHeartbeats 1000000 in
/-- slices.Clone at samples. -/
theorem clone_any (v : Value) (ss : List Smp) (w : World) (h : Smps w v ss) (h5 : ss.length ≤ 100000) :
    Calls Try.prog 120 #[v] w fun e w' => (∃ u, e = .returned u ∧ OwnS w' w.heap.size u ss) ∧ Below w.heap.size w w' := by
  by_cases h0 : ss = []
  · subst h0
    obtain ⟨a, c, rfl⟩ := h.parts
    cases a with
    | none =>
      refine (Go.Proofs.AnyE.slices_Clone_nil cloneLays _ c w).mono ?_
      rintro e w' ⟨rfl, rfl⟩
      exact ⟨⟨_, rfl, .inl ⟨rfl, _, _, rfl⟩⟩, Below.refl _ _⟩
    | some x =>
      obtain ⟨i0, hi, hz0, hz1, hz2⟩ := info_parts Try.infoSample
      have q22 : ∀ (w : World) (a : Option Addr) (n c n' c' : Nat), (binOp .eql 33 (.slice a n c) (.slice none n' c')).run Try.prog w = .ok (.bool a.isNone) w := fun w a n c n' c' => Lib.run_eql_slice_nil w _ _ a n c n' c' Try.underlying33
      clear h h5
      go_enter Try.func120, Try.ntmps120
      go_wp2_with (at_builtin; refine wpList_append_own _ rfl _ _ 33 rfl w.heap.size 50 i0 (.agg #[.int .i64 0, .int .i64 0, .int .i64 0, .int .i64 0, .bool false]) 5 40 Try.underlying33 hi hz0 hz1 hz2 rfl (by decide) _ _ _ rfl (World.ownsRow_made w #[] 0 (Nat.le_refl _) (Nat.zero_le _) rfl) x 0 c [] rfl rfl (by intro j u hj; simp at hj) (by intro u hu; cases hu) (by unfold maxLen; omega) (by omega) (by simp) ?_)
      intro v' w1 hown hgrow hnil
      go_wp2
      go_ret
      exact ⟨⟨v', rfl, .inr (by simpa [scells] using hown)⟩, ((Below.refl _ w).alloc (Nat.le_refl _) _).grown hgrow (by simp) (by intro k hk; simp [Value.ownBlock] at hk; omega)⟩
  · rcases h with ⟨a, c, rfl, hz⟩ | ⟨b, off, cap, rfl, hne, hlt, hl, hm, hc⟩
    · exact absurd (List.length_eq_zero_iff.1 hz) h0
    · obtain ⟨i0, hi, hi0, hi1, hi2⟩ := info_parts Try.infoSample
      have hcell : ∀ j u, (scells ss)[j]? = some u → w.cell? ⟨b, off + j, none⟩ = some u := by
        intro j u hu
        have hj : j < ss.length * 5 := by rw [← scells_len]; exact (List.getElem?_eq_some_iff.1 hu).1
        have h1 := hc (j / 5) (by omega) (j % 5) (by omega)
        obtain ⟨q0, q1, q2, q3, q4⟩ := scells_at ss (j / 5) (by omega)
        have ej : j / 5 * 5 + j % 5 = j := by omega
        rw [show off + j / 5 * 5 + j % 5 = off + j by omega] at h1
        rw [h1, ← hu]
        have : j % 5 = 0 ∨ j % 5 = 1 ∨ j % 5 = 2 ∨ j % 5 = 3 ∨ j % 5 = 4 := by omega
        rcases this with e | e | e | e | e
        · rw [show j / 5 * 5 = j by omega] at q0; rw [e, q0]; rfl
        · rw [show j / 5 * 5 + 1 = j by omega] at q1; rw [e, q1]; rfl
        · rw [show j / 5 * 5 + 2 = j by omega] at q2; rw [e, q2]; rfl
        · rw [show j / 5 * 5 + 3 = j by omega] at q3; rw [e, q3]; rfl
        · rw [show j / 5 * 5 + 4 = j by omega] at q4; rw [e, q4]; rfl
      refine (Go.Proofs.AnyE.slices_Clone cloneLays i0 _ 5 40 hi hi0 hi1 hi2 rfl (by omega) Try.sizeOf50 b off ss.length cap (scells ss) w (scells_len ss) (by unfold maxLen; omega) (by omega) hcell ?_).mono ?_
      · intro u hu
        obtain ⟨y, -, hy⟩ := List.mem_flatMap.1 hu
        simp only [List.mem_cons, List.not_mem_nil, or_false] at hy
        rcases hy with rfl | rfl | rfl | rfl | rfl <;> rfl
      · rintro e w' ⟨v', rfl, hown, -, hb⟩
        exact ⟨⟨_, rfl, .inr hown⟩, hb⟩

end Go.Proofs.Ytgpiagdldcnijab
