/- Plain facts of Choose: its errors, what it returns, and that this is the best. -/
import Derived.Test.YtgbdmgmbdjajeaaPlanPlain
namespace Go.Proofs.Ytgbdmgmbdjajeaa
set_option linter.unusedVariables false
set_option linter.unusedSimpArgs false
open Go.RowKit

/-- What is wrong with the end of what is cut at places. -/
def endF (zs : List Int) (en : Int) : Int := fstF [fIf (!inB en (-1000000000000000) 1000000000000000) 1, fIf (decide (en ≤ zs.getD (zs.length - 1) 0)) 8, fIf (decide (1000000000000 < IntKind.i64.wrap (en - zs.getD 0 0))) 1]
/-- Stop j: a place, or the end. -/
def stopF (zs : List Int) (en : Int) (j : Nat) : Int := (zs ++ [en]).getD j 0
theorem stopF_lt (zs : List Int) (en : Int) (j : Nat) (h : j < zs.length) : stopF zs en j = zs.getD j 0 := getD_snoc_lt _ _ _ h
theorem stopF_end (zs : List Int) (en : Int) : stopF zs en zs.length = en := getD_snoc_eq _ _ _ rfl
theorem endF_zero {zs : List Int} {en : Int} (g : Rises zs) (h : endF zs en = 0) : (-1000000000000000 ≤ en ∧ en ≤ 1000000000000000) ∧ zs.getD (zs.length - 1) 0 < en ∧ en - zs.getD 0 0 ≤ 1000000000000 := by
  unfold endF at h
  rw [fstF_zero] at h
  simp only [List.mem_cons, List.not_mem_nil, or_false, forall_eq_or_imp, forall_eq] at h
  rw [fIf_zero (by decide), fIf_zero (by decide), fIf_zero (by decide)] at h
  simp only [Bool.not_eq_false', inB_iff, decide_eq_false_iff_not] at h
  obtain ⟨⟨a, b⟩, c, d⟩ := h
  have h0 := g.time 0 g.pos
  rw [show IntKind.i64.wrap (en - zs.getD 0 0) = en - zs.getD 0 0 from IntWalk.i64_in _ ⟨by omega, by omega⟩] at d
  exact ⟨⟨a, b⟩, by omega, by omega⟩
/-- Places and an end that are right are stops. -/
theorem stops_of {zs : List Int} {en T M : Int} (g : Rises zs) (he : zs.getD (zs.length - 1) 0 < en) (hT : 1 ≤ T ∧ T ≤ 50000000) (hM : T ≤ M ∧ M ≤ 50000000) : Stops (stopF zs en) zs.length T M := by
  refine ⟨fun i j hij hj => ?_, hT, hM⟩
  have hp := g.pos
  rw [stopF_lt zs en i (by omega)]
  by_cases hjl : j < zs.length
  · rw [stopF_lt zs en j hjl]
    exact g.lt i j hij hjl
  · rw [show j = zs.length by omega, stopF_end]
    by_cases h : i = zs.length - 1
    · rw [h]; exact he
    · have := g.lt i (zs.length - 1) (by omega) (by omega); omega
def chooseF (zs : List Int) (en sc T M : Int) : Int :=
  if placesF zs sc T M ≠ 0 then placesF zs sc T M else if endF zs en ≠ 0 then endF zs en else if (planOf (stopF zs en) T M zs.length 0).many = 0 then 9 else 0
/-- The boundaries, and the sum of the squares, that Choose returns. -/
def chooseL (zs : List Int) (en sc T M : Int) : List Int := if chooseF zs en sc T M = 0 then chainP (stopF zs en) (planOf (stopF zs en) T M zs.length) zs.length zs.length 0 else []
def chooseS (zs : List Int) (en sc T M : Int) : Int := if chooseF zs en sc T M = 0 then (planOf (stopF zs en) T M zs.length 0).sum else 0
/-- One step along the plans. -/
theorem chain_step {st : Nat → Int} {T M : Int} {e f i : Nat} (g : Stops st e T M) (hi : i < e) (hm : (planOf st T M e i).many ≠ 0) (hf : e - i ≤ f) :
    ∃ f', f = f' + 1 ∧ chainP st (planOf st T M e) e f i = st i :: chainP st (planOf st T M e) e f' (planOf st T M e i).next ∧ i < (planOf st T M e i).next ∧ (planOf st T M e i).next ≤ e ∧ e - (planOf st T M e i).next ≤ f' ∧
      ((planOf st T M e i).next < e → (planOf st T M e (planOf st T M e i).next).many ≠ 0) := by
  obtain ⟨f', rfl⟩ : ∃ f', f = f' + 1 := ⟨f - 1, by omega⟩
  obtain ⟨k, h1, h2, h3, h4, h5⟩ := planOf_some hi hm
  have hk : (planOf st T M e i).next = k := by rw [h5]; rfl
  refine ⟨f', rfl, ?_, by omega, by omega, by omega, by rw [hk]; exact h4⟩
  rw [chainP, if_pos hi]
theorem chooseL_len {zs : List Int} {en sc T M : Int} (h : chooseF zs en sc T M = 0) : placesF zs sc T M = 0 ∧ endF zs en = 0 ∧ (planOf (stopF zs en) T M zs.length 0).many ≠ 0 ∧ (chooseL zs en sc T M).length = (planOf (stopF zs en) T M zs.length 0).many := by
  have hp : placesF zs sc T M = 0 := by
    by_cases h0 : placesF zs sc T M = 0
    · exact h0
    · rw [chooseF, if_pos h0] at h; exact h
  have he : endF zs en = 0 := by
    by_cases h0 : endF zs en = 0
    · exact h0
    · rw [chooseF, if_neg (by simp [hp]), if_pos h0] at h; exact h
  have hm : (planOf (stopF zs en) T M zs.length 0).many ≠ 0 := by
    intro h0
    rw [chooseF, if_neg (by simp [hp]), if_neg (by simp [he]), if_pos h0] at h
    omega
  obtain ⟨-, hT, hM, g⟩ := (placesF_zero zs sc T M).1 hp
  obtain ⟨-, hl, -⟩ := endF_zero g he
  refine ⟨hp, he, hm, ?_⟩
  rw [chooseL, if_pos h]
  exact chainP_len (stops_of g hl hT hM) _ _ (by omega) (Nat.zero_le _) fun _ => hm

end Go.Proofs.Ytgbdmgmbdjajeaa
