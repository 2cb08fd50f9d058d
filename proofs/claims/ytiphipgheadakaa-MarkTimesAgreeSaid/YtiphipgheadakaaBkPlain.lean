/- Plain facts of breaks: their faults. -/
import Derived.Test.YtiphipgheadakaaBoxPlain
namespace Go.Proofs.Ytiphipgheadakaa
set_option linter.unusedVariables false
set_option linter.unusedSimpArgs false
open Go.RowKit

/-- A break. -/
structure Bk where
  ev : Int
  be : Int
  en : Int
deriving DecidableEq
def bk0 : Bk := ⟨0, 0, 0⟩
instance : Inhabited Bk := ⟨bk0⟩
/-- The end of the break before number i. -/
def preE (bs : List Bk) : Nat → Int
  | 0 => 0
  | k + 1 => (bs.getD k bk0).en
/-- An earlier break has the Event. -/
def twB (bs : List Bk) (i : Nat) (x : Int) : Bool := (List.range i).any fun j => (bs.getD j bk0).ev == x
/-- What is wrong with a break, the one before ending at pe. -/
def bkE (pe : Int) (tw : Bool) (x : Bk) : Int :=
  fstF [fIf (!inB x.ev 0 4294967295) 1, fIf (!inB x.be 0 1000000000000000 || ((x.en != -1) && !inB x.en 0 1000000000000000)) 1, fIf ((x.en != -1) && decide (x.en ≤ x.be)) 8, fIf (pe == -1) 11, fIf (decide (x.be < pe)) 8, fIf tw 7]
def bksE (bs : List Bk) (i : Nat) : Int := bkE (preE bs i) (twB bs i (bs.getD i bk0).ev) (bs.getD i bk0)
def bksF (bs : List Bk) : Int := fstF ((List.range bs.length).map (bksE bs))
/-- What is wrong with breaks. -/
def bkF (bs : List Bk) : Int := if 200 < bs.length then 2 else bksF bs
theorem bksF_drop (bs : List Bk) (k : Nat) (h : k < bs.length) : fstF (((List.range bs.length).map (bksE bs)).drop k) = if bksE bs k = 0 then fstF (((List.range bs.length).map (bksE bs)).drop (k + 1)) else bksE bs k := by
  rw [fstF_drop _ _ (by simpa using h)]
  have e : ((List.range bs.length).map (bksE bs)).getD k 0 = bksE bs k := by simp [List.getD_eq_getElem?_getD, h]
  rw [e]
theorem bksF_zero (bs : List Bk) : bksF bs = 0 ↔ ∀ i, i < bs.length → bksE bs i = 0 := by
  unfold bksF
  rw [fstF_zero]
  simp [List.mem_map]
theorem bksF_skip {bs : List Bk} : ∀ {k : Nat}, k ≤ bs.length → (∀ i, i < k → bksE bs i = 0) → bksF bs = fstF (((List.range bs.length).map (bksE bs)).drop k)
  | 0, _, _ => by rw [List.drop_zero]; rfl
  | k + 1, hk, h => by
    rw [bksF_skip (k := k) (by omega) (fun i hi => h i (by omega)), bksF_drop bs k (by omega), if_pos (h k (by omega))]
theorem bksF_at {bs : List Bk} {k : Nat} (hk : k < bs.length) (h : ∀ i, i < k → bksE bs i = 0) (hz : bksE bs k ≠ 0) : bksF bs = bksE bs k := by
  rw [bksF_skip (by omega) h, bksF_drop bs k hk, if_neg hz]
theorem bkF_large (bs : List Bk) (h : 200 < bs.length) : bkF bs = 2 := by rw [bkF, if_pos h]
theorem bkF_few (bs : List Bk) (h : bs.length ≤ 200) : bkF bs = bksF bs := by rw [bkF, if_neg (by omega)]
theorem twB_succ (bs : List Bk) (i : Nat) (x : Int) : twB bs (i + 1) x = (x == (bs.getD i bk0).ev || twB bs i x) := by
  unfold twB
  rw [List.range_succ, List.any_append]
  simp only [List.any_cons, List.any_nil, Bool.or_false]
  rw [Bool.or_comm]
  congr 1
  rw [Bool.eq_iff_iff, beq_iff_eq, beq_iff_eq]; exact eq_comm
/-- The leaves of the reference. -/
theorem bkE_ev {pe : Int} {tw : Bool} {x : Bk} (h : inB x.ev 0 4294967295 = false) : bkE pe tw x = 1 := by unfold bkE; rw [h]; rfl
theorem bkE_be {pe : Int} {tw : Bool} {x : Bk} (h : inB x.be 0 1000000000000000 = false) : bkE pe tw x = 1 := by
  unfold bkE; rw [h]
  cases inB x.ev 0 4294967295 <;> rfl
theorem enB (x : Bk) : ((x.en != -1) && !inB x.en 0 1000000000000000) = !inB x.en (-1) 1000000000000000 := by
  by_cases h : x.en = -1
  · rw [h]; rfl
  · have e : (x.en != -1) = true := by simp; exact h
    rw [e, Bool.true_and]
    congr 1
    rw [Bool.eq_iff_iff, inB_iff, inB_iff]
    omega
theorem bkE_en {pe : Int} {tw : Bool} {x : Bk} (h : inB x.en (-1) 1000000000000000 = false) : bkE pe tw x = 1 := by
  unfold bkE; rw [enB, h]
  cases inB x.ev 0 4294967295 <;> cases inB x.be 0 1000000000000000 <;> rfl
theorem bkE_rest {pe : Int} {tw : Bool} {x : Bk} (h1 : inB x.ev 0 4294967295 = true) (h2 : inB x.be 0 1000000000000000 = true) (h3 : inB x.en (-1) 1000000000000000 = true) :
    bkE pe tw x = fstF [fIf ((x.en != -1) && decide (x.en ≤ x.be)) 8, fIf (pe == -1) 11, fIf (decide (x.be < pe)) 8, fIf tw 7] := by
  unfold bkE
  rw [h1, h2, enB, h3]
  rfl

/-- The breaks up to an end. -/
def cutB (e : Int) (x : Bk) : Bk := ⟨x.ev, x.be, if x.en = -1 then e else min x.en e⟩
def shTo (bs : List Bk) (e : Int) : Nat → List Bk
  | 0 => []
  | k + 1 => if (bs.getD k bk0).be < e then shTo bs e k ++ [cutB e (bs.getD k bk0)] else shTo bs e k
theorem shTo_len (bs : List Bk) (e : Int) : ∀ k, (shTo bs e k).length ≤ k
  | 0 => by simp [shTo]
  | k + 1 => by
    have := shTo_len bs e k
    rw [shTo]
    split
    · rw [List.length_append, List.length_singleton]; omega
    · omega
def shF (bs : List Bk) (e : Int) : Int := if bkF bs = 0 then fIf (!inB e 0 1000000000000000) 1 else bkF bs
def shL (bs : List Bk) (e : Int) : List Bk := if shF bs e = 0 then shTo bs e bs.length else []

end Go.Proofs.Ytiphipgheadakaa
