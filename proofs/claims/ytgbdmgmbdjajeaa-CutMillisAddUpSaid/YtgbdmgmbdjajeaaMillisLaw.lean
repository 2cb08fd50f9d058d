/- CutMillisAddUp: whatever the input, the law returns true. -/
import Derived.Test.YtgbdmgmbdjajeaaMillis
namespace Go.Proofs.Ytgbdmgmbdjajeaa
set_option linter.unusedVariables false
set_option linter.unusedSimpArgs false
open Go.RowKit Go.Deep

/-- The sum of the first i + 1 lengths is the way from the first boundary to where segment i ends. -/
def milS (ls : List Seg) (sc : Int) : Nat → Int
  | 0 => 0
  | k + 1 => milS ls sc k + (msQ (endAt ls k) sc - msQ (bndV (ls.getD k seg0)) sc)
theorem milS_eq (ls : List Seg) (sc : Int) (k : Nat) (h : k < ls.length) : milS ls sc (k + 1) = msQ (endAt ls k) sc - msQ (bndV (ls.getD 0 seg0)) sc := by
  induction k with
  | zero => simp [milS]
  | succ k ih =>
    rw [milS, ih (by omega)]
    have : endAt ls k = bndV (ls.getD (k + 1) seg0) := by rw [endAt, if_pos (by omega)]
    rw [this]
    omega
theorem endAt_bd {ls : List Seg} (hT : Timed ls) (k : Nat) (h : k < ls.length) : bndV (ls.getD 0 seg0) ≤ endAt ls k ∧ endAt ls k ≤ 1000000000000000 := by
  have hr : ∀ i, i < ls.length → bndV (ls.getD 0 seg0) ≤ bndV (ls.getD i seg0) := by
    intro i
    induction i with
    | zero => intro _; exact Int.le_refl _
    | succ i ih =>
      intro hi
      have a := ih (by omega)
      have b := hT.next (i + 1) (by omega) hi
      rw [Nat.add_sub_cancel] at b
      omega
  rw [endAt]
  split
  · rename_i h1
    exact ⟨hr _ h1, (okT_bd (hT.ok _ h1)).1.2⟩
  · have ok := hT.ok k h
    have h1 := hr k h
    have h2 := ok.bnd; have h3 := ok.endS; have h4 := ok.ln
    have h5 := (okT_bd ok).2
    constructor <;> omega
/-- No drift comes of rounding. -/
theorem no_drift {ls : List Seg} {sc : Int} (hT : Timed ls) (hs : 1 ≤ sc ∧ sc ≤ 1000000000) (k : Nat) (h : k < ls.length) :
    -sc ≤ milS ls sc (k + 1) * sc - (endAt ls k - bndV (ls.getD 0 seg0)) * 1000 ∧ milS ls sc (k + 1) * sc - (endAt ls k - bndV (ls.getD 0 seg0)) * 1000 ≤ sc := by
  rw [milS_eq ls sc k h, Int.sub_mul]
  have a := msQ_close (endAt ls k) sc hs
  have b := msQ_close (bndV (ls.getD 0 seg0)) sc hs
  omega
theorem milS_bd {ls : List Seg} {sc : Int} (hT : Timed ls) (hs : 1 ≤ sc ∧ sc ≤ 1000000000) (k : Nat) (h : k ≤ ls.length) : -4000000000000002000 ≤ milS ls sc k ∧ milS ls sc k ≤ 4000000000000002000 := by
  cases k with
  | zero => simp [milS]
  | succ k =>
    rw [milS_eq ls sc k (by omega)]
    have e := endAt_bd hT k (by omega)
    have o := (okT_bd (hT.ok 0 (by omega))).1
    have a := (msQ_bd (endAt ls k) sc hs (by omega) (by omega)).2
    have b := (msQ_bd (bndV (ls.getD 0 seg0)) sc hs (by omega) (by omega)).2
    omega

end Go.Proofs.Ytgbdmgmbdjajeaa
