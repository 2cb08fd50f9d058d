/- Plain facts of playlists: their length; the entry that has a moment. -/
import Derived.Test.YtikpemmfmkdndaaEntPlain
namespace Go.Proofs.Ytikpemmfmkdndaa
set_option linter.unusedVariables false
set_option linter.unusedSimpArgs false

def miAt (es : List Ent) (i : Nat) : Int := (es.getD i ent0).mi
/-- The sum of the first k. -/
def lenTo (es : List Ent) : Nat → Int
  | 0 => 0
  | k + 1 => lenTo es k + miAt es k
/-- How many of the first k entries end by a moment, one after another. -/
def pastB (es : List Ent) (m : Int) (k : Nat) : Bool := (List.range k).all (fun i => decide (lenTo es (i + 1) ≤ m))
/-- The entry that has a moment: the first one that ends behind it. -/
def plcTo (es : List Ent) (m : Int) : Nat → Nat → Nat
  | 0, i => i
  | f + 1, i => if lenTo es (i + 1) ≤ m then plcTo es m f (i + 1) else i
def plc (es : List Ent) (m : Int) : Nat := plcTo es m es.length 0
def LIM (es : List Ent) (n : Nat) : Prop := n = es.length ∧ n ≤ 1000 ∧ ∀ i, i < n → 1 ≤ miAt es i ∧ miAt es i ≤ 3600000
theorem lenTo_bd {es : List Ent} {n : Nat} (h : LIM es n) : ∀ k, k ≤ n → (k : Int) ≤ lenTo es k ∧ lenTo es k ≤ k * 3600000
  | 0, _ => by simp [lenTo]
  | k + 1, hk => by
    have := lenTo_bd h k (by omega)
    have := h.2.2 k (by omega)
    rw [lenTo]
    omega
theorem lenTo_mono {es : List Ent} {n : Nat} (h : LIM es n) {i j : Nat} (hij : i ≤ j) (hj : j ≤ n) : lenTo es i ≤ lenTo es j := by
  induction j with
  | zero => obtain rfl : i = 0 := by omega
            exact Int.le_refl _
  | succ j ih =>
    by_cases e : i = j + 1
    · subst e; exact Int.le_refl _
    · have := ih (by omega) (by omega)
      have := h.2.2 j (by omega)
      rw [lenTo]
      omega
theorem plcTo_step {es : List Ent} {m : Int} {i f : Nat} (h : lenTo es (i + 1) ≤ m) : plcTo es m (f + 1) i = plcTo es m f (i + 1) := by rw [plcTo, if_pos h]
theorem plcTo_stay {es : List Ent} {m : Int} {i f : Nat} (h : ¬ lenTo es (i + 1) ≤ m) : plcTo es m f i = i := by
  cases f with
  | zero => rfl
  | succ f => rw [plcTo, if_neg h]
/-- The place, as soon as an entry ends behind the moment. -/
theorem plc_at {es : List Ent} {m : Int} {n k : Nat} (hn : n = es.length) (hk : k < n) (hp : ∀ i, i < k → lenTo es (i + 1) ≤ m) (h : ¬ lenTo es (k + 1) ≤ m) : plc es m = k := by
  have : ∀ j, j ≤ k → plcTo es m n 0 = plcTo es m (n - j) j := by
    intro j
    induction j with
    | zero => intro _; rfl
    | succ j ih =>
      intro hj
      rw [ih (by omega), show n - j = (n - (j + 1)) + 1 by omega]
      exact plcTo_step (hp j (by omega))
  rw [plc, ← hn, this k (Nat.le_refl _)]
  exact plcTo_stay h
/-- What At answers: the fault, the place, how much has passed. -/
def atF (l : Lst) (m : Int) : Int := if lstF l = 0 then (if m < 0 then 1 else if lenTo l.es l.es.length ≤ m then 9 else 0) else lstF l
def atP (l : Lst) (m : Int) : Int := if atF l m = 0 then (plc l.es m : Int) else 0
def atR (l : Lst) (m : Int) : Int := if atF l m = 0 then m - lenTo l.es (plc l.es m) else 0
/-- What StartAt answers. -/
def saF (l : Lst) (b : Int) : Int := if lstF l = 0 then (if b < 0 ∨ 1000000000000000 < b then 1 else if l.es.length = 0 then 9 else 0) else lstF l
def saM (l : Lst) (b : Int) : Int := lenTo l.es l.es.length - b
def saP (l : Lst) (b : Int) : Int := if saF l b = 0 then (if l.en = true ∨ saM l b < 0 then 0 else if b = 0 then (l.es.length : Int) - 1 else (plc l.es (saM l b) : Int)) else 0
def saR (l : Lst) (b : Int) : Int := if saF l b = 0 then (if l.en = true ∨ saM l b < 0 then 0 else if b = 0 then miAt l.es (l.es.length - 1) else saM l b - lenTo l.es (plc l.es (saM l b))) else 0
theorem OkL.lim {l : Lst} (g : OkL l) : LIM l.es l.es.length := ⟨rfl, g.len, fun i hi => (g.at i hi).mi⟩

end Go.Proofs.Ytikpemmfmkdndaa
