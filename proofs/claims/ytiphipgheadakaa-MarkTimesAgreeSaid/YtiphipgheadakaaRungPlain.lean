/- Plain facts of renditions: their faults; what is right. -/
import Derived.Test.YtiphipgheadakaaBoxPlain
namespace Go.Proofs.Ytiphipgheadakaa
set_option linter.unusedVariables false
set_option linter.unusedSimpArgs false
open Go.RowKit

/-- A rendition. -/
structure Rung where
  nm : ByteArray
  ra : Int
  he : Int
  qu : Int
def rung0 : Rung := ⟨⟨#[]⟩, 0, 0, 0⟩
instance : Inhabited Rung := ⟨rung0⟩
/-- Byte b may stand at place i of a name. -/
def chOk (i : Nat) (b : Nat) : Bool := (decide (97 ≤ b) && decide (b ≤ 122)) || (decide (0 < i) && ((decide (48 ≤ b) && decide (b ≤ 57)) || b == 45))
def nameB (s : ByteArray) : Bool := (List.range s.size).all (fun i => chOk i (s.data.toList.getD i 0).toNat) && inB s.size 1 40
/-- A text is less than another one, byte by byte. -/
def sless (a b : ByteArray) : Bool := Op.bytesLess a.toList b.toList
def rless (a b : Rung) : Bool := decide (a.ra < b.ra) || (decide (a.ra = b.ra) && sless a.nm b.nm)
def sameN (a b : ByteArray) : Bool := a.toList == b.toList
/-- What is wrong with rendition number i. -/
def rungE (rs : List Rung) (i : Nat) : Int :=
  fstF [fIf (!nameB (rs.getD i rung0).nm) 5, fIf (!inB (rs.getD i rung0).ra 1 1000000000) 1, fIf (!inB (rs.getD i rung0).he 1 10000) 1, fIf (!inB (rs.getD i rung0).qu 0 1000000) 1,
    fIf (!(decide (i = 0) || rless (rs.getD (i - 1) rung0) (rs.getD i rung0))) 8, fIf ((rs.take i).any fun x => sameN x.nm (rs.getD i rung0).nm) 7]
def rungsF (rs : List Rung) : Int := fstF ((List.range rs.length).map (rungE rs))
/-- What is wrong with renditions. -/
def rgF (rs : List Rung) : Int := if 100 < rs.length then 2 else rungsF rs
theorem rungsF_drop (rs : List Rung) (k : Nat) (h : k < rs.length) : fstF (((List.range rs.length).map (rungE rs)).drop k) = if rungE rs k = 0 then fstF (((List.range rs.length).map (rungE rs)).drop (k + 1)) else rungE rs k := by
  rw [fstF_drop _ _ (by simpa using h)]
  have e : ((List.range rs.length).map (rungE rs)).getD k 0 = rungE rs k := by simp [List.getD_eq_getElem?_getD, h]
  rw [e]
/-- A rendition that is right alone. -/
structure OkR (r : Rung) : Prop where
  nm : nameB r.nm = true
  ra : 1 ≤ r.ra ∧ r.ra ≤ 1000000000
  he : 1 ≤ r.he ∧ r.he ≤ 10000
  qu : 0 ≤ r.qu ∧ r.qu ≤ 1000000
theorem rungE_zero (rs : List Rung) (i : Nat) : rungE rs i = 0 ↔ OkR (rs.getD i rung0) ∧ (0 < i → rless (rs.getD (i - 1) rung0) (rs.getD i rung0) = true) ∧ ∀ x ∈ rs.take i, sameN x.nm (rs.getD i rung0).nm = false := by
  unfold rungE
  rw [fstF_zero]
  simp only [List.mem_cons, List.not_mem_nil, or_false, forall_eq_or_imp, forall_eq]
  rw [fIf_zero (by decide), fIf_zero (by decide), fIf_zero (by decide), fIf_zero (by decide), fIf_zero (by decide), fIf_zero (by decide)]
  simp only [Bool.not_eq_false', inB_iff, Bool.or_eq_true, decide_eq_true_eq, List.any_eq_false, Bool.not_eq_true]
  constructor
  · rintro ⟨a, b, c, d, e, f⟩
    exact ⟨⟨a, b, c, d⟩, fun h => by rcases e with e | e; omega; exact e, f⟩
  · rintro ⟨⟨a, b, c, d⟩, e, f⟩
    refine ⟨a, b, c, d, ?_, f⟩
    by_cases h : i = 0
    · exact .inl h
    · exact .inr (e (by omega))
theorem rungsF_zero (rs : List Rung) : rungsF rs = 0 ↔ ∀ i, i < rs.length → rungE rs i = 0 := by
  unfold rungsF
  rw [fstF_zero]
  simp [List.mem_map]
theorem less_irr : ∀ (x : List UInt8), Op.bytesLess x x = false
  | [] => by simp [Op.bytesLess]
  | a :: x => by simp [Op.bytesLess, less_irr x]
theorem less_trans : ∀ (x y z : List UInt8), Op.bytesLess x y = true → Op.bytesLess y z = true → Op.bytesLess x z = true
  | [], [], _, h, _ => by simp [Op.bytesLess] at h
  | [], _ :: _, [], _, h => by simp [Op.bytesLess] at h
  | [], _ :: _, _ :: _, _, _ => by simp [Op.bytesLess]
  | _ :: _, [], _, h, _ => by simp [Op.bytesLess] at h
  | _ :: _, _ :: _, [], _, h => by simp [Op.bytesLess] at h
  | a :: x, b :: y, c :: z, h, g => by
    rw [Op.bytesLess] at h g ⊢
    simp only [Bool.or_eq_true, Bool.and_eq_true, decide_eq_true_eq, beq_iff_eq] at h g ⊢
    rcases h with h | ⟨rfl, h⟩
    · rcases g with g | ⟨rfl, g⟩
      · exact .inl (UInt8.lt_trans h g)
      · exact .inl h
    · rcases g with g | ⟨rfl, g⟩
      · exact .inl g
      · exact .inr ⟨rfl, less_trans x y z h g⟩
theorem rless_trans {a b c : Rung} (h : rless a b = true) (g : rless b c = true) : rless a c = true := by
  unfold rless at h g ⊢
  simp only [Bool.or_eq_true, Bool.and_eq_true, decide_eq_true_eq] at h g ⊢
  rcases h with h | ⟨h, h2⟩
  · rcases g with g | ⟨g, g2⟩
    · exact .inl (by omega)
    · exact .inl (by omega)
  · rcases g with g | ⟨g, g2⟩
    · exact .inl (by omega)
    · exact .inr ⟨by omega, less_trans _ _ _ h2 g2⟩
/-- Renditions that are right. -/
structure OkRs (rs : List Rung) : Prop where
  len : rs.length ≤ 100
  ok : ∀ i, i < rs.length → OkR (rs.getD i rung0)
  rise : ∀ i j, i < j → j < rs.length → rless (rs.getD i rung0) (rs.getD j rung0) = true
  once : ∀ i j, i < j → j < rs.length → sameN (rs.getD i rung0).nm (rs.getD j rung0).nm = false
theorem rise_all {rs : List Rung} (h : ∀ i, 0 < i → i < rs.length → rless (rs.getD (i - 1) rung0) (rs.getD i rung0) = true) : ∀ i j, i < j → j < rs.length → rless (rs.getD i rung0) (rs.getD j rung0) = true := by
  intro i j hij
  induction j with
  | zero => omega
  | succ j ih =>
    intro hj
    have h1 := h (j + 1) (by omega) hj
    rw [Nat.add_sub_cancel] at h1
    by_cases e : i = j
    · subst e; exact h1
    · exact rless_trans (ih (by omega) (by omega)) h1
theorem mem_take_getD {rs : List Rung} {j : Nat} {x : Rung} (hj : j ≤ rs.length) : x ∈ rs.take j ↔ ∃ i, i < j ∧ x = rs.getD i rung0 := by
  constructor
  · intro h
    obtain ⟨i, hi, e⟩ := List.mem_iff_getElem.1 h
    rw [List.length_take] at hi
    refine ⟨i, by omega, ?_⟩
    rw [← e, List.getElem_take]
    simp [List.getD_eq_getElem?_getD, show i < rs.length by omega]
  · rintro ⟨i, hi, rfl⟩
    refine List.mem_iff_getElem.2 ⟨i, by rw [List.length_take]; omega, ?_⟩
    rw [List.getElem_take]
    simp [List.getD_eq_getElem?_getD, show i < rs.length by omega]
theorem rgF_zero (rs : List Rung) : rgF rs = 0 ↔ OkRs rs := by
  unfold rgF
  constructor
  · intro h
    split at h
    · omega
    · rw [rungsF_zero] at h
      refine ⟨by omega, fun i hi => ((rungE_zero rs i).1 (h i hi)).1, rise_all fun i h0 hi => ((rungE_zero rs i).1 (h i hi)).2.1 h0, fun i j hij hj => ?_⟩
      exact ((rungE_zero rs j).1 (h j hj)).2.2 _ ((mem_take_getD (by omega)).2 ⟨i, hij, rfl⟩)
  · intro g
    have h2 := g.len
    rw [if_neg (by omega), rungsF_zero]
    intro i hi
    refine (rungE_zero rs i).2 ⟨g.ok i hi, fun h0 => g.rise (i - 1) i (by omega) hi, fun x hx => ?_⟩
    obtain ⟨j, hj, rfl⟩ := (mem_take_getD (by omega)).1 hx
    exact g.once j i hj hi
theorem rgF_large (rs : List Rung) (h : 100 < rs.length) : rgF rs = 2 := by rw [rgF, if_pos h]
theorem rgF_few (rs : List Rung) (h : rs.length ≤ 100) : rgF rs = rungsF rs := by rw [rgF, if_neg (by omega)]
theorem OkRs.rate {rs : List Rung} (g : OkRs rs) (i j : Nat) (hij : i ≤ j) (hj : j < rs.length) : (rs.getD i rung0).ra ≤ (rs.getD j rung0).ra := by
  by_cases e : i = j
  · subst e; exact Int.le_refl _
  · have := g.rise i j (by omega) hj
    unfold rless at this
    simp only [Bool.or_eq_true, Bool.and_eq_true, decide_eq_true_eq] at this
    rcases this with h | ⟨h, -⟩ <;> omega
/-- Some of renditions that are right, in their order, are right. -/
theorem OkRs.pick {rs ys : List Rung} (g : OkRs rs) (f : Nat → Nat) (hm : ∀ i j, i < j → j < ys.length → f i < f j) (hf : ∀ i, i < ys.length → f i < rs.length ∧ ys.getD i rung0 = rs.getD (f i) rung0) : OkRs ys := by
  have hge : ∀ i, i < ys.length → i ≤ f i := by
    intro i
    induction i with
    | zero => intro _; omega
    | succ i ih => intro hi; have := ih (by omega); have := hm i (i + 1) (by omega) hi; omega
  refine ⟨?_, fun i hi => by rw [(hf i hi).2]; exact g.ok _ (hf i hi).1, fun i j hij hj => ?_, fun i j hij hj => ?_⟩
  · by_cases h0 : ys.length = 0
    · omega
    · have := hge (ys.length - 1) (by omega)
      have := (hf (ys.length - 1) (by omega)).1
      have := g.len
      omega
  · rw [(hf i (by omega)).2, (hf j hj).2]
    exact g.rise _ _ (hm i j hij hj) (hf j hj).1
  · rw [(hf i (by omega)).2, (hf j hj).2]
    exact g.once _ _ (hm i j hij hj) (hf j hj).1

end Go.Proofs.Ytiphipgheadakaa
