/- Plain facts on the form of a date: what is written has it, and its fields; what has it is what is written. No program in it. -/
import Derived.Test.YtppaklifacadpaaGreatDoorDateText
namespace Go.Proofs.YtppaklifacadpaaGreatDoor
set_option linter.unusedVariables false
set_option linter.unusedSimpArgs false

def fitsL : List UInt8 → List UInt8 → Prop
  | [], [] => True
  | f :: fs, c :: cs => fitB f.toNat c.toNat = true ∧ fitsL fs cs
  | _, _ => False
theorem fitsL_append : ∀ {f a g b : List UInt8}, fitsL f a → fitsL g b → fitsL (f ++ g) (a ++ b)
  | [], [], _, _, _, h => h
  | _ :: _, _ :: _, _, _, h, k => ⟨h.1, fitsL_append h.2 k⟩
  | [], _ :: _, _, _, h, _ => h.elim
  | _ :: _, [], _, _, h, _ => h.elim
theorem fitsL_dig : ∀ {k : Nat} {p : List UInt8}, DigB p → p.length = k → fitsL (List.replicate k 48) p
  | 0, [], _, _ => trivial
  | 0, _ :: _, _, h => by simp at h
  | _ + 1, [], _, h => by simp at h
  | k + 1, x :: r, hd, h => by
    rw [List.replicate_succ]
    have := hd x (by simp)
    exact ⟨by simp [fitB]; omega, fitsL_dig hd.tail (by simpa using h)⟩
theorem fitsL_sep (c : UInt8) (h : c.toNat ≠ 48) : fitsL [c] [c] := ⟨by simp [fitB, h], trivial⟩
theorem fitsL_get : ∀ {f a : List UInt8}, fitsL f a → a.length = f.length ∧ ∀ k (h : k < a.length), fitB (f.getD k 0).toNat (a[k].toNat) = true
  | [], [], _ => ⟨rfl, fun k h => by simp at h⟩
  | _ :: _, _ :: _, h => by
    obtain ⟨h1, h2⟩ := fitsL_get h.2
    refine ⟨by simp [h1], fun k hk => ?_⟩
    cases k with
    | zero => simpa using h.1
    | succ k => simpa using h2 k (by simpa using hk)
  | [], _ :: _, h => h.elim
  | _ :: _, [], h => h.elim

theorem fld_past (p q : List UInt8) (a b : Nat) (h : p.length ≤ a) : fld (p ++ q) a b = fld q (a - p.length) (b - p.length) := by
  unfold fld
  rw [List.drop_append, List.drop_of_length_le h, List.nil_append]
  rw [show b - p.length - (a - p.length) = b - a by omega]
theorem fld_here (p q : List UInt8) (b : Nat) (h : p.length = b) : fld (p ++ q) 0 b = p := by
  subst h
  simp [fld]

theorem written {Y M D h m s u : Int} (c : Civil Y M D h m s u) (y9 : Y ≤ 9999) :
    IsForm (dateOf Y M D h m s u) ∧ (dvalB (fld (dateOf Y M D h m s u) 0 4) : Int) = Y ∧ (dvalB (fld (dateOf Y M D h m s u) 5 7) : Int) = M ∧ (dvalB (fld (dateOf Y M D h m s u) 8 10) : Int) = D ∧
      (dvalB (fld (dateOf Y M D h m s u) 11 13) : Int) = h ∧ (dvalB (fld (dateOf Y M D h m s u) 14 16) : Int) = m ∧ (dvalB (fld (dateOf Y M D h m s u) 17 19) : Int) = s ∧ (dvalB (fld (dateOf Y M D h m s u) 20 23) : Int) = u := by
  have b1 := mD_bd Y M
  obtain ⟨c1, c2, c3, c4, c5, c6, c7, c8, c9, c10, c11, c12, c13⟩ := c
  obtain ⟨p1, p2, p3⟩ := padL_facts Y 4 (by omega) (by omega) (by omega)
  obtain ⟨q1, q2, q3⟩ := padL_facts M 2 (by omega) (by omega) (by omega)
  obtain ⟨r1, r2, r3⟩ := padL_facts D 2 (by omega) (by omega) (by omega)
  obtain ⟨s1, s2, s3⟩ := padL_facts h 2 (by omega) (by omega) (by omega)
  obtain ⟨t1, t2, t3⟩ := padL_facts m 2 (by omega) (by omega) (by omega)
  obtain ⟨v1, v2, v3⟩ := padL_facts s 2 (by omega) (by omega) (by omega)
  obtain ⟨x1, x2, x3⟩ := padL_facts u 3 (by omega) (by omega) (by omega)
  generalize hP : padL Y 4 = P at *
  generalize hQ : padL M 2 = Q at *
  generalize hR : padL D 2 = R at *
  generalize hS : padL h 2 = S at *
  generalize hT : padL m 2 = T at *
  generalize hV : padL s 2 = V at *
  generalize hX : padL u 3 = X at *
  have hd : dateOf Y M D h m s u = P ++ ([45] ++ (Q ++ ([45] ++ (R ++ ([84] ++ (S ++ ([58] ++ (T ++ ([58] ++ (V ++ ([46] ++ (X ++ [90])))))))))))) := by
    unfold dateOf
    rw [hP, hQ, hR, hS, hT, hV, hX]
    simp only [List.append_assoc]
  rw [hd]
  refine ⟨?_, ?_, ?_, ?_, ?_, ?_, ?_, ?_⟩
  · have hf : fitsL formL (P ++ ([45] ++ (Q ++ ([45] ++ (R ++ ([84] ++ (S ++ ([58] ++ (T ++ ([58] ++ (V ++ ([46] ++ (X ++ [90]))))))))))))) := by
      show fitsL (List.replicate 4 48 ++ ([45] ++ (List.replicate 2 48 ++ ([45] ++ (List.replicate 2 48 ++ ([84] ++ (List.replicate 2 48 ++ ([58] ++ (List.replicate 2 48 ++ ([58] ++ (List.replicate 2 48 ++ ([46] ++ (List.replicate 3 48 ++ [90]))))))))))))) _
      refine fitsL_append (fitsL_dig p2 p1) (fitsL_append (fitsL_sep _ (by decide)) (fitsL_append (fitsL_dig q2 q1) (fitsL_append (fitsL_sep _ (by decide)) (fitsL_append (fitsL_dig r2 r1) (fitsL_append (fitsL_sep _ (by decide)) (fitsL_append (fitsL_dig s2 s1) (fitsL_append (fitsL_sep _ (by decide)) (fitsL_append (fitsL_dig t2 t1) (fitsL_append (fitsL_sep _ (by decide)) (fitsL_append (fitsL_dig v2 v1) (fitsL_append (fitsL_sep _ (by decide)) (fitsL_append (fitsL_dig x2 x1) (fitsL_sep _ (by decide))))))))))))))
    obtain ⟨g1, g2⟩ := fitsL_get hf
    exact ⟨g1, g2⟩
  · rw [fld_here _ _ _ p1, p3]
  · rw [fld_past _ _ _ _ (by omega), p1, fld_past _ _ _ _ (by simp)]
    simp only [List.length_cons, List.length_nil, Nat.reduceSub, Nat.reduceAdd]
    rw [fld_here _ _ _ q1, q3]
  · rw [fld_past _ _ _ _ (by omega), p1, fld_past _ _ _ _ (by simp), fld_past _ _ _ _ (by simp; omega), q1, fld_past _ _ _ _ (by simp)]
    simp only [List.length_cons, List.length_nil, Nat.reduceSub, Nat.reduceAdd]
    rw [fld_here _ _ _ r1, r3]
  · rw [fld_past _ _ _ _ (by omega), p1, fld_past _ _ _ _ (by simp), fld_past _ _ _ _ (by simp; omega), q1, fld_past _ _ _ _ (by simp), fld_past _ _ _ _ (by simp; omega), r1, fld_past _ _ _ _ (by simp)]
    simp only [List.length_cons, List.length_nil, Nat.reduceSub, Nat.reduceAdd]
    rw [fld_here _ _ _ s1, s3]
  · rw [fld_past _ _ _ _ (by omega), p1, fld_past _ _ _ _ (by simp), fld_past _ _ _ _ (by simp; omega), q1, fld_past _ _ _ _ (by simp), fld_past _ _ _ _ (by simp; omega), r1, fld_past _ _ _ _ (by simp), fld_past _ _ _ _ (by simp; omega), s1, fld_past _ _ _ _ (by simp)]
    simp only [List.length_cons, List.length_nil, Nat.reduceSub, Nat.reduceAdd]
    rw [fld_here _ _ _ t1, t3]
  · rw [fld_past _ _ _ _ (by omega), p1, fld_past _ _ _ _ (by simp), fld_past _ _ _ _ (by simp; omega), q1, fld_past _ _ _ _ (by simp), fld_past _ _ _ _ (by simp; omega), r1, fld_past _ _ _ _ (by simp), fld_past _ _ _ _ (by simp; omega), s1, fld_past _ _ _ _ (by simp), fld_past _ _ _ _ (by simp; omega), t1, fld_past _ _ _ _ (by simp)]
    simp only [List.length_cons, List.length_nil, Nat.reduceSub, Nat.reduceAdd]
    rw [fld_here _ _ _ v1, v3]
  · rw [fld_past _ _ _ _ (by omega), p1, fld_past _ _ _ _ (by simp), fld_past _ _ _ _ (by simp; omega), q1, fld_past _ _ _ _ (by simp), fld_past _ _ _ _ (by simp; omega), r1, fld_past _ _ _ _ (by simp), fld_past _ _ _ _ (by simp; omega), s1, fld_past _ _ _ _ (by simp), fld_past _ _ _ _ (by simp; omega), t1, fld_past _ _ _ _ (by simp), fld_past _ _ _ _ (by simp; omega), v1, fld_past _ _ _ _ (by simp)]
    simp only [List.length_cons, List.length_nil, Nat.reduceSub, Nat.reduceAdd]
    rw [fld_here _ _ _ x1, x3]

theorem fld_dig {l : List UInt8} (h : IsForm l) (a b : Nat) (hf : ∀ j, j < 24 → a ≤ j → j < b → formL.getD j 0 = 48) : DigB (fld l a b) := by
  intro x hx
  obtain ⟨j, hj, rfl⟩ := List.mem_iff_getElem.1 hx
  have hl := h.1
  have hj2 : j < b - a ∧ a + j < l.length := by
    unfold fld at hj
    rw [List.length_take, List.length_drop] at hj
    omega
  have e : (fld l a b)[j] = l[a + j]'hj2.2 := by simp [fld]
  rw [e]
  have h1 := h.2 (a + j) hj2.2
  rw [hf (a + j) (by omega) (by omega) (by omega)] at h1
  simp [fitB] at h1
  exact h1
theorem fld_len {l : List UInt8} (h : IsForm l) (a b : Nat) (hb : b ≤ 24) (hab : a ≤ b) : (fld l a b).length = b - a := by
  unfold fld
  rw [List.length_take, List.length_drop, h.1]; omega

theorem drop_fld (l : List UInt8) (a b : Nat) (hab : a ≤ b) : l.drop a = fld l a b ++ l.drop b := by
  unfold fld
  have h : (l.drop a).drop (b - a) = l.drop b := by rw [List.drop_drop]; congr 1; omega
  rw [← h, List.take_append_drop]
theorem drop_sep {l : List UInt8} (h : IsForm l) (k : Nat) (c : UInt8) (hk : k < 24) (hf : formL.getD k 0 = c) (hc : c.toNat ≠ 48) : l.drop k = [c] ++ l.drop (k + 1) := by
  have hkl : k < l.length := by rw [h.1]; exact hk
  have h1 := h.2 k hkl
  rw [hf] at h1
  simp only [fitB, if_neg hc, beq_iff_eq] at h1
  rw [List.drop_eq_getElem_cons hkl, show l[k] = c from UInt8.toNat.inj h1.symm]
  rfl
theorem fld_pad {l : List UInt8} (h : IsForm l) (a b : Nat) (hb : b ≤ 24) (hab : a < b) (hf : ∀ j, j < 24 → a ≤ j → j < b → formL.getD j 0 = 48) : fld l a b = padL (dvalB (fld l a b)) (b - a) := by
  have hd := fld_dig h a b hf
  have hl := fld_len h a b hb (by omega)
  have hlt := dvalB_lt _ hd
  rw [hl] at hlt
  obtain ⟨p1, p2, p3⟩ := padL_facts (dvalB (fld l a b)) (b - a) (by omega) (by omega) (by omega)
  exact dval_inj _ _ hd p2 (by omega) (by omega)

theorem dig04 : ∀ j, j < 24 → 0 ≤ j → j < 4 → formL.getD j 0 = 48 := by decide
theorem dig57 : ∀ j, j < 24 → 5 ≤ j → j < 7 → formL.getD j 0 = 48 := by decide
theorem dig810 : ∀ j, j < 24 → 8 ≤ j → j < 10 → formL.getD j 0 = 48 := by decide
theorem dig1113 : ∀ j, j < 24 → 11 ≤ j → j < 13 → formL.getD j 0 = 48 := by decide
theorem dig1416 : ∀ j, j < 24 → 14 ≤ j → j < 16 → formL.getD j 0 = 48 := by decide
theorem dig1719 : ∀ j, j < 24 → 17 ≤ j → j < 19 → formL.getD j 0 = 48 := by decide
theorem dig2023 : ∀ j, j < 24 → 20 ≤ j → j < 23 → formL.getD j 0 = 48 := by decide

theorem form_is {l : List UInt8} (h : IsForm l) :
    dateOf (dvalB (fld l 0 4)) (dvalB (fld l 5 7)) (dvalB (fld l 8 10)) (dvalB (fld l 11 13)) (dvalB (fld l 14 16)) (dvalB (fld l 17 19)) (dvalB (fld l 20 23)) = l := by
  have e0 : l = l.drop 0 := rfl
  have e1 := drop_fld l 0 4 (by omega)
  have e2 := drop_sep h 4 45 (by omega) rfl (by decide)
  have e3 := drop_fld l 5 7 (by omega)
  have e4 := drop_sep h 7 45 (by omega) rfl (by decide)
  have e5 := drop_fld l 8 10 (by omega)
  have e6 := drop_sep h 10 84 (by omega) rfl (by decide)
  have e7 := drop_fld l 11 13 (by omega)
  have e8 := drop_sep h 13 58 (by omega) rfl (by decide)
  have e9 := drop_fld l 14 16 (by omega)
  have e10 := drop_sep h 16 58 (by omega) rfl (by decide)
  have e11 := drop_fld l 17 19 (by omega)
  have e12 := drop_sep h 19 46 (by omega) rfl (by decide)
  have e13 := drop_fld l 20 23 (by omega)
  have e14 := drop_sep h 23 90 (by omega) rfl (by decide)
  have e15 : l.drop 24 = [] := List.drop_of_length_le (by rw [h.1]; omega)
  have f1 := fld_pad h 0 4 (by omega) (by omega) dig04
  have f2 := fld_pad h 5 7 (by omega) (by omega) dig57
  have f3 := fld_pad h 8 10 (by omega) (by omega) dig810
  have f4 := fld_pad h 11 13 (by omega) (by omega) dig1113
  have f5 := fld_pad h 14 16 (by omega) (by omega) dig1416
  have f6 := fld_pad h 17 19 (by omega) (by omega) dig1719
  have f7 := fld_pad h 20 23 (by omega) (by omega) dig2023
  unfold dateOf
  rw [← f1, ← f2, ← f3, ← f4, ← f5, ← f6, ← f7]
  conv => rhs; rw [e0, e1, e2, e3, e4, e5, e6, e7, e8, e9, e10, e11, e12, e13, e14, e15]
  simp only [List.append_assoc, List.append_nil]

end Go.Proofs.YtppaklifacadpaaGreatDoor
