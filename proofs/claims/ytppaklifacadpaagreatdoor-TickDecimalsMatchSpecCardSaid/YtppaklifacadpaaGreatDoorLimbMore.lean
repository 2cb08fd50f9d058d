/- More on slices that read as limbs: stores elsewhere, worlds that grew, appending to a row of the call's own. -/
import Derived.Test.YtppaklifacadpaaGreatDoorSmall
import Derived.Test.YtppaklifacadpaaGreatDoorDivPlain
import Derived.Laws.AppendOwn
namespace Go.Proofs.YtppaklifacadpaaGreatDoor
set_option linter.unusedVariables false
set_option linter.unusedSimpArgs false
open Go.RowKit

theorem Lim.setCell {w : World} {v : Value} {zs : List Int} (h : Lim w v zs) {a : Addr} (ha : v.ownBlock ≠ some a.block) (u : Value) : Lim (w.setCell a u) v zs := by
  rcases h with h | ⟨b, off, cap, hv, hne, hlt, hl, hm, hc⟩
  · exact .inl h
  · refine .inr ⟨b, off, cap, hv, hne, by simpa [World.setCell] using hlt, hl, hm, fun j hj => ?_⟩
    subst hv
    simp only [Value.ownBlock, ne_eq, Option.some.injEq] at ha
    rw [World.cell?_of_block (w := w) (Below.heap_setCell w a u b ha)]
    exact hc j hj

theorem grownBy_refl (w : World) (row : Option Nat) : w.grownBy w row := ⟨rfl, rfl, rfl, Nat.le_refl _, fun _ _ _ => rfl⟩
theorem grownBy_below {w w' : World} (h : Below w.heap.size w w') : w.grownBy w' none := ⟨h.os, h.tape, h.output, h.size, fun k hk _ => h.block k hk⟩
theorem ownsRow_below {w w' : World} {base : Nat} {e : TypeId} {size n : Nat} {v : Value} {xs : List Value} (h : w.ownsRow base e size v n xs) (hb : Below w.heap.size w w') : w'.ownsRow base e size v n xs :=
  h.kept (grownBy_below hb) (by cases hv : v.ownBlock <;> simp)

/-- append(v, y...), v a row of the call's own, y limbs. -/
theorem wpList_append_lim {P : Program} {w : World} {ops : Array Oper} {rest : List Oper} {o : Oper} {a : Act} {Q : Exit → Act → World → Prop} (hgd : o.guard = none) (s x : Operand) (t : TypeId)
    (ho : o.op = .call { callee := .builtin .append, args := #[s, x], argTypes := #[t, t] })
    (base : Nat) (e : TypeId) (i : TypeInfo) (ht : P.underlying t = some (.slice e)) (hi : P.info? e = some i) (hz : i.zero = some (.int .i64 0)) (hsize : i.size = 1) (hby : i.bytes = 8)
    (v : Value) (n : Nat) (xs : List Value) (hs : a.eval s = v) (hown : w.ownsRow base e 1 v n xs)
    (y : Value) (zs : List Int) (hx : a.eval x = y) (hy : Lim w y zs) (h63 : n + zs.length ≤ 100000) (hbase : base ≤ w.heap.size)
    (h : ∀ v' w', w'.ownsRow base e 1 v' (n + zs.length) (xs ++ zs.map (Value.int .i64)) → w.grownBy w' v.ownBlock → wpList P ops Q rest (a.put o.dst v') w') : wpList P ops Q (o :: rest) a w := by
  rcases hy with ⟨ao, cap, rfl, hcm, rfl⟩ | ⟨b, off, cap, rfl, hne, hlt, hl, hm, hc⟩
  · cases ao with
    | none =>
      have hrun : (Builtin.append_ #[t, t] o.type #[v, .slice none 0 cap]).run P w = .ok v w := by
        rcases hown.2 with ⟨rfl, rfl⟩ | ⟨g, cap', cur, rfl, _, _, hnc, _⟩
        · simp [Builtin.append_, run_underlying ht, sizeOf, typeInfo, hi, Builtin.lenOf, Builtin.firstCells]
        · simp [Builtin.append_, run_underlying ht, sizeOf, typeInfo, hi, Builtin.lenOf, Builtin.firstCells, hnc, storeCells]
      have hK := h v w (by simpa using hown) (grownBy_refl _ _)
      refine wpList_plain hgd fun K hK' => ?_
      unfold Oper.wp
      simp [execOp, ho, resolve, invoke, builtin, hs, hx, hrun, Result.andThen]
      exact hK' _ _ hK
    | some ad =>
      refine wpList_append_own w hgd s x t ho base e i (.int .i64 0) 1 8 ht hi hz hsize hby rfl (by decide) v n xs hs hown ad 0 cap [] hx rfl (by simp) (by simp) (by unfold maxLen; simp at h63; omega) (by simp at h63; omega) hbase ?_
      intro v' w' h1 h2 _
      exact h v' w' (by simpa using h1) h2
  · refine wpList_append_own w hgd s x t ho base e i (.int .i64 0) 1 8 ht hi hz hsize hby rfl (by decide) v n xs hs hown ⟨b, off, none⟩ zs.length cap (zs.map (Value.int .i64)) hx (by simp) ?_ ?_ (by unfold maxLen; omega) (by omega) hbase ?_
    · intro j u hu
      rw [Addr.add_lit]
      rw [List.getElem?_map] at hu
      cases hj : zs[j]? with
      | none => rw [hj] at hu; simp at hu
      | some q =>
        rw [hj] at hu
        simp only [Option.map_some, Option.some.injEq] at hu
        have hjl : j < zs.length := (List.getElem?_eq_some_iff.1 hj).1
        rw [hc j hjl, ← hu, List.getD_eq_getElem?_getD, hj]
        rfl
    · intro u hu
      obtain ⟨q, -, rfl⟩ := List.mem_map.1 hu
      rfl
    · intro v' w' h1 h2 _
      exact h v' w' h1 h2

theorem trim_own (v : Value) (zs : List Int) (w : World) (h : Lim w v zs) :
    Calls Tryz.prog 54 #[v] w fun e w' => (∃ u, e = .returned u ∧ Lim w u (trimL zs) ∧ u.ownBlock = v.ownBlock) ∧ w = w' := by
  rcases h with ⟨a, c, rfl, hcm, rfl⟩ | ⟨b, o, c, rfl, hne, hlt, hl, hm, hc⟩
  · refine (trim_none a c w hcm).mono ?_
    rintro e w' ⟨rfl, rfl⟩
    exact ⟨⟨_, rfl, .inl ⟨a, c, rfl, hcm, rfl⟩, rfl⟩, rfl⟩
  · refine (trim_walk b o _ c zs w rfl hl hm hc).mono ?_
    rintro e w' ⟨rfl, rfl⟩
    have hle := trimN_le zs zs.length
    refine ⟨⟨_, rfl, ?_, rfl⟩, rfl⟩
    by_cases h0 : trimN zs zs.length = 0
    · exact .inl ⟨_, c, by rw [h0], hm, by rw [trimL, h0]; rfl⟩
    · refine .inr ⟨b, o, c, by rw [trimL_len], fun hx => h0 (by rw [← trimL_len, hx]; rfl), hlt, by rw [trimL_len]; omega, hm, fun j hj => ?_⟩
      rw [trimL_len] at hj
      rw [trimL, lget_take _ _ _ hj]
      exact hc j (by omega)

end Go.Proofs.YtppaklifacadpaaGreatDoor
