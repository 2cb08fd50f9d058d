/- slices.Clone at events; MarkDuesAddUp: whatever the input, the law returns true: the walk. -/
import Derived.Test.YtiphipgheadakaaDuesLaw
import Derived.Shelf.SlicesE.Clone
import Derived.Laws.AppendOwnNone
namespace Go.Proofs.Ytiphipgheadakaa
set_option linter.unusedVariables false
set_option linter.unusedSimpArgs false
open Go.RowKit

def ecloneRen : Go.Shelf.Ren := ⟨fun | 41 => 34 | n => n, fun | 4 => 4 | 22 => 53 | 23 => 58 | n => n, fun | n => n⟩
theorem ecloneLays : Go.Proofs.SlLaysE0.n41 Try.prog ecloneRen := {
  mixed := by kernel_rfl
  f41 := ⟨"slices.Clone[[]headend/api.Event,headend/api.Event]", by kernel_rfl, Try.func34.trans (congrArg some (by kernel_rfl))⟩
  t4 := Try.underlying4
  a4 := Try.isAgg4
  z4 := Try.sizeOf4
  v4 := Try.zeroValue4
  t22 := Try.underlying53
  a22 := Try.isAgg53
  z22 := Try.sizeOf53
  v22 := Try.zeroValue53 }
theorem ecells_one (L : List Ev) : ∀ u ∈ ecells L, u.oneCell' = true := by
  intro u hu
  obtain ⟨y, -, hy⟩ := List.mem_flatMap.1 hu
  simp only [evC, List.mem_cons, List.not_mem_nil, or_false] at hy
  rcases hy with rfl | rfl | rfl | rfl <;> rfl
/-- The slice value v is none, or a block's row with the events L. -/
def Eo (w : World) (v : Value) (L : List Ev) : Prop :=
  (v = .slice none 0 0 ∧ L = []) ∨ ∃ g cap, v = .slice (some ⟨g, 0, none⟩) L.length cap ∧ g < w.heap.size ∧ L.length ≤ cap ∧ cap ≤ maxLen ∧ ∀ j u, (ecells L)[j]? = some u → w.cell? ⟨g, j, none⟩ = some u
theorem Eo.ofOwn {w : World} {base : Nat} {e : TypeId} {v : Value} {L : List Ev} (h : w.ownsRow base e 4 v L.length (ecells L)) : Eo w v L := by
  have hlt := h.lt
  rcases h.2 with ⟨h1, h0⟩ | ⟨g, cap, cur, rfl, hb, hg, hnc, hcm, hcs, htake⟩
  · exact .inl ⟨h1, List.length_eq_zero_iff.1 h0⟩
  · refine .inr ⟨g, cap, rfl, (hlt g rfl).2, hnc, hcm, fun j u hu => ?_⟩
    have h2 := World.ownsRow.cells h (g := g) rfl j u hu
    have hadd : (⟨g, 0, none⟩ : Addr).add j = ⟨g, j, none⟩ := by unfold Addr.add; split <;> simp_all
    rwa [hadd] at h2
theorem Eo.below {B : Nat} {w w' : World} {v : Value} {L : List Ev} (h : Eo w v L) (hb : Below B w w') (hB : w.heap.size ≤ B) : Eo w' v L := by
  rcases h with h | ⟨g, cap, hv, hlt, hl, hm, hc⟩
  · exact .inl h
  · refine .inr ⟨g, cap, hv, Nat.lt_of_lt_of_le hlt hb.size, hl, hm, fun j u hu => ?_⟩
    rw [hb.cell (p := ⟨g, j, none⟩) (by show g < B; omega)]
    exact hc j u hu
theorem Eo.evr {w : World} {v : Value} {L : List Ev} (h : Eo w v L) : Evr w v L := by
  rcases h with ⟨rfl, rfl⟩ | ⟨g, cap, rfl, hlt, hl, hm, hc⟩
  · exact .inl ⟨_, _, rfl, rfl⟩
  · by_cases hz : L = []
    · subst hz; exact .inl ⟨_, _, rfl, rfl⟩
    · refine .inr ⟨g, 0, cap, rfl, hz, hlt, hl, hm, fun j hj i u hu => ?_⟩
      rw [Nat.zero_add]
      exact hc _ _ (ecells_at L j hj i u hu)
theorem Eo.parts {w : World} {v : Value} {L : List Ev} (h : Eo w v L) : ∃ a cap, v = .slice a L.length cap := by
  rcases h with ⟨rfl, rfl⟩ | ⟨g, cap, rfl, -⟩
  · exact ⟨none, 0, rfl⟩
  · exact ⟨_, _, rfl⟩
set_option maxHeartbeats 1000000 in
/-- slices.Clone at events. -/
theorem cloneE_any (v : Value) (L : List Ev) (w : World) (hE : Eo w v L) (hn : L.length ≤ 5005) :
    Calls Try.prog 34 #[v] w fun e w' => (∃ u, e = .returned u ∧ w'.ownsRow w.heap.size 58 4 u L.length (ecells L)) ∧ Below w.heap.size w w' := by
  rcases hE with ⟨rfl, rfl⟩ | ⟨g, cap, rfl, hlt, hl, hm, hc⟩
  · refine (Go.Proofs.AnyE.slices_Clone_nil ecloneLays 0 0 w).mono ?_
    rintro e w' ⟨rfl, rfl⟩
    exact ⟨⟨_, rfl, World.ownsRow_nil _ _ _ _⟩, Below.refl _ _⟩
  · obtain ⟨i0, hi, hi0, hi1, hi2⟩ := info_parts Try.infoEv
    refine (Go.Proofs.AnyE.slices_Clone ecloneLays i0 _ 4 48 hi hi0 hi1 hi2 rfl (by omega) Try.sizeOf58 g 0 L.length cap (ecells L) w (ecells_len L) (by unfold maxLen; omega) (by omega) (fun j u hu => by rw [Nat.zero_add]; exact hc j u hu) (ecells_one L)).mono ?_
    rintro e w' ⟨v', rfl, hown, -, hb⟩
    exact ⟨⟨v', rfl, hown⟩, hb⟩
theorem wpList_append_none_w {P : Program} {w : World} {ops : Array Oper} {rest : List Oper} {o : Oper} {a : Act} {Q : Exit → Act → World → Prop} (hw : Region.wanted o (yielded ops a.tmps) = true) (s x : Operand) (t : TypeId)
    (ho : o.op = .call { callee := .builtin .append, args := #[s, x], argTypes := #[t, t] })
    (base : Nat) (e : TypeId) (i : TypeInfo) (size : Nat) (ht : P.underlying t = some (.slice e)) (hi : P.info? e = some i)
    (v : Value) (n : Nat) (xs : List Value) (hs : a.eval s = v) (hown : w.ownsRow base e size v n xs) (hx : a.eval x = .slice none 0 0)
    (h : wpList P ops Q rest (a.put o.dst v) w) : wpList P ops Q (o :: rest) a w := by
  refine wpList_step fun K hK => ?_
  rw [if_pos hw]
  have hrun := run_append_owned_none (P := P) (w := w) base t o.type e i size ht hi v n xs hown
  unfold Oper.wp
  simp [execOp, ho, resolve, invoke, builtin, hs, hx, hrun, Result.andThen]
  exact hK _ _ h
theorem wpList_append_own_w {P : Program} {w : World} {ops : Array Oper} {rest : List Oper} {o : Oper} {a : Act} {Q : Exit → Act → World → Prop} (hw : Region.wanted o (yielded ops a.tmps) = true) (s x : Operand) (t : TypeId)
    (ho : o.op = .call { callee := .builtin .append, args := #[s, x], argTypes := #[t, t] })
    (base : Nat) (e : TypeId) (i : TypeInfo) (z : Value) (size bytes : Nat) (ht : P.underlying t = some (.slice e)) (hi : P.info? e = some i) (hz : i.zero = some z)
    (hsize : i.size = size) (hby : i.bytes = bytes) (hzs : z.cells.size = size) (hsz : 0 < size)
    (v : Value) (n : Nat) (xs : List Value) (hs : a.eval s = v) (hown : w.ownsRow base e size v n xs)
    (ad : Addr) (m c : Nat) (news : List Value) (hx : a.eval x = .slice (some ad) m c) (hl : news.length = m * size) (hnews : ∀ j u, news[j]? = some u → w.cell? (ad.add j) = some u) (h1 : ∀ u ∈ news, u.oneCell' = true)
    (h63 : n + m ≤ maxLen) (hbytes : (n + m) * bytes ≤ 140737488355328) (hbase : base ≤ w.heap.size)
    (h : ∀ v' w', w'.ownsRow base e size v' (n + m) (xs ++ news) → w.grownBy w' v.ownBlock → (v' = .slice none 0 0 ↔ v = .slice none 0 0 ∧ m = 0) → wpList P ops Q rest (a.put o.dst v') w') : wpList P ops Q (o :: rest) a w := by
  refine wpList_step fun K hK => ?_
  rw [if_pos hw]
  exact wp_append_own w s x t ho base e i z size bytes ht hi hz hsize hby hzs hsz v n xs hs hown ad m c news hx hl hnews h1 h63 hbytes hbase fun v' w' h2 h3 h4 => hK _ _ (h v' w' h2 h3 h4)
theorem dueL_len (ps : List Prt) (a b : Int) : (dueL ps a b).length ≤ 5 * ps.length := by
  unfold dueL
  split
  · exact dueN_len ps a b _
  · simp
theorem evr_kept {w w' : World} {v : Value} {L : List Ev} {row : Option Nat} {B : Nat} (h : Eo w v L) (hg : w.grownBy w' row) (hB : ∀ g c, v = .slice (some ⟨g, 0, none⟩) L.length c → g < B) (hr : ∀ g, row = some g → B ≤ g) : Evr w' v L := by
  refine Eo.evr ?_
  rcases h with h | ⟨g, cap, hv, hlt, hl, hm, hc⟩
  · exact .inl h
  · have hgB := hB g cap hv
    refine .inr ⟨g, cap, hv, Nat.lt_of_lt_of_le hlt hg.size, hl, hm, fun j u hu => ?_⟩
    rw [hg.cell_far ⟨g, j, none⟩ hlt (fun e => by have := hr g e.symm; omega)]
    exact hc j u hu
set_option maxRecDepth 100000 in
set_option maxHeartbeats 8000000 in
theorem adds_err (v : Value) (ps : List Prt) (a m b : Int) (w : World) (hS : Prts w v ps) (hwf : ∀ y ∈ ps, y.ad.size ≤ maxLen) (h0 : dueF ps a m ≠ 0 ∨ dueF ps m b ≠ 0) :
    Calls Try.prog 8 #[v, .int .i64 a, .int .i64 m, .int .i64 b] w fun e w' => e = .returned (.bool true) ∧ Below w.heap.size w w' := by
  have HD := Lib.hid (Due_any v ps a m w hS hwf)
  have HR : Hid (∀ W, Below w.heap.size w W → Calls Try.prog 31 #[v, .int .i64 m, .int .i64 b] W fun e w' => (∃ u, e = .returned (.tuple #[u, .int .i64 (dueF ps m b)]) ∧ w'.ownsRow W.heap.size 58 4 u (dueL ps m b).length (ecells (dueL ps m b))) ∧ Below W.heap.size W w') := Lib.hid (fun W hb => Due_any v ps m b W (hS.below hb (Nat.le_refl _)) hwf)
  have HL1 : Hid (dueF ps a m ≠ 0 → (dueL ps a m).length = 0) := Lib.hid (fun h => by unfold dueL; rw [if_neg h]; rfl)
  have HL2 : Hid (dueF ps m b ≠ 0 → (dueL ps m b).length = 0) := Lib.hid (fun h => by unfold dueL; rw [if_neg h]; rfl)
  obtain ⟨F1, hF1⟩ : ∃ F, dueF ps a m = F := ⟨_, rfl⟩
  obtain ⟨L1, hL1⟩ : ∃ L, dueL ps a m = L := ⟨_, rfl⟩
  obtain ⟨F2, hF2⟩ : ∃ F, dueF ps m b = F := ⟨_, rfl⟩
  obtain ⟨L2, hL2⟩ : ∃ L, dueL ps m b = L := ⟨_, rfl⟩
  rw [hF1] at HD HL1 h0
  rw [hF2] at HR HL2 h0
  rw [hL1] at HD HL1
  rw [hL2] at HR HL2
  have H0 := Lib.hid h0
  clear hF1 hL1 hF2 hL2 hS hwf h0
  go_enter Try.func8, Try.ntmps8
  go_wp2_with fail
  refine HD.out.mono ?_; rintro e w1 ⟨⟨u1, rfl, hu⟩, b1⟩
  obtain ⟨a1, c1, rfl⟩ := (Eo.ofOwn hu).parts
  clear hu HD
  go_wp2_with fail
  refine (HR.out _ b1).mono ?_; rintro e w2 ⟨⟨u2, rfl, hy⟩, b2⟩
  obtain ⟨a2, c2, rfl⟩ := (Eo.ofOwn hy).parts
  have b2 := b1.trans (b2.mono b1.size)
  clear hy HR b1
  obtain ⟨n1, hn1⟩ : ∃ n, L1.length = n := ⟨_, rfl⟩
  obtain ⟨n2, hn2⟩ : ∃ n, L2.length = n := ⟨_, rfl⟩
  rw [hn1] at HL1 ⊢
  rw [hn2] at HL2 ⊢
  clear hn1 hn2
  by_cases h1 : F1 = 0
  · have h2 : F2 ≠ 0 := by
      rcases H0.out with h | h
      · exact absurd h1 h
      · exact h
    have e2 : n2 = 0 := HL2.out h2
    have q2 : (F2 == 0) = false := by simp; exact h2
    have q3 : (F2 != 0) = true := by simp; exact h2
    subst h1 e2
    clear h2
    go_wp2_with fail
    refine (awake7_any _).mono ?_; rintro e w4 ⟨rfl, b4⟩
    go_wp2_with fail
    go_ret
    exact ⟨rfl, b2.trans (b4.mono b2.size)⟩
  · have e1 : n1 = 0 := HL1.out h1
    have q0 : (F1 == 0) = false := by simp; exact h1
    have q1 : (F1 != 0) = true := by simp; exact h1
    subst e1
    clear h1
    by_cases h2 : F2 = 0
    · subst h2
      go_wp2_with fail
      refine (awake7_any _).mono ?_; rintro e w4 ⟨rfl, b4⟩
      go_wp2_with fail
      go_ret
      exact ⟨rfl, b2.trans (b4.mono b2.size)⟩
    · have e2 : n2 = 0 := HL2.out h2
      have q2 : (F2 == 0) = false := by simp; exact h2
      have q3 : (F2 != 0) = true := by simp; exact h2
      subst e2
      clear h2
      go_wp2_with fail
      refine (awake7_any _).mono ?_; rintro e w4 ⟨rfl, b4⟩
      go_wp2_with fail
      go_ret
      exact ⟨rfl, b2.trans (b4.mono b2.size)⟩
set_option maxRecDepth 100000 in
set_option maxHeartbeats 16000000 in
theorem adds_ok (v : Value) (ps : List Prt) (a m b : Int) (w : World) (hS : Prts w v ps) (hwf : ∀ y ∈ ps, y.ad.size ≤ maxLen) (h1 : dueF ps a m = 0) (h2 : dueF ps m b = 0) :
    Calls Try.prog 8 #[v, .int .i64 a, .int .i64 m, .int .i64 b] w fun e w' => e = .returned (.bool true) ∧ Below w.heap.size w w' := by
  obtain ⟨i0, hi, hi0, hi1, hi2⟩ := info_parts Try.infoEv
  obtain ⟨hp, ha, ham, -⟩ := dueF_zero h1
  obtain ⟨-, hm, hmb, hb5⟩ := dueF_zero h2
  have g := (ptF_zero ps).1 hp
  have h3 : dueF ps a b = 0 := by
    unfold dueF
    rw [if_pos hp, inB_yes ha.1 ha.2, inB_yes (by omega) hb5]; rfl
  have h4 : dueF ps 0 1000000000000000 = 0 := by
    unfold dueF
    rw [if_pos hp]; rfl
  have HJ : Hid (dueN ps a m ps.length ++ dueN ps m b ps.length = dueN ps a b ps.length) := Lib.hid (due_join g ham hmb)
  have HA := due_all g
  have hfb := fiveTo_bd ps
  have e1 : dueL ps a m = dueN ps a m ps.length := if_pos h1
  have e2 : dueL ps m b = dueN ps m b ps.length := if_pos h2
  have e3 : dueL ps a b = dueN ps a b ps.length := if_pos h3
  have e4 : dueL ps 0 1000000000000000 = dueN ps 0 1000000000000000 ps.length := if_pos h4
  have D1 := Due_any v ps a m w hS hwf
  have D2 : Hid (∀ W, Below w.heap.size w W → Calls Try.prog 31 #[v, .int .i64 m, .int .i64 b] W fun e w' => (∃ u, e = .returned (.tuple #[u, .int .i64 0]) ∧ w'.ownsRow W.heap.size 58 4 u (dueN ps m b ps.length).length (ecells (dueN ps m b ps.length))) ∧ Below W.heap.size W w') := Lib.hid (fun W hb => by have := Due_any v ps m b W (hS.below hb (Nat.le_refl _)) hwf; rw [e2, h2] at this; exact this)
  have D3 : Hid (∀ W, Below w.heap.size w W → Calls Try.prog 31 #[v, .int .i64 a, .int .i64 b] W fun e w' => (∃ u, e = .returned (.tuple #[u, .int .i64 0]) ∧ w'.ownsRow W.heap.size 58 4 u (dueN ps a b ps.length).length (ecells (dueN ps a b ps.length))) ∧ Below W.heap.size W w') := Lib.hid (fun W hb => by have := Due_any v ps a b W (hS.below hb (Nat.le_refl _)) hwf; rw [e3, h3] at this; exact this)
  have D4 : Hid (∀ W, Below w.heap.size w W → Calls Try.prog 31 #[v, .int .i64 0, .int .i64 1000000000000000] W fun e w' => (∃ u, e = .returned (.tuple #[u, .int .i64 0]) ∧ w'.ownsRow W.heap.size 58 4 u (dueN ps 0 1000000000000000 ps.length).length (ecells (dueN ps 0 1000000000000000 ps.length))) ∧ Below W.heap.size W w') := Lib.hid (fun W hb => by have := Due_any v ps 0 1000000000000000 W (hS.below hb (Nat.le_refl _)) hwf; rw [e4, h4] at this; exact this)
  rw [e1, h1] at D1
  have D1 := Lib.hid D1
  have hl1 := dueN_len ps a m ps.length
  have hl2 := dueN_len ps m b ps.length
  obtain ⟨L1, hL1⟩ : ∃ L, dueN ps a m ps.length = L := ⟨_, rfl⟩
  obtain ⟨L2, hL2⟩ : ∃ L, dueN ps m b ps.length = L := ⟨_, rfl⟩
  obtain ⟨L3, hL3⟩ : ∃ L, dueN ps a b ps.length = L := ⟨_, rfl⟩
  obtain ⟨L4, hL4⟩ : ∃ L, dueN ps 0 1000000000000000 ps.length = L := ⟨_, rfl⟩
  rw [hL1] at D1 HJ hl1
  rw [hL2] at D2 HJ hl2
  rw [hL3] at D3 HJ
  rw [hL4] at D4 HA
  obtain ⟨sa, cap, rfl⟩ := hS.parts
  have HS : Hid (∀ W, Below w.heap.size w W → Prts W (.slice sa ps.length cap) ps) := Lib.hid (fun W hb => hS.below hb (Nat.le_refl _))
  have hn5 := g.len
  obtain ⟨n, hn⟩ : ∃ n, ps.length = n := ⟨_, rfl⟩
  have HN := Lib.hid hn
  have hl1 : L1.length ≤ 5005 := by omega
  have hl2 : L2.length ≤ 5005 := by omega
  rw [hn] at HA hn5 HS D1 D2 D3 D4 ⊢
  have HAA := Lib.hid HA; have HFB := Lib.hid hfb
  clear hn hL1 hL2 hL3 hL4 hS hwf h1 h2 h3 h4 e1 e2 e3 e4 g hp ha ham hm hmb hb5 HA hfb
  go_enter Try.func8, Try.ntmps8
  go_wp2_with fail
  refine D1.out.mono ?_; rintro e w1 ⟨⟨u1, rfl, hu⟩, b1⟩
  have U1 := Lib.hid (Eo.ofOwn hu)
  clear hu D1
  go_wp2_with fail
  refine (D2.out _ b1).mono ?_; rintro e w2 ⟨⟨u2, rfl, hy⟩, b2⟩
  have U2 := Lib.hid (Eo.ofOwn hy)
  have U1 := Lib.hid (U1.out.below b2 (Nat.le_refl _))
  have b2 := b1.trans (b2.mono b1.size)
  clear hy D2 b1
  go_wp2_with fail
  refine (D3.out _ b2).mono ?_; rintro e w3 ⟨⟨u3, rfl, hy⟩, b3⟩
  have U3 := Lib.hid (Eo.ofOwn hy)
  have U1 := Lib.hid (U1.out.below b3 (Nat.le_refl _))
  have U2 := Lib.hid (U2.out.below b3 (Nat.le_refl _))
  have b3 := b2.trans (b3.mono b2.size)
  clear hy D3 b2
  go_wp2_with fail
  refine (D4.out _ b3).mono ?_; rintro e w4 ⟨⟨u4, rfl, hy⟩, b4⟩
  obtain ⟨a4, c4, rfl⟩ := (Eo.ofOwn hy).parts
  have U1 := Lib.hid (U1.out.below b4 (Nat.le_refl _))
  have U2 := Lib.hid (U2.out.below b4 (Nat.le_refl _))
  have U3N : Hid (∀ g c, u3 = .slice (some ⟨g, 0, none⟩) L3.length c → g < w4.heap.size) := Lib.hid (by
    intro g c hv
    have hz := b4.size
    rcases U3.out with ⟨h1, -⟩ | ⟨g', c', h1, h2, -⟩
    · rw [h1] at hv; simp at hv
    · rw [h1] at hv; simp only [Value.slice.injEq, Option.some.injEq, Addr.mk.injEq, and_true] at hv; omega)
  have U3 := Lib.hid (U3.out.below b4 (Nat.le_refl _))
  have b4 := b3.trans (b4.mono b3.size)
  clear hy D4 b3
  obtain ⟨n4, hn4⟩ : ∃ n4, L4.length = n4 := ⟨_, rfl⟩
  rw [hn4] at HAA ⊢
  clear hn4
  go_wp2_with fail
  refine (cloneE_any _ _ _ U1.out hl1).mono ?_; rintro e w5 ⟨⟨u5, rfl, hown⟩, b5⟩
  have U2 := Lib.hid (U2.out.below b5 (Nat.le_refl _))
  have U3 := Lib.hid (U3.out.below b5 (Nat.le_refl _))
  have hz5 := b5.size
  have b5 := b4.trans (b5.mono b4.size)
  clear U1
  have HAPP : Hid (∀ (w6 : World) (y : Value), Below w.heap.size w w6 → Evr w6 y (L1 ++ L2) → Evr w6 u3 L3 → Calls Try.prog 33 #[y, u3] w6 fun e w' => e = .returned (.bool true) ∧ ∃ q, w' = w6.drewN q) := Lib.hid (fun w6 y hb h6 h3 => by rw [HJ.out] at h6; exact equalE_same y u3 L3 w6 h6 h3)
  rcases U2.out with ⟨rfl, hL2⟩ | ⟨g2, c2, rfl, hg2, hlc2, hcm2, hc2⟩
  · subst hL2
    have hown7 : Evr w5 u5 (L1 ++ []) := by rw [List.append_nil]; exact Evr.ofOwn hown
    go_wp2_with (at_builtin; refine wpList_append_none_w (by rfl) _ _ 53 rfl w4.heap.size 58 i0 4 Try.underlying53 hi _ _ _ rfl hown rfl ?_)
    go_wp2_with fail
    refine (HAPP.out _ _ b5 hown7 U3.out.evr).mono ?_; rintro e w7 ⟨rfl, q, rfl⟩
    have b7 := below_drewN b5 q
    clear hown hown7 HAPP U2 U3 b5 hz5
    generalize w5.drewN q = W at *
    go_wp2_with fail
    go_loopw [15, 16] (fun v15 v16 wr => ∃ k : Nat, k ≤ n ∧ v16 = .int .i64 (k : Int) ∧ v15 = .int .i64 (fiveTo ps k) ∧ W = wr) (fun _ v16 _ => n - (intOf v16).toNat)
    case atStart => exact ⟨0, Nat.zero_le _, rfl, rfl, rfl⟩
    case round =>
      obtain ⟨k, hk, rfl, rfl, rfl⟩ := hrel
      by_cases hk2 : k < n
      rotate_left
      · have hkn : k = n := by omega
        have kD : decide ((k : Int) < (n : Int)) = false := by simp; omega
        have kD2 : decide (k < n) = false := by simp; omega
        have e5 : fiveTo ps k = (n4 : Int) := by rw [hkn]; exact HAA.out.symm
        have e6 : ((n4 : Int) == (n4 : Int)) = true := by simp
        rw [e5]
        clear hkn e5
        go_wp2_with fail
        refine (awake7_any _).mono ?_; rintro e w9 ⟨rfl, b9⟩
        go_wp2_with fail
        go_ret
        exact ⟨rfl, b7.trans (b9.mono b7.size)⟩
      · have hSW := HS.out _ b7
        rw [← HN.out] at hSW
        obtain ⟨bb, off, cap', hv, hlt, -, -⟩ := hSW.spot (by rw [HN.out]; omega)
        simp only [Value.slice.injEq] at hv
        obtain ⟨rfl, -, rfl⟩ := hv
        obtain ⟨c0, -, -⟩ := hSW.cells k (by rw [HN.out]; exact hk2)
        have hf := HFB.out k
        have HSK : Hid (fiveTo ps (k + 1) = if isAd (ps.getD k prt0) = true then fiveTo ps k + 5 else fiveTo ps k) := Lib.hid rfl
        obtain ⟨x, hx⟩ : ∃ x, ps.getD k prt0 = x := ⟨_, rfl⟩
        obtain ⟨f, hff⟩ : ∃ f, fiveTo ps k = f := ⟨_, rfl⟩
        rw [hx] at c0 HSK
        rw [hff] at hf HSK ⊢
        have hq := isAd_eq x.ad x.fr x.ln
        have hIA : isAd ⟨x.ad, x.fr, x.ln⟩ = isAd x := rfl
        rw [hIA] at hq
        have hq2 : (x.ad.toList != []) = isAd x := by rw [bne, hq, Bool.not_not]
        have kI : (k : Int) < (n : Int) := by omega
        have wF : IntKind.i64.wrap (f + 5) = f + 5 := IntWalk.i64_in _ ⟨by omega, by omega⟩
        have hwI : IntKind.i64.wrap ((k : Int) + 1) = (k : Int) + 1 := IntWalk.i64_in _ ⟨by omega, by omega⟩
        obtain ⟨IA, hIA2⟩ : ∃ IA, isAd x = IA := ⟨_, rfl⟩
        rw [hIA2] at HSK hq hq2
        clear hx hff hIA hIA2 hSW hf
        cases IA
        · have HS2 : Hid (fiveTo ps (k + 1) = f) := HSK
          replace hq : (x.ad.toList == []) = true := hq
          clear HSK
          go_wp2_with fail
          go_roundw
          case rel => exact ⟨k + 1, by omega, by go_num, by rw [HS2.out], trivial⟩
          case measure => simp [intOf]; omega
        · have HS2 : Hid (fiveTo ps (k + 1) = f + 5) := HSK
          replace hq : (x.ad.toList == []) = false := hq
          clear HSK
          go_wp2_with fail
          go_roundw
          case rel => exact ⟨k + 1, by omega, by go_num, by rw [HS2.out], trivial⟩
          case measure => simp [intOf]; omega
  · have HC2 := Lib.hid hc2
    clear hc2 U2
    go_wp2_with (at_builtin; refine wpList_append_own_w (by rfl) _ _ 53 rfl w4.heap.size 58 i0 (.agg #[.string ⟨#[]⟩, .int .i64 0, .string ⟨#[]⟩, .int .i64 0]) 4 48 Try.underlying53 hi hi0 hi1 hi2 rfl (by decide) _ _ _ rfl hown ⟨g2, 0, none⟩ L2.length c2 (ecells L2) rfl (ecells_len L2) ?b1 (ecells_one L2) ?b3 ?b4 hz5 ?_)
    case b1 =>
      intro j u hu
      have hadd : (⟨g2, 0, none⟩ : Addr).add j = ⟨g2, j, none⟩ := by unfold Addr.add; split <;> simp_all
      rw [hadd]; exact HC2.out j u hu
    case b3 => unfold maxLen; omega
    case b4 => omega
    intro v' w6 hown1 hgrow _
    have hb6 : Below w4.heap.size w5 w6 := (Below.refl _ w5).grown hgrow hz5 (fun q hq => (hown.lt q hq).1)
    have U3 := Lib.hid (evr_kept U3.out hgrow U3N.out (fun q hq => (hown.lt q hq).1))
    have hown7 : Evr w6 v' (L1 ++ L2) := Evr.ofOwn (by rw [List.length_append, ecells_append]; exact hown1)
    have b6 := b5.trans (hb6.mono (by have := b4.size; omega))
    go_wp2_with fail
    refine (HAPP.out _ _ b6 hown7 U3.out).mono ?_; rintro e w7 ⟨rfl, q, rfl⟩
    have b7 := below_drewN b6 q
    clear hown hown1 hown7 hgrow HAPP HC2 U3 b6 b5 hz5 hg2 hlc2 hcm2 hb6
    generalize w6.drewN q = W at *
    go_wp2_with fail
    go_loopw [15, 16] (fun v15 v16 wr => ∃ k : Nat, k ≤ n ∧ v16 = .int .i64 (k : Int) ∧ v15 = .int .i64 (fiveTo ps k) ∧ W = wr) (fun _ v16 _ => n - (intOf v16).toNat)
    case atStart => exact ⟨0, Nat.zero_le _, rfl, rfl, rfl⟩
    case round =>
      obtain ⟨k, hk, rfl, rfl, rfl⟩ := hrel
      by_cases hk2 : k < n
      rotate_left
      · have hkn : k = n := by omega
        have kD : decide ((k : Int) < (n : Int)) = false := by simp; omega
        have kD2 : decide (k < n) = false := by simp; omega
        have e5 : fiveTo ps k = (n4 : Int) := by rw [hkn]; exact HAA.out.symm
        have e6 : ((n4 : Int) == (n4 : Int)) = true := by simp
        rw [e5]
        clear hkn e5
        go_wp2_with fail
        refine (awake7_any _).mono ?_; rintro e w9 ⟨rfl, b9⟩
        go_wp2_with fail
        go_ret
        exact ⟨rfl, b7.trans (b9.mono b7.size)⟩
      · have hSW := HS.out _ b7
        rw [← HN.out] at hSW
        obtain ⟨bb, off, cap', hv, hlt, -, -⟩ := hSW.spot (by rw [HN.out]; omega)
        simp only [Value.slice.injEq] at hv
        obtain ⟨rfl, -, rfl⟩ := hv
        obtain ⟨c0, -, -⟩ := hSW.cells k (by rw [HN.out]; exact hk2)
        have hf := HFB.out k
        have HSK : Hid (fiveTo ps (k + 1) = if isAd (ps.getD k prt0) = true then fiveTo ps k + 5 else fiveTo ps k) := Lib.hid rfl
        obtain ⟨x, hx⟩ : ∃ x, ps.getD k prt0 = x := ⟨_, rfl⟩
        obtain ⟨f, hff⟩ : ∃ f, fiveTo ps k = f := ⟨_, rfl⟩
        rw [hx] at c0 HSK
        rw [hff] at hf HSK ⊢
        have hq := isAd_eq x.ad x.fr x.ln
        have hIA : isAd ⟨x.ad, x.fr, x.ln⟩ = isAd x := rfl
        rw [hIA] at hq
        have hq2 : (x.ad.toList != []) = isAd x := by rw [bne, hq, Bool.not_not]
        have kI : (k : Int) < (n : Int) := by omega
        have wF : IntKind.i64.wrap (f + 5) = f + 5 := IntWalk.i64_in _ ⟨by omega, by omega⟩
        have hwI : IntKind.i64.wrap ((k : Int) + 1) = (k : Int) + 1 := IntWalk.i64_in _ ⟨by omega, by omega⟩
        obtain ⟨IA, hIA2⟩ : ∃ IA, isAd x = IA := ⟨_, rfl⟩
        rw [hIA2] at HSK hq hq2
        clear hx hff hIA hIA2 hSW hf
        cases IA
        · have HS2 : Hid (fiveTo ps (k + 1) = f) := HSK
          replace hq : (x.ad.toList == []) = true := hq
          clear HSK
          go_wp2_with fail
          go_roundw
          case rel => exact ⟨k + 1, by omega, by go_num, by rw [HS2.out], trivial⟩
          case measure => simp [intOf]; omega
        · have HS2 : Hid (fiveTo ps (k + 1) = f + 5) := HSK
          replace hq : (x.ad.toList == []) = false := hq
          clear HSK
          go_wp2_with fail
          go_roundw
          case rel => exact ⟨k + 1, by omega, by go_num, by rw [HS2.out], trivial⟩
          case measure => simp [intOf]; omega
theorem addslaw (v : Value) (ps : List Prt) (a m b : Int) (w : World) (hS : Prts w v ps) (hwf : ∀ y ∈ ps, y.ad.size ≤ maxLen) :
    Calls Try.prog 8 #[v, .int .i64 a, .int .i64 m, .int .i64 b] w fun e w' => e = .returned (.bool true) ∧ Below w.heap.size w w' := by
  by_cases h1 : dueF ps a m = 0
  · by_cases h2 : dueF ps m b = 0
    · exact adds_ok v ps a m b w hS hwf h1 h2
    · exact adds_err v ps a m b w hS hwf (.inr h2)
  · exact adds_err v ps a m b w hS hwf (.inl h1)

end Go.Proofs.Ytiphipgheadakaa
