/- nextSteps (program). -/
import Derived.Test.YtinckidkophobaaStepPlain2
import Derived.Test.YtinckidkophobaaStepW
import Derived.Deep.OwnRows
import Derived.Deep.DeepCutAuto
import Derived.Deep.CutBlock
namespace Go.Proofs.Ytinckidkophobaa
set_option linter.unusedVariables false
set_option linter.unusedSimpArgs false
open Go.RowKit Go.Shelf Go.Deep

open Sem in
theorem step_make_row {P : Program} (w : World) {ops : Array Oper} {o : Oper} {a : Act} {K : Act → World → Prop} {Q : Exit → Act → World → Prop} {E : Prop} (hgd : o.guard = none) (l c : Operand) (t : TypeId) (hop : o.op = Op.makeSlice t l c)
    (e : TypeId) (z : Value) (bytes : Nat) (ht : P.underlying t = some (.slice e)) (hinfo : (P.info? e).map (fun i => (i.zero, i.size, i.bytes)) = some (some z, 1, bytes)) (hz1 : z.cells = #[z])
    (kl kc : IntKind) (n : Nat) (hl : a.eval l = .int kl (n : Int)) (hc : a.eval c = .int kc (n : Int)) (hbytes : bytes * n ≤ 281474976710656) (h63 : n ≤ 9223372036854775807)
    (hK : K (a.put o.dst (.slice (some ⟨w.heap.size, 0, none⟩) n n)) (w.alloc (.cells (madeCells #[z] n) e))) :
    if Region.wanted o (yielded ops a.tmps) = true then Oper.wp P o a w K Q else E := by
  have hw : Region.wanted o (yielded ops a.tmps) = true := by simp [Region.wanted, hgd]
  rw [if_pos hw]
  have hrun := run_make_row' (P := P) t e z bytes ht hinfo hz1 kl kc n hbytes h63 w
  unfold Oper.wp
  simp [execOp, hop, hl, hc, hrun, Result.andThen]
  exact hK
/-- A table of small numbers in a block of its own. -/
structure TbAt (W : World) (g n : Nat) (f : Nat → Nat) : Prop where
  lt : g < W.heap.size
  c : ∀ j, j < n → W.cell? ⟨g, j, none⟩ = some (.int .i64 (f j : Int))
  f : ∀ j, W.frozen? ⟨g, j, none⟩ = false
theorem updN_same (f : Nat → Nat) (i c k : Nat) : updN (updN f i c) i k = updN f i k := by
  funext j
  unfold updN
  split <;> rfl
theorem TbAt.below {W W' : World} {B g n : Nat} {f : Nat → Nat} (h : TbAt W g n f) (hb : Below B W W') (hB : g < B) : TbAt W' g n f := ⟨Nat.lt_of_lt_of_le h.lt hb.size, fun j hj => (hb.cell (p := ⟨g, j, none⟩) hB).trans (h.c j hj), fun j => by rw [hb.frozen (p := ⟨g, j, none⟩) hB]; exact h.f j⟩
theorem TbAt.set {W : World} {g n : Nat} {f : Nat → Nat} (h : TbAt W g n f) (i v : Nat) (z : Int) (hi : i < n) (hz : z = (v : Int)) : TbAt (W.setCell ⟨g, i, none⟩ (.int .i64 z)) g n (updN f i v) := by
  subst hz
  refine ⟨by simpa using h.lt, fun j hj => ?_, fun j => by simpa using h.f j⟩
  unfold updN
  by_cases e : j = i
  · subst e
    rw [if_pos rfl]
    exact World.cell?_setCell_same _ _ _ (h.c j hj)
  · rw [if_neg e]
    rw [World.cell?_setCell_other _ _ _ _ (by simp <;> omega)]
    exact h.c j hj
theorem TbAt.other {W : World} {g h n i : Nat} {f : Nat → Nat} {v : Value} (t : TbAt W g n f) (hn : g ≠ h) : TbAt (W.setCell ⟨h, i, none⟩ v) g n f := by
  refine ⟨by simpa using t.lt, fun j hj => ?_, fun j => by simpa using t.f j⟩
  rw [World.cell?_setCell_far _ _ _ _ (by show h ≠ g; omega)]
  exact t.c j hj
theorem TbAt.made (W : World) (n : Nat) : TbAt (W.alloc (.cells (madeCells #[.int .i64 0] n) 3)) W.heap.size n (fun _ => 0) := by
  refine ⟨by simp, fun j hj => ?_, fun j => by go_simp⟩
  rw [World.cell?_alloc_at _ _ _ _ (by simp)]
  simp [madeCells, hj, Nat.mod_one]
theorem bret_not (R : Bool) : Value.bool (!!R) = .bool R := by rw [Bool.not_not]
theorem TbAt.made2 (W : World) (o : Obj) (n : Nat) : TbAt ((W.alloc o).alloc (.cells (madeCells #[.int .i64 0] n) 3)) (W.heap.size + 1) n (fun _ => 0) := by
  have := TbAt.made (W.alloc o) n
  rwa [show (W.alloc o).heap.size = W.heap.size + 1 by simp] at this
def Tabs2 (w W : World) (n : Nat) (s5 s6 : Value) (f l : Nat → Nat) : Prop := ∃ g h, s5 = .slice (some ⟨g, 0, none⟩) n n ∧ s6 = .slice (some ⟨h, 0, none⟩) n n ∧ TbAt W g n f ∧ TbAt W h n l ∧ g ≠ h ∧ w.heap.size ≤ g ∧ w.heap.size ≤ h
set_option maxRecDepth 100000 in
set_option maxHeartbeats 16000000 in
theorem next_walk (b off n cap e : Nat) (rs : List Rung) (p q : Int) (w : World) (hz : rs.length = n) (hne : Hid (n = e + 1)) (hn : n ≤ 100) (hlt : b < w.heap.size) (hS : Rungs w (.slice (some ⟨b, off, none⟩) n cap) rs) (hst : StOk rs p q) (hng : NoGaps rs p q e) :
    Calls Try.prog 22 #[.slice (some ⟨b, off, none⟩) n cap, .agg #[.int .i64 p, .int .i64 q]] w fun r w' => (∃ g, r = .returned (.slice (some ⟨g, 0, none⟩) n n) ∧ TbAt w' g n (nextN rs p q e) ∧ w.heap.size ≤ g) ∧ Below w.heap.size w w' := by
  have HRS := Lib.hid hS
  have HST := Lib.hid hst
  have HTO : Hid (∀ d, d ≤ e → TabOk rs p q e d (tabN rs p q e (e - d))) := Lib.hid (fun d hd => by have := tabN_ok rs p q e hng (e - d) (by omega); rwa [show e - (e - d) = d by omega] at this)
  have HBO : Hid (∀ i, i < e → i < bestN rs p q e i ∧ bestN rs p q e i ≤ e ∧ gapB (rs.getD i rung0) (rs.getD (bestN rs p q e i) rung0) p q = false) := Lib.hid (fun i hi => bestN_ok rs p q e i hi hng)
  have HZ := Lib.hid hz
  have HNE := hne
  have he : e < n := by have := HNE.out; omega
  have b1 : Below w.heap.size w (w.alloc (.cells #[.int .i64 p, .int .i64 q] 24)) := (Below.refl _ w).alloc (Nat.le_refl _) _
  have T1 := Two.new w p q 24
  clear hS hst hng hz hne
  go_enter Try.func22, Try.ntmps22
  go_upto_region 1 with fail
  generalize w.alloc (.cells #[.int .i64 p, .int .i64 q] 24) = W at *
  go_cut [5, 6] (fun s5 s6 wx => Tabs2 W wx n s5 s6 (fun _ => 0) (fun _ => 0) ∧ Below W.heap.size W wx)
  case first =>
    clear T1 HTO HBO HRS HST
    refine wp_region_noPanic ?_
    refine wp_region_held_drew (S := fun w' => Below W.heap.size W w') (by kernel_rfl) ?hS0 (fun hHeld => ?_)
    case hS0 => exact (Below.refl _ W).drew
    have hS : Below W.heap.size W W.drew := (Below.refl _ W).drew
    clear hHeld
    generalize W.drew = wd at *
    refine wpAnyH_take (i := 0) (v := ?_) rfl (by kernel_rfl) (by kernel_rfl) (by kernel_rfl) (fun _ _ _ h => h) (Or.inl ⟨by kernel_rfl, ?hy⟩) (by assumption) ?_
    case hy => (intro w hSw; go_simp; try (with_reducible rfl))
    try simp only [Act.put, List.setIfInBounds_toArray, List.set_cons_zero, List.set_cons_succ]
    refine wpAnyH_take (i := 1) (v := ?_) rfl (by kernel_rfl) (by kernel_rfl) (by kernel_rfl) (fun _ _ _ h => h) (Or.inl ⟨by kernel_rfl, ?hy⟩) (by assumption) ?_
    case hy => (intro w hSw; go_simp; try (with_reducible rfl))
    try simp only [Act.put, List.setIfInBounds_toArray, List.set_cons_zero, List.set_cons_succ]
    refine wpAnyH_take (i := 3) (v := ?_) rfl (by kernel_rfl) (by kernel_rfl) (by kernel_rfl) (fun _ _ _ h => h) (Or.inl ⟨by kernel_rfl, ?hy⟩) (by assumption) ?_
    case hy => (intro w hSw; go_simp; try (with_reducible rfl))
    try simp only [Act.put, List.setIfInBounds_toArray, List.set_cons_zero, List.set_cons_succ]
    refine wpAnyH_take (i := 4) (v := ?_) rfl (by kernel_rfl) (by kernel_rfl) (by kernel_rfl) (fun _ _ _ h => h) (Or.inl ⟨by kernel_rfl, ?hy⟩) (by assumption) ?_
    case hy => (intro w hSw; go_simp; try (with_reducible rfl))
    try simp only [Act.put, List.setIfInBounds_toArray, List.set_cons_zero, List.set_cons_succ]
    have hs0 : W.heap.size ≤ wd.heap.size := hS.size
    refine wpAnyH_ready (rs := [2, 5]) (by kernel_rfl) (by simp) ?_
    refine AllReadyH.cons rfl (fun K hK => ?f2) (AllReadyH.cons rfl (fun K hK => ?f5) AllReadyH.nil)
    case f2 =>
      refine step_make_row _ rfl (.tmp 10) (.tmp 10) 25 rfl 3 (.int .i64 0) 8 Try.underlying25 Try.infoInt8 rfl .i64 .i64 n (by kernel_rfl) (by kernel_rfl) (by omega) (by omega) ?_
      refine hK.out _ _ (hS.alloc hS.size _) (fun hS => ?_)
      clear hK K
      try simp only [Act.put, List.setIfInBounds_toArray, List.set_cons_zero, List.set_cons_succ]
      refine wpAnyH_ready (rs := [5, 6]) (by kernel_rfl) (by simp) ?_
      refine AllReadyH.cons rfl (fun K hK => ?g5) (AllReadyH.cons rfl (fun K hK => ?g6) AllReadyH.nil)
      case g5 =>
        refine step_make_row _ rfl (.tmp 13) (.tmp 13) 25 rfl 3 (.int .i64 0) 8 Try.underlying25 Try.infoInt8 rfl .i64 .i64 n (by kernel_rfl) (by kernel_rfl) (by omega) (by omega) ?_
        refine hK.out _ _ (hS.alloc hS.size _) (fun hS => ?_)
        clear hK K
        try simp only [Act.put, List.setIfInBounds_toArray, List.set_cons_zero, List.set_cons_succ]
        refine wpAnyH_take (i := 6) (v := ?_) rfl (by kernel_rfl) (by kernel_rfl) (by kernel_rfl) (fun _ _ _ h => h) (Or.inl ⟨by kernel_rfl, ?hy⟩) (by assumption) ?_
        case hy => (intro w hSw; go_simp; try (with_reducible rfl))
        try simp only [Act.put, List.setIfInBounds_toArray, List.set_cons_zero, List.set_cons_succ]
        refine wpAnyH_take (i := 7) (v := ?_) rfl (by kernel_rfl) (by kernel_rfl) (by kernel_rfl) (fun _ _ _ h => h) (Or.inl ⟨by kernel_rfl, ?hy⟩) (by assumption) ?_
        case hy => (intro w hSw; go_simp; try (with_reducible rfl))
        try simp only [Act.put, List.setIfInBounds_toArray, List.set_cons_zero, List.set_cons_succ]
        refine wpAnyH_done (by kernel_rfl) ?_ _
        refine NoPanic.normal ?_
        go_wp2_with fail
        go_meet
        exact ⟨⟨_, _, rfl, rfl, (TbAt.made wd n).below ((Below.refl _ _).alloc (Nat.le_refl _) _) (by simp), TbAt.made2 _ _ n, by simp, hs0, Nat.le_trans hs0 (by simp)⟩, hS⟩
      case g6 =>
        go_simp
        refine hK.out _ _ hS (fun hHeld => ?_)
        clear hK K hHeld
        try simp only [Act.put, List.setIfInBounds_toArray, List.set_cons_zero, List.set_cons_succ]
        refine wpAnyH_ready (rs := [5]) (by kernel_rfl) (by simp) ?_
        refine AllReadyH.cons rfl (fun K hK => ?_) AllReadyH.nil
        refine step_make_row _ rfl (.tmp 13) (.tmp 13) 25 rfl 3 (.int .i64 0) 8 Try.underlying25 Try.infoInt8 rfl .i64 .i64 n (by kernel_rfl) (by kernel_rfl) (by omega) (by omega) ?_
        refine hK.out _ _ (hS.alloc hS.size _) (fun hS => ?_)
        clear hK K
        try simp only [Act.put, List.setIfInBounds_toArray, List.set_cons_zero, List.set_cons_succ]
        refine wpAnyH_take (i := 7) (v := ?_) rfl (by kernel_rfl) (by kernel_rfl) (by kernel_rfl) (fun _ _ _ h => h) (Or.inl ⟨by kernel_rfl, ?hy⟩) (by assumption) ?_
        case hy => (intro w hSw; go_simp; try (with_reducible rfl))
        try simp only [Act.put, List.setIfInBounds_toArray, List.set_cons_zero, List.set_cons_succ]
        refine wpAnyH_done (by kernel_rfl) ?_ _
        refine NoPanic.normal ?_
        go_wp2_with fail
        go_meet
        exact ⟨⟨_, _, rfl, rfl, (TbAt.made wd n).below ((Below.refl _ _).alloc (Nat.le_refl _) _) (by simp), TbAt.made2 _ _ n, by simp, hs0, Nat.le_trans hs0 (by simp)⟩, hS⟩
    case f5 =>
      refine step_make_row _ rfl (.tmp 13) (.tmp 13) 25 rfl 3 (.int .i64 0) 8 Try.underlying25 Try.infoInt8 rfl .i64 .i64 n (by kernel_rfl) (by kernel_rfl) (by omega) (by omega) ?_
      refine hK.out _ _ (hS.alloc hS.size _) (fun hS => ?_)
      clear hK K
      try simp only [Act.put, List.setIfInBounds_toArray, List.set_cons_zero, List.set_cons_succ]
      refine wpAnyH_ready (rs := [2]) (by kernel_rfl) (by simp) ?_
      refine AllReadyH.cons rfl (fun K hK => ?_) AllReadyH.nil
      refine step_make_row _ rfl (.tmp 10) (.tmp 10) 25 rfl 3 (.int .i64 0) 8 Try.underlying25 Try.infoInt8 rfl .i64 .i64 n (by kernel_rfl) (by kernel_rfl) (by omega) (by omega) ?_
      refine hK.out _ _ (hS.alloc hS.size _) (fun hS => ?_)
      clear hK K
      try simp only [Act.put, List.setIfInBounds_toArray, List.set_cons_zero, List.set_cons_succ]
      refine wpAnyH_take (i := 6) (v := ?_) rfl (by kernel_rfl) (by kernel_rfl) (by kernel_rfl) (fun _ _ _ h => h) (Or.inl ⟨by kernel_rfl, ?hy⟩) (by assumption) ?_
      case hy => (intro w hSw; go_simp; try (with_reducible rfl))
      try simp only [Act.put, List.setIfInBounds_toArray, List.set_cons_zero, List.set_cons_succ]
      refine wpAnyH_take (i := 7) (v := ?_) rfl (by kernel_rfl) (by kernel_rfl) (by kernel_rfl) (fun _ _ _ h => h) (Or.inl ⟨by kernel_rfl, ?hy⟩) (by assumption) ?_
      case hy => (intro w hSw; go_simp; try (with_reducible rfl))
      try simp only [Act.put, List.setIfInBounds_toArray, List.set_cons_zero, List.set_cons_succ]
      refine wpAnyH_done (by kernel_rfl) ?_ _
      refine NoPanic.normal ?_
      go_wp2_with fail
      go_meet
      exact ⟨⟨_, _, rfl, rfl, TbAt.made2 _ _ n, (TbAt.made wd n).below ((Below.refl _ _).alloc (Nat.le_refl _) _) (by simp), by simp, Nat.le_trans hs0 (by simp), hs0⟩, hS⟩
  case rest =>
    obtain ⟨⟨g, h, rfl, rfl, tg, th, hgh, hwg, hwh⟩, bc⟩ := hcut
    have hX := T1.lt
    have hbw := b1.trans (bc.mono b1.size)
    have T1 := T1.below bc T1.lt
    have i1n : 1 ≤ n := by have := HNE.out; omega
    have hXg : w.heap.size < g := Nat.lt_of_lt_of_le hX hwg
    have hXh : w.heap.size < h := Nat.lt_of_lt_of_le hX hwh
    obtain ⟨X, hXe⟩ : ∃ X, w.heap.size = X := ⟨_, rfl⟩
    have HX := Lib.hid hXe
    rw [hXe] at T1 hXg hXh hbw
    simp only [hXe]
    clear b1 bc hwg hwh hX hXe
    go_wp2_with fail
    go_loopw [7] (fun v7 wr => ∃ d : Nat, d ≤ e ∧ v7 = .int .i64 ((d : Int) - 1) ∧ TbAt wr g n (tabN rs p q e (e - d)).1 ∧ TbAt wr h n (tabN rs p q e (e - d)).2 ∧ Two wr X p q ∧ Below X w wr) (fun v7 _ => (intOf v7 + 1).toNat)
    case atStart =>
      refine ⟨e, Nat.le_refl _, ?_, by rw [Nat.sub_self]; exact tg, by rw [Nat.sub_self]; exact th, T1, hbw⟩
      rw [show (n : Int) - 2 = (e : Int) - 1 by have := HNE.out; omega]
    case round =>
      clear tg th T1 hbw
      obtain ⟨d, hd, rfl, tg, th, T1, hbr⟩ := hrel
      cases d with
      | zero =>
        have z0 : ((0 : Nat) : Int) - 1 = -1 := rfl
        rw [z0]
        rw [Nat.sub_zero] at tg
        clear z0
        go_wp2_with fail
        go_ret
        exact ⟨⟨g, rfl, tg, by have := HX.out; omega⟩, by rw [HX.out]; exact hbr⟩
      | succ i =>
        have z0 : ((i + 1 : Nat) : Int) - 1 = (i : Int) := by omega
        rw [z0]
        have HBS : Hid (scanN (tabN rs p q e (e - (i + 1))).2 rs p q i (n - (i + 2)) (i + 2) (i + 1) = bestN rs p q e i) := Lib.hid (by rw [HNE.out]; rfl)
        have HNX := Lib.hid (tabN_step rs p q e i (by omega))
        have HTK := Lib.hid (HTO.out (i + 1) hd)
        obtain ⟨hb1, hb2, -⟩ := HBO.out i (by omega)
        obtain ⟨B, hB⟩ : ∃ B, bestN rs p q e i = B := ⟨_, rfl⟩
        obtain ⟨t, ht⟩ : ∃ t, tabN rs p q e (e - (i + 1)) = t := ⟨_, rfl⟩
        rw [hB] at HBS HNX hb1 hb2
        rw [ht] at HBS HNX HTK tg th
        clear hB ht z0
        have hi : i < n := by have := HNE.out; omega
        have i1 : (i : Int) < (n : Int) := by omega
        have s1 := tg.c i hi
        have s2 := tg.f i
        have wi1 : IntKind.i64.wrap ((i : Int) + 1) = (i : Int) + 1 := IntWalk.i64_in _ ⟨by omega, by omega⟩
        have wi2 : IntKind.i64.wrap ((i : Int) + 2) = (i : Int) + 2 := IntWalk.i64_in _ ⟨by omega, by omega⟩
        go_wp2_with fail
        go_loopw [8] (fun v8 wx => ∃ k c : Nat, i + 2 ≤ k ∧ k ≤ n ∧ v8 = .int .i64 (k : Int) ∧ TbAt wx g n (updN t.1 i c) ∧ TbAt wx h n t.2 ∧ Two wx X p q ∧ Below X w wx ∧ Hid (scanN t.2 rs p q i (n - k) k c = B) ∧ i < c ∧ c ≤ e) (fun v8 _ => n - (intOf v8).toNat)
        case atStart => exact ⟨i + 2, i + 1, Nat.le_refl _, by have := HNE.out; omega, by go_num, tg.set i (i + 1) _ hi (by omega), th.other (Ne.symm hgh), T1.other (by omega), hbr.setCell (p := ⟨g, i, none⟩) (by show X ≤ g; omega) _, HBS, by omega, by omega⟩
        case round =>
          clear tg th T1 hbr s1 s2 HBS
          obtain ⟨k, c, hk1, hk2, rfl, tg, th, T1, hbr, HBS, hic, hce⟩ := hrel
          have hcn : c < n := by have := HNE.out; omega
          have GC : Hid (∀ j, j < n → ∃ r, rs.getD j rung0 = r ∧ wr.cell? ⟨b, off + j * 4, none⟩ = some (.string r.nm) ∧ wr.cell? ⟨b, off + j * 4 + 1, none⟩ = some (.int .i64 r.ra) ∧ wr.cell? ⟨b, off + j * 4 + 2, none⟩ = some (.int .i64 r.he) ∧ wr.cell? ⟨b, off + j * 4 + 3, none⟩ = some (.int .i64 r.qu)) := Lib.hid (fun j hj => by
            obtain ⟨c0, c1, c2, c3⟩ := (HRS.out.below hbr (by have := HX.out; omega)).cells j (by rw [HZ.out]; exact hj)
            exact ⟨_, rfl, c0, c1, c2, c3⟩)
          have hbz : b < wr.heap.size := Nat.lt_of_lt_of_le hlt hbr.size
          have hll : t.2 c ≤ e := by have := HTK.out.lle c; omega
          obtain ⟨R, hR⟩ : ∃ R : Bool, (decide (k < n) && !gapB (rs.getD i rung0) (rs.getD k rung0) p q) = R := ⟨_, rfl⟩
          have HR := Lib.hid hR
          clear hR
          go_upto_region 7 with fail
          go_cut [45] (fun s45 wy => s45 = .bool R ∧ Below wr.heap.size wr wy)
          case first =>
            by_cases hk : k < n
            · obtain ⟨a, ha, c0, c1, c2, c3⟩ := GC.out i hi
              obtain ⟨r, hr, f0, f1, f2, f3⟩ := GC.out k hk
              have HG : Hid (∀ W', Calls Try.prog 55 #[.agg #[.string a.nm, .int .i64 a.ra, .int .i64 a.he, .int .i64 a.qu], .agg #[.string r.nm, .int .i64 r.ra, .int .i64 r.he, .int .i64 r.qu], .agg #[.int .i64 p, .int .i64 q]] W' fun e w' => e = .returned (.bool (!R)) ∧ Below W'.heap.size W' w') := Lib.hid (fun W' => by
                have hg := isGap_any a r p q W' (by rw [← ha]; exact HST.out.ok.ok i (by rw [HZ.out]; exact hi)) (by rw [← hr]; exact HST.out.ok.ok k (by rw [HZ.out]; exact hk)) HST.out.hp HST.out.hq
                have e1 : gapB a r p q = !R := by rw [← HR.out, decide_eq_true hk, ha, hr]; simp
                rw [e1] at hg
                exact hg)
              have kI : (k : Int) < (n : Int) := by omega
              have kD : decide ((k : Int) < (n : Int)) = true := decide_eq_true kI
              have k0 := T1.c0; have k1 := T1.c1; have kl := T1.lt
              clear T1 tg th ha hr
              refine wp_region_noPanic ?_
              refine wp_region_held_drew (S := fun w' => Below wr.heap.size wr w') (by kernel_rfl) ?hS0 (fun hHeld => ?_)
              case hS0 => exact (Below.refl _ wr).drew
              have hS : Below wr.heap.size wr wr.drew := (Below.refl _ wr).drew
              clear hHeld
              generalize wr.drew = wd at *
              refine wpAnyH_take (i := 0) (v := ?_) rfl (by kernel_rfl) (by kernel_rfl) (by kernel_rfl) (fun _ _ _ h => h) (Or.inl ⟨by kernel_rfl, ?hy⟩) (by assumption) ?_
              case hy => (intro wq hSw; have q0 := (hSw.cell (p := ⟨X, 0, none⟩) kl).trans k0; have q1 := (hSw.cell (p := ⟨X, 1, none⟩) kl).trans k1; have u0 := (hSw.cell (p := ⟨b, off + i * 4, none⟩) hbz).trans c0; have u1 := (hSw.cell (p := ⟨b, off + i * 4 + 1, none⟩) hbz).trans c1; have u2 := (hSw.cell (p := ⟨b, off + i * 4 + 2, none⟩) hbz).trans c2; have u3 := (hSw.cell (p := ⟨b, off + i * 4 + 3, none⟩) hbz).trans c3; have v0 := (hSw.cell (p := ⟨b, off + k * 4, none⟩) hbz).trans f0; have v1 := (hSw.cell (p := ⟨b, off + k * 4 + 1, none⟩) hbz).trans f1; have v2 := (hSw.cell (p := ⟨b, off + k * 4 + 2, none⟩) hbz).trans f2; have v3 := (hSw.cell (p := ⟨b, off + k * 4 + 3, none⟩) hbz).trans f3; have s1 := Nat.lt_of_lt_of_le kl hSw.size; have s2 := Nat.lt_of_lt_of_le hbz hSw.size; go_simp; try (with_reducible rfl))
              try simp only [Act.put, List.setIfInBounds_toArray, List.set_cons_zero, List.set_cons_succ]
              refine wpAnyH_take (i := 1) (v := ?_) rfl (by kernel_rfl) (by kernel_rfl) (by kernel_rfl) (fun _ _ _ h => h) (Or.inl ⟨by kernel_rfl, ?hy⟩) (by assumption) ?_
              case hy => (intro wq hSw; have q0 := (hSw.cell (p := ⟨X, 0, none⟩) kl).trans k0; have q1 := (hSw.cell (p := ⟨X, 1, none⟩) kl).trans k1; have u0 := (hSw.cell (p := ⟨b, off + i * 4, none⟩) hbz).trans c0; have u1 := (hSw.cell (p := ⟨b, off + i * 4 + 1, none⟩) hbz).trans c1; have u2 := (hSw.cell (p := ⟨b, off + i * 4 + 2, none⟩) hbz).trans c2; have u3 := (hSw.cell (p := ⟨b, off + i * 4 + 3, none⟩) hbz).trans c3; have v0 := (hSw.cell (p := ⟨b, off + k * 4, none⟩) hbz).trans f0; have v1 := (hSw.cell (p := ⟨b, off + k * 4 + 1, none⟩) hbz).trans f1; have v2 := (hSw.cell (p := ⟨b, off + k * 4 + 2, none⟩) hbz).trans f2; have v3 := (hSw.cell (p := ⟨b, off + k * 4 + 3, none⟩) hbz).trans f3; have s1 := Nat.lt_of_lt_of_le kl hSw.size; have s2 := Nat.lt_of_lt_of_le hbz hSw.size; go_simp; try (with_reducible rfl))
              try simp only [Act.put, List.setIfInBounds_toArray, List.set_cons_zero, List.set_cons_succ]
              refine wpAnyH_take (i := 2) (v := ?_) rfl (by kernel_rfl) (by kernel_rfl) (by kernel_rfl) (fun _ _ _ h => h) (Or.inl ⟨by kernel_rfl, ?hy⟩) (by assumption) ?_
              case hy => (intro wq hSw; have q0 := (hSw.cell (p := ⟨X, 0, none⟩) kl).trans k0; have q1 := (hSw.cell (p := ⟨X, 1, none⟩) kl).trans k1; have u0 := (hSw.cell (p := ⟨b, off + i * 4, none⟩) hbz).trans c0; have u1 := (hSw.cell (p := ⟨b, off + i * 4 + 1, none⟩) hbz).trans c1; have u2 := (hSw.cell (p := ⟨b, off + i * 4 + 2, none⟩) hbz).trans c2; have u3 := (hSw.cell (p := ⟨b, off + i * 4 + 3, none⟩) hbz).trans c3; have v0 := (hSw.cell (p := ⟨b, off + k * 4, none⟩) hbz).trans f0; have v1 := (hSw.cell (p := ⟨b, off + k * 4 + 1, none⟩) hbz).trans f1; have v2 := (hSw.cell (p := ⟨b, off + k * 4 + 2, none⟩) hbz).trans f2; have v3 := (hSw.cell (p := ⟨b, off + k * 4 + 3, none⟩) hbz).trans f3; have s1 := Nat.lt_of_lt_of_le kl hSw.size; have s2 := Nat.lt_of_lt_of_le hbz hSw.size; go_simp; try (with_reducible rfl))
              try simp only [Act.put, List.setIfInBounds_toArray, List.set_cons_zero, List.set_cons_succ]
              refine wpAnyH_take (i := 3) (v := ?_) rfl (by kernel_rfl) (by kernel_rfl) (by kernel_rfl) (fun _ _ _ h => h) (Or.inl ⟨by kernel_rfl, ?hy⟩) (by assumption) ?_
              case hy => (intro wq hSw; have q0 := (hSw.cell (p := ⟨X, 0, none⟩) kl).trans k0; have q1 := (hSw.cell (p := ⟨X, 1, none⟩) kl).trans k1; have u0 := (hSw.cell (p := ⟨b, off + i * 4, none⟩) hbz).trans c0; have u1 := (hSw.cell (p := ⟨b, off + i * 4 + 1, none⟩) hbz).trans c1; have u2 := (hSw.cell (p := ⟨b, off + i * 4 + 2, none⟩) hbz).trans c2; have u3 := (hSw.cell (p := ⟨b, off + i * 4 + 3, none⟩) hbz).trans c3; have v0 := (hSw.cell (p := ⟨b, off + k * 4, none⟩) hbz).trans f0; have v1 := (hSw.cell (p := ⟨b, off + k * 4 + 1, none⟩) hbz).trans f1; have v2 := (hSw.cell (p := ⟨b, off + k * 4 + 2, none⟩) hbz).trans f2; have v3 := (hSw.cell (p := ⟨b, off + k * 4 + 3, none⟩) hbz).trans f3; have s1 := Nat.lt_of_lt_of_le kl hSw.size; have s2 := Nat.lt_of_lt_of_le hbz hSw.size; go_simp; try (with_reducible rfl))
              try simp only [Act.put, List.setIfInBounds_toArray, List.set_cons_zero, List.set_cons_succ]
              refine wpAnyH_take (i := 4) (v := ?_) rfl (by kernel_rfl) (by kernel_rfl) (by kernel_rfl) (fun _ _ _ h => h) (Or.inl ⟨by kernel_rfl, ?hy⟩) (by assumption) ?_
              case hy => (intro wq hSw; have q0 := (hSw.cell (p := ⟨X, 0, none⟩) kl).trans k0; have q1 := (hSw.cell (p := ⟨X, 1, none⟩) kl).trans k1; have u0 := (hSw.cell (p := ⟨b, off + i * 4, none⟩) hbz).trans c0; have u1 := (hSw.cell (p := ⟨b, off + i * 4 + 1, none⟩) hbz).trans c1; have u2 := (hSw.cell (p := ⟨b, off + i * 4 + 2, none⟩) hbz).trans c2; have u3 := (hSw.cell (p := ⟨b, off + i * 4 + 3, none⟩) hbz).trans c3; have v0 := (hSw.cell (p := ⟨b, off + k * 4, none⟩) hbz).trans f0; have v1 := (hSw.cell (p := ⟨b, off + k * 4 + 1, none⟩) hbz).trans f1; have v2 := (hSw.cell (p := ⟨b, off + k * 4 + 2, none⟩) hbz).trans f2; have v3 := (hSw.cell (p := ⟨b, off + k * 4 + 3, none⟩) hbz).trans f3; have s1 := Nat.lt_of_lt_of_le kl hSw.size; have s2 := Nat.lt_of_lt_of_le hbz hSw.size; go_simp; try (with_reducible rfl))
              try simp only [Act.put, List.setIfInBounds_toArray, List.set_cons_zero, List.set_cons_succ]
              refine wpAnyH_take (i := 5) (v := ?_) rfl (by kernel_rfl) (by kernel_rfl) (by kernel_rfl) (fun _ _ _ h => h) (Or.inl ⟨by kernel_rfl, ?hy⟩) (by assumption) ?_
              case hy => (intro wq hSw; have q0 := (hSw.cell (p := ⟨X, 0, none⟩) kl).trans k0; have q1 := (hSw.cell (p := ⟨X, 1, none⟩) kl).trans k1; have u0 := (hSw.cell (p := ⟨b, off + i * 4, none⟩) hbz).trans c0; have u1 := (hSw.cell (p := ⟨b, off + i * 4 + 1, none⟩) hbz).trans c1; have u2 := (hSw.cell (p := ⟨b, off + i * 4 + 2, none⟩) hbz).trans c2; have u3 := (hSw.cell (p := ⟨b, off + i * 4 + 3, none⟩) hbz).trans c3; have v0 := (hSw.cell (p := ⟨b, off + k * 4, none⟩) hbz).trans f0; have v1 := (hSw.cell (p := ⟨b, off + k * 4 + 1, none⟩) hbz).trans f1; have v2 := (hSw.cell (p := ⟨b, off + k * 4 + 2, none⟩) hbz).trans f2; have v3 := (hSw.cell (p := ⟨b, off + k * 4 + 3, none⟩) hbz).trans f3; have s1 := Nat.lt_of_lt_of_le kl hSw.size; have s2 := Nat.lt_of_lt_of_le hbz hSw.size; go_simp; try (with_reducible rfl))
              try simp only [Act.put, List.setIfInBounds_toArray, List.set_cons_zero, List.set_cons_succ]
              refine wpAnyH_take (i := 6) (v := ?_) rfl (by kernel_rfl) (by kernel_rfl) (by kernel_rfl) (fun _ _ _ h => h) (Or.inl ⟨by kernel_rfl, ?hy⟩) (by assumption) ?_
              case hy => (intro wq hSw; have q0 := (hSw.cell (p := ⟨X, 0, none⟩) kl).trans k0; have q1 := (hSw.cell (p := ⟨X, 1, none⟩) kl).trans k1; have u0 := (hSw.cell (p := ⟨b, off + i * 4, none⟩) hbz).trans c0; have u1 := (hSw.cell (p := ⟨b, off + i * 4 + 1, none⟩) hbz).trans c1; have u2 := (hSw.cell (p := ⟨b, off + i * 4 + 2, none⟩) hbz).trans c2; have u3 := (hSw.cell (p := ⟨b, off + i * 4 + 3, none⟩) hbz).trans c3; have v0 := (hSw.cell (p := ⟨b, off + k * 4, none⟩) hbz).trans f0; have v1 := (hSw.cell (p := ⟨b, off + k * 4 + 1, none⟩) hbz).trans f1; have v2 := (hSw.cell (p := ⟨b, off + k * 4 + 2, none⟩) hbz).trans f2; have v3 := (hSw.cell (p := ⟨b, off + k * 4 + 3, none⟩) hbz).trans f3; have s1 := Nat.lt_of_lt_of_le kl hSw.size; have s2 := Nat.lt_of_lt_of_le hbz hSw.size; go_simp; try (with_reducible rfl))
              try simp only [Act.put, List.setIfInBounds_toArray, List.set_cons_zero, List.set_cons_succ]
              refine wpAnyH_take (i := 7) (v := ?_) rfl (by kernel_rfl) (by kernel_rfl) (by kernel_rfl) (fun _ _ _ h => h) (Or.inl ⟨by kernel_rfl, ?hy⟩) (by assumption) ?_
              case hy => (intro wq hSw; have q0 := (hSw.cell (p := ⟨X, 0, none⟩) kl).trans k0; have q1 := (hSw.cell (p := ⟨X, 1, none⟩) kl).trans k1; have u0 := (hSw.cell (p := ⟨b, off + i * 4, none⟩) hbz).trans c0; have u1 := (hSw.cell (p := ⟨b, off + i * 4 + 1, none⟩) hbz).trans c1; have u2 := (hSw.cell (p := ⟨b, off + i * 4 + 2, none⟩) hbz).trans c2; have u3 := (hSw.cell (p := ⟨b, off + i * 4 + 3, none⟩) hbz).trans c3; have v0 := (hSw.cell (p := ⟨b, off + k * 4, none⟩) hbz).trans f0; have v1 := (hSw.cell (p := ⟨b, off + k * 4 + 1, none⟩) hbz).trans f1; have v2 := (hSw.cell (p := ⟨b, off + k * 4 + 2, none⟩) hbz).trans f2; have v3 := (hSw.cell (p := ⟨b, off + k * 4 + 3, none⟩) hbz).trans f3; have s1 := Nat.lt_of_lt_of_le kl hSw.size; have s2 := Nat.lt_of_lt_of_le hbz hSw.size; go_simp; try (with_reducible rfl))
              try simp only [Act.put, List.setIfInBounds_toArray, List.set_cons_zero, List.set_cons_succ]
              refine wpAnyH_take (i := 8) (v := ?_) rfl (by kernel_rfl) (by kernel_rfl) (by kernel_rfl) (fun _ _ _ h => h) (Or.inl ⟨by kernel_rfl, ?hy⟩) (by assumption) ?_
              case hy => (intro wq hSw; have q0 := (hSw.cell (p := ⟨X, 0, none⟩) kl).trans k0; have q1 := (hSw.cell (p := ⟨X, 1, none⟩) kl).trans k1; have u0 := (hSw.cell (p := ⟨b, off + i * 4, none⟩) hbz).trans c0; have u1 := (hSw.cell (p := ⟨b, off + i * 4 + 1, none⟩) hbz).trans c1; have u2 := (hSw.cell (p := ⟨b, off + i * 4 + 2, none⟩) hbz).trans c2; have u3 := (hSw.cell (p := ⟨b, off + i * 4 + 3, none⟩) hbz).trans c3; have v0 := (hSw.cell (p := ⟨b, off + k * 4, none⟩) hbz).trans f0; have v1 := (hSw.cell (p := ⟨b, off + k * 4 + 1, none⟩) hbz).trans f1; have v2 := (hSw.cell (p := ⟨b, off + k * 4 + 2, none⟩) hbz).trans f2; have v3 := (hSw.cell (p := ⟨b, off + k * 4 + 3, none⟩) hbz).trans f3; have s1 := Nat.lt_of_lt_of_le kl hSw.size; have s2 := Nat.lt_of_lt_of_le hbz hSw.size; go_simp; try (with_reducible rfl))
              try simp only [Act.put, List.setIfInBounds_toArray, List.set_cons_zero, List.set_cons_succ]
              refine wpAnyH_take (i := 9) (v := ?_) rfl (by kernel_rfl) (by kernel_rfl) (by kernel_rfl) (fun _ _ _ h => h) (Or.inl ⟨by kernel_rfl, ?hy⟩) (by assumption) ?_
              case hy => (intro wq hSw; have q0 := (hSw.cell (p := ⟨X, 0, none⟩) kl).trans k0; have q1 := (hSw.cell (p := ⟨X, 1, none⟩) kl).trans k1; have u0 := (hSw.cell (p := ⟨b, off + i * 4, none⟩) hbz).trans c0; have u1 := (hSw.cell (p := ⟨b, off + i * 4 + 1, none⟩) hbz).trans c1; have u2 := (hSw.cell (p := ⟨b, off + i * 4 + 2, none⟩) hbz).trans c2; have u3 := (hSw.cell (p := ⟨b, off + i * 4 + 3, none⟩) hbz).trans c3; have v0 := (hSw.cell (p := ⟨b, off + k * 4, none⟩) hbz).trans f0; have v1 := (hSw.cell (p := ⟨b, off + k * 4 + 1, none⟩) hbz).trans f1; have v2 := (hSw.cell (p := ⟨b, off + k * 4 + 2, none⟩) hbz).trans f2; have v3 := (hSw.cell (p := ⟨b, off + k * 4 + 3, none⟩) hbz).trans f3; have s1 := Nat.lt_of_lt_of_le kl hSw.size; have s2 := Nat.lt_of_lt_of_le hbz hSw.size; go_simp; try (with_reducible rfl))
              try simp only [Act.put, List.setIfInBounds_toArray, List.set_cons_zero, List.set_cons_succ]
              refine wpAnyH_take (i := 10) (v := ?_) rfl (by kernel_rfl) (by kernel_rfl) (by kernel_rfl) (fun _ _ _ h => h) (Or.inl ⟨by kernel_rfl, ?hy⟩) (by assumption) ?_
              case hy => (intro wq hSw; have q0 := (hSw.cell (p := ⟨X, 0, none⟩) kl).trans k0; have q1 := (hSw.cell (p := ⟨X, 1, none⟩) kl).trans k1; have u0 := (hSw.cell (p := ⟨b, off + i * 4, none⟩) hbz).trans c0; have u1 := (hSw.cell (p := ⟨b, off + i * 4 + 1, none⟩) hbz).trans c1; have u2 := (hSw.cell (p := ⟨b, off + i * 4 + 2, none⟩) hbz).trans c2; have u3 := (hSw.cell (p := ⟨b, off + i * 4 + 3, none⟩) hbz).trans c3; have v0 := (hSw.cell (p := ⟨b, off + k * 4, none⟩) hbz).trans f0; have v1 := (hSw.cell (p := ⟨b, off + k * 4 + 1, none⟩) hbz).trans f1; have v2 := (hSw.cell (p := ⟨b, off + k * 4 + 2, none⟩) hbz).trans f2; have v3 := (hSw.cell (p := ⟨b, off + k * 4 + 3, none⟩) hbz).trans f3; have s1 := Nat.lt_of_lt_of_le kl hSw.size; have s2 := Nat.lt_of_lt_of_le hbz hSw.size; go_simp; try (with_reducible rfl))
              try simp only [Act.put, List.setIfInBounds_toArray, List.set_cons_zero, List.set_cons_succ]
              refine wpAnyH_take (i := 11) (v := ?_) rfl (by kernel_rfl) (by kernel_rfl) (by kernel_rfl) (fun _ _ _ h => h) (Or.inl ⟨by kernel_rfl, ?hy⟩) (by assumption) ?_
              case hy => (intro wq hSw; have q0 := (hSw.cell (p := ⟨X, 0, none⟩) kl).trans k0; have q1 := (hSw.cell (p := ⟨X, 1, none⟩) kl).trans k1; have u0 := (hSw.cell (p := ⟨b, off + i * 4, none⟩) hbz).trans c0; have u1 := (hSw.cell (p := ⟨b, off + i * 4 + 1, none⟩) hbz).trans c1; have u2 := (hSw.cell (p := ⟨b, off + i * 4 + 2, none⟩) hbz).trans c2; have u3 := (hSw.cell (p := ⟨b, off + i * 4 + 3, none⟩) hbz).trans c3; have v0 := (hSw.cell (p := ⟨b, off + k * 4, none⟩) hbz).trans f0; have v1 := (hSw.cell (p := ⟨b, off + k * 4 + 1, none⟩) hbz).trans f1; have v2 := (hSw.cell (p := ⟨b, off + k * 4 + 2, none⟩) hbz).trans f2; have v3 := (hSw.cell (p := ⟨b, off + k * 4 + 3, none⟩) hbz).trans f3; have s1 := Nat.lt_of_lt_of_le kl hSw.size; have s2 := Nat.lt_of_lt_of_le hbz hSw.size; go_simp; try (with_reducible rfl))
              try simp only [Act.put, List.setIfInBounds_toArray, List.set_cons_zero, List.set_cons_succ]
              refine wpAnyH_take (i := 12) (v := ?_) rfl (by kernel_rfl) (by kernel_rfl) (by kernel_rfl) (fun _ _ _ h => h) (Or.inl ⟨by kernel_rfl, ?hy⟩) (by assumption) ?_
              case hy => (intro wq hSw; have q0 := (hSw.cell (p := ⟨X, 0, none⟩) kl).trans k0; have q1 := (hSw.cell (p := ⟨X, 1, none⟩) kl).trans k1; have u0 := (hSw.cell (p := ⟨b, off + i * 4, none⟩) hbz).trans c0; have u1 := (hSw.cell (p := ⟨b, off + i * 4 + 1, none⟩) hbz).trans c1; have u2 := (hSw.cell (p := ⟨b, off + i * 4 + 2, none⟩) hbz).trans c2; have u3 := (hSw.cell (p := ⟨b, off + i * 4 + 3, none⟩) hbz).trans c3; have v0 := (hSw.cell (p := ⟨b, off + k * 4, none⟩) hbz).trans f0; have v1 := (hSw.cell (p := ⟨b, off + k * 4 + 1, none⟩) hbz).trans f1; have v2 := (hSw.cell (p := ⟨b, off + k * 4 + 2, none⟩) hbz).trans f2; have v3 := (hSw.cell (p := ⟨b, off + k * 4 + 3, none⟩) hbz).trans f3; have s1 := Nat.lt_of_lt_of_le kl hSw.size; have s2 := Nat.lt_of_lt_of_le hbz hSw.size; go_simp; try (with_reducible rfl))
              try simp only [Act.put, List.setIfInBounds_toArray, List.set_cons_zero, List.set_cons_succ]
              refine wpAnyH_take (i := 13) (v := ?_) rfl (by kernel_rfl) (by kernel_rfl) (by kernel_rfl) (fun _ _ _ h => h) (Or.inl ⟨by kernel_rfl, ?hy⟩) (by assumption) ?_
              case hy => (intro wq hSw; have q0 := (hSw.cell (p := ⟨X, 0, none⟩) kl).trans k0; have q1 := (hSw.cell (p := ⟨X, 1, none⟩) kl).trans k1; have u0 := (hSw.cell (p := ⟨b, off + i * 4, none⟩) hbz).trans c0; have u1 := (hSw.cell (p := ⟨b, off + i * 4 + 1, none⟩) hbz).trans c1; have u2 := (hSw.cell (p := ⟨b, off + i * 4 + 2, none⟩) hbz).trans c2; have u3 := (hSw.cell (p := ⟨b, off + i * 4 + 3, none⟩) hbz).trans c3; have v0 := (hSw.cell (p := ⟨b, off + k * 4, none⟩) hbz).trans f0; have v1 := (hSw.cell (p := ⟨b, off + k * 4 + 1, none⟩) hbz).trans f1; have v2 := (hSw.cell (p := ⟨b, off + k * 4 + 2, none⟩) hbz).trans f2; have v3 := (hSw.cell (p := ⟨b, off + k * 4 + 3, none⟩) hbz).trans f3; have s1 := Nat.lt_of_lt_of_le kl hSw.size; have s2 := Nat.lt_of_lt_of_le hbz hSw.size; go_simp; try (with_reducible rfl))
              try simp only [Act.put, List.setIfInBounds_toArray, List.set_cons_zero, List.set_cons_succ]
              refine wpAnyH_ready (rs := [14]) (by kernel_rfl) (by simp) ?_
              refine AllReadyH.cons rfl (fun K hK => ?_) AllReadyH.nil
              go_simp
              refine (HG.out _).mono ?_; rintro e w3 ⟨rfl, b3⟩; have hS : Below wr.heap.size wr w3 := hS.trans (b3.mono hS.size)
              refine hK.out _ _ hS (fun hHeld => ?_)
              clear hK K hHeld
              try simp only [Act.put, List.setIfInBounds_toArray, List.set_cons_zero, List.set_cons_succ]
              refine wpAnyH_take (i := 15) (v := ?_) rfl (by kernel_rfl) (by kernel_rfl) (by kernel_rfl) (fun _ _ _ h => h) (Or.inl ⟨by kernel_rfl, ?hy⟩) (by assumption) ?_
              case hy => (intro wq hSw; have q0 := (hSw.cell (p := ⟨X, 0, none⟩) kl).trans k0; have q1 := (hSw.cell (p := ⟨X, 1, none⟩) kl).trans k1; have u0 := (hSw.cell (p := ⟨b, off + i * 4, none⟩) hbz).trans c0; have u1 := (hSw.cell (p := ⟨b, off + i * 4 + 1, none⟩) hbz).trans c1; have u2 := (hSw.cell (p := ⟨b, off + i * 4 + 2, none⟩) hbz).trans c2; have u3 := (hSw.cell (p := ⟨b, off + i * 4 + 3, none⟩) hbz).trans c3; have v0 := (hSw.cell (p := ⟨b, off + k * 4, none⟩) hbz).trans f0; have v1 := (hSw.cell (p := ⟨b, off + k * 4 + 1, none⟩) hbz).trans f1; have v2 := (hSw.cell (p := ⟨b, off + k * 4 + 2, none⟩) hbz).trans f2; have v3 := (hSw.cell (p := ⟨b, off + k * 4 + 3, none⟩) hbz).trans f3; have s1 := Nat.lt_of_lt_of_le kl hSw.size; have s2 := Nat.lt_of_lt_of_le hbz hSw.size; go_simp; try (with_reducible rfl))
              try simp only [Act.put, List.setIfInBounds_toArray, List.set_cons_zero, List.set_cons_succ]
              refine wpAnyH_take (i := 16) (v := ?_) rfl (by kernel_rfl) (by kernel_rfl) (by kernel_rfl) (fun _ _ _ h => h) (Or.inl ⟨by kernel_rfl, ?hy⟩) (by assumption) ?_
              case hy => (intro wq hSw; have q0 := (hSw.cell (p := ⟨X, 0, none⟩) kl).trans k0; have q1 := (hSw.cell (p := ⟨X, 1, none⟩) kl).trans k1; have u0 := (hSw.cell (p := ⟨b, off + i * 4, none⟩) hbz).trans c0; have u1 := (hSw.cell (p := ⟨b, off + i * 4 + 1, none⟩) hbz).trans c1; have u2 := (hSw.cell (p := ⟨b, off + i * 4 + 2, none⟩) hbz).trans c2; have u3 := (hSw.cell (p := ⟨b, off + i * 4 + 3, none⟩) hbz).trans c3; have v0 := (hSw.cell (p := ⟨b, off + k * 4, none⟩) hbz).trans f0; have v1 := (hSw.cell (p := ⟨b, off + k * 4 + 1, none⟩) hbz).trans f1; have v2 := (hSw.cell (p := ⟨b, off + k * 4 + 2, none⟩) hbz).trans f2; have v3 := (hSw.cell (p := ⟨b, off + k * 4 + 3, none⟩) hbz).trans f3; have s1 := Nat.lt_of_lt_of_le kl hSw.size; have s2 := Nat.lt_of_lt_of_le hbz hSw.size; go_simp; try (with_reducible rfl))
              try simp only [Act.put, List.setIfInBounds_toArray, List.set_cons_zero, List.set_cons_succ]
              refine wpAnyH_done (by kernel_rfl) ?_ _
              refine NoPanic.normal ?_
              try go_simp
              go_wp2_with fail
              go_meet
              exact ⟨rfl, hS⟩
            · have hkn : k = n := by omega
              subst hkn
              have e1 : R = false := by rw [← HR.out, decide_eq_false hk]; rfl
              subst e1
              have kD : decide ((k : Int) < (k : Int)) = false := by simp
              go_quiet (fail)
              go_wp2_with fail
              go_meet
              exact ⟨rfl, below_drewN (Below.refl _ _) nq⟩
          case rest =>
            obtain ⟨rfl, by1⟩ := hcut
            have tg := tg.below by1 tg.lt
            have th := th.below by1 th.lt
            have T1 := T1.below by1 T1.lt
            have hbr := hbr.trans (by1.mono (by have := HX.out; have := hbr.size; omega))
            clear GC by1 hbz
            cases R
            · have hBc : B = c := by
                rw [← HBS.out]
                by_cases hk : k < n
                · have h5 := HR.out
                  rw [decide_eq_true hk] at h5
                  rw [scanN_at _ _ _ _ _ _ _ _ hk, if_pos (by simpa using h5)]
                · rw [show k = n by omega, scanN_end]
              subst hBc
              have s1 := tg.c i hi; unfold updN at s1; rw [if_pos rfl] at s1
              have s2 := th.c B hcn
              have s3 := th.c i hi
              have s4 := th.f i
              have i0' : (0 : Int) ≤ (B : Int) := by omega
              have i1' : (B : Int) < (n : Int) := by omega
              have wl : IntKind.i64.wrap ((t.2 B : Int) + 1) = (t.2 B : Int) + 1 := IntWalk.i64_in _ ⟨by omega, by omega⟩
              have HN1 : Hid ((tabN rs p q e (e - i)).1 = updN t.1 i B) := Lib.hid (by rw [HNX.out])
              have HN2 : Hid ((tabN rs p q e (e - i)).2 = updN t.2 i (t.2 B + 1)) := Lib.hid (by rw [HNX.out])
              go_wp2_with fail
              go_roundw
              case rel => exact ⟨i, by omega, by go_num, by rw [HN1.out]; exact tg.other hgh, by rw [HN2.out]; exact th.set i (t.2 B + 1) _ hi (by omega), T1.other (by omega), hbr.setCell (p := ⟨h, i, none⟩) (by show X ≤ h; omega) _⟩
              case measure => simp [intOf] <;> omega
            · have hk : k < n := by have := HR.out; simp at this; exact this.1
              have hgf : gapB (rs.getD i rung0) (rs.getD k rung0) p q = false := by have h5 := HR.out; rw [decide_eq_true hk] at h5; simpa using h5
              have HS1 : Hid (scanN t.2 rs p q i (n - (k + 1)) (k + 1) (if t.2 k < t.2 c then k else c) = B) := Lib.hid (by
                rw [← HBS.out, scanN_at _ _ _ _ _ _ _ _ hk, if_neg (show ¬ gapB (rs.getD i rung0) (rs.getD k rung0) p q = true by rw [hgf]; exact Bool.false_ne_true)])
              clear hgf
              have s1 := tg.c i hi; unfold updN at s1; rw [if_pos rfl] at s1
              have s2 := th.c c hcn
              have s3 := th.c k hk
              have s4 := tg.f i
              have kI : (k : Int) < (n : Int) := by omega
              have cI : (c : Int) < (n : Int) := by omega
              have wk1 : IntKind.i64.wrap ((k : Int) + 1) = (k : Int) + 1 := IntWalk.i64_in _ ⟨by omega, by omega⟩
              have hke : k ≤ e := by have := HNE.out; omega
              by_cases hlt2 : t.2 k < t.2 c
              · have hd2 : decide ((t.2 k : Int) < (t.2 c : Int)) = true := by simp; omega
                rw [if_pos hlt2] at HS1
                go_upto_region 9 with fail
                go_quiet (fail)
                go_wp2_with fail
                go_roundw
                case rel => exact ⟨k + 1, k, by omega, by omega, by go_num, by have := (tg.below (below_drewN (Below.refl _ _) nq) tg.lt).set i k _ hi rfl; rwa [updN_same] at this, (th.below (below_drewN (Below.refl _ _) nq) th.lt).other (Ne.symm hgh), (T1.drewN nq).other (by omega), (below_drewN hbr nq).setCell (p := ⟨g, i, none⟩) (by show X ≤ g; omega) _, HS1, by omega, by omega⟩
                case measure => simp [intOf] <;> omega
              · have hd2 : decide ((t.2 k : Int) < (t.2 c : Int)) = false := by simp; omega
                rw [if_neg hlt2] at HS1
                go_upto_region 9 with fail
                go_quiet (fail)
                go_wp2_with fail
                go_roundw
                case rel => exact ⟨k + 1, c, by omega, by omega, by go_num, tg.below (below_drewN (Below.refl _ _) nq) tg.lt, th.below (below_drewN (Below.refl _ _) nq) th.lt, T1.drewN nq, below_drewN hbr nq, HS1, by omega, by omega⟩
                case measure => simp [intOf] <;> omega

end Go.Proofs.Ytinckidkophobaa
