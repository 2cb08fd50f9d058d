/- Mixed (program). -/
import Derived.Test.YtfjgpafcdkodmaaMixPlain
import Derived.Test.YtfjgpafcdkodmaaPeak0
import Derived.Test.YtfjgpafcdkodmaaWorth
import Derived.Shelf.SlSorted.Search
namespace Go.Proofs.Ytfjgpafcdkodmaa
set_option linter.unusedVariables false
set_option linter.unusedSimpArgs false
open Go.RowKit Go.Shelf Go.Deep Go.Sort

def rsearchRen : Go.Shelf.Ren := ⟨fun | 16 => 71 | n => n, fun | 3 => 3 | 4 => 4 | 35 => 76 | 38 => 118 | n => n, fun | n => n⟩
theorem rsearchLays : Go.Proofs.SlLaysO.n16 Try.prog rsearchRen := {
  mixed := by kernel_rfl
  f16 := Try.func71.trans (congrArg some (by kernel_rfl))
  t3 := Try.underlying3
  a3 := Try.isAgg3
  z3 := Try.sizeOf3
  v3 := Try.zeroValue3
  t4 := Try.underlying4
  a4 := Try.isAgg4
  z4 := Try.sizeOf4
  v4 := Try.zeroValue4
  t35 := Try.underlying76
  a35 := Try.isAgg76
  z35 := Try.sizeOf76
  v35 := Try.zeroValue76
  t38 := Try.underlying118
  a38 := Try.isAgg118
  z38 := Try.sizeOf118
  v38 := Try.zeroValue118 }
theorem mgrow_none (w : World) : grow w #[] = w := by simp [grow]
set_option maxHeartbeats 1000000 in
/-- The closure of Mixed. -/
theorem dearer_any (b off n cap g o m cp : Nat) (rs : List Rung) (B1 B2 B3 : Nat) (q : Int) (i c : Nat) (w : World) (hi : i < m) (hc : c < n) (hm : m ≤ 100)
    (h1 : w.cell? ⟨B1, 0, none⟩ = some (.slice (some ⟨b, off, none⟩) n cap)) (h2 : w.cell? ⟨B2, 0, none⟩ = some (.slice (some ⟨g, o, none⟩) m cp)) (h3 : w.cell? ⟨B3, 0, none⟩ = some (.int .i64 q))
    (hg : w.cell? ⟨g, o + i, none⟩ = some (.int .i64 (c : Int))) (hr : w.cell? ⟨b, off + c * 4 + 1, none⟩ = some (.int .i64 (rs.getD c rung0).ra)) :
    Calls Try.prog 72 #[.int .i64 (i : Int), .pointer (some ⟨B1, 0, none⟩), .pointer (some ⟨B2, 0, none⟩), .pointer (some ⟨B3, 0, none⟩)] w fun e w' => e = .returned (.bool (decide (q < (rs.getD c rung0).ra))) ∧ ∃ k, w' = w.drewN k := by
  obtain ⟨x, hx⟩ : ∃ x, (rs.getD c rung0).ra = x := ⟨_, rfl⟩
  rw [hx] at hr ⊢
  have i0 : (0 : Int) ≤ (i : Int) := Int.natCast_nonneg _
  have i1 : (i : Int) < (m : Int) := by omega
  have i2 : (0 : Int) ≤ (c : Int) := Int.natCast_nonneg _
  have i3 : (c : Int) < (n : Int) := by omega
  clear hx
  go_enter Try.func72, Try.ntmps72
  go_wp2_with fail
  go_quiet (fail)
  go_wp2_with fail
  go_ret
  exact ⟨rfl, _, rfl⟩
theorem dearer_search (b off n cap g o m cp : Nat) (rs : List Rung) (B1 B2 B3 : Nat) (q : Int) (w : World) (hat : HullAt rs n m) (hm : m ≤ 100) (hb : b < w.heap.size) (hgs : g < w.heap.size) (hb1 : B1 < w.heap.size) (hb2 : B2 < w.heap.size) (hb3 : B3 < w.heap.size)
    (h1 : w.cell? ⟨B1, 0, none⟩ = some (.slice (some ⟨b, off, none⟩) n cap)) (h2 : w.cell? ⟨B2, 0, none⟩ = some (.slice (some ⟨g, o, none⟩) m cp)) (h3 : w.cell? ⟨B3, 0, none⟩ = some (.int .i64 q))
    (hg : ∀ i, i < m → w.cell? ⟨g, o + i, none⟩ = some (.int .i64 (hI rs i : Int))) (hr : ∀ c, c < n → w.cell? ⟨b, off + c * 4 + 1, none⟩ = some (.int .i64 (rs.getD c rung0).ra)) :
    Calls Try.prog 71 #[.int .i64 (m : Int), .func (.func 72) #[] #[.pointer (some ⟨B1, 0, none⟩), .pointer (some ⟨B2, 0, none⟩), .pointer (some ⟨B3, 0, none⟩)]] w fun e w' => e = .returned (.int .i64 (ntH rs m q : Nat)) ∧ Below w.heap.size w w' := by
  refine (Go.Proofs.Any.sort_Search rsearchLays 72 #[.pointer (some ⟨B1, 0, none⟩), .pointer (some ⟨B2, 0, none⟩), .pointer (some ⟨B3, 0, none⟩)] m (fun i => decide (q < (rs.getD (hI rs i) rung0).ra)) w (enters_of Try.func72 (by kernel_rfl) rfl) (by omega) ?_ ?_).mono ?_
  · intro mm os i hi
    have hc := hat.lt i hi
    refine (dearer_any b off n cap g o m cp rs B1 B2 B3 q i (hI rs i) _ hi hc hm (cell_grown hb1 h1 mm os) (cell_grown hb2 h2 mm os) (cell_grown hb3 h3 mm os) (cell_grown hgs (hg i hi) mm os) (cell_grown hb (hr _ hc) mm os)).mono ?_
    rintro e w' ⟨rfl, k, rfl⟩
    exact ⟨rfl, k, #[], by rw [mgrow_none]⟩
  · intro a c hac hcn hp
    have h5 := of_decide_eq_true hp
    have h6 := hull_mono hat a c hac hcn
    exact decide_eq_true (by omega)
  · rintro e w' ⟨rfl, k, os, rfl⟩
    refine ⟨rfl, ⟨rfl, rfl, rfl, by simp [grow], fun j hj => ?_⟩⟩
    exact heap_grow_old (w.drewN k) os hj
def mxF (rs : List Rung) (q : Int) : Int := fstF [rgF rs, fIf (!inB q 0 1000000000) 1]
/-- What Mixed keeps: its arguments in blocks, its result's block. -/
structure Mx (w W : World) (u : Value) (q : Int) : Prop where
  b2 : W.cell? ⟨w.heap.size, 0, none⟩ = some u
  b3 : W.cell? ⟨w.heap.size + 1, 0, none⟩ = some (.int .i64 q)
  tw : Two W (w.heap.size + 2) 0 0
  bel : Below w.heap.size w W
theorem Mx.below {w W W' : World} {u : Value} {q : Int} (h : Mx w W u q) (hb : Below W.heap.size W W') : Mx w W' u q :=
  have hl := h.tw.lt
  ⟨by rw [hb.cell (p := ⟨w.heap.size, 0, none⟩) (by show w.heap.size < _; omega)]; exact h.b2, by rw [hb.cell (p := ⟨w.heap.size + 1, 0, none⟩) (by show w.heap.size + 1 < _; omega)]; exact h.b3, h.tw.below hb h.tw.lt, h.bel.trans (hb.mono h.bel.size)⟩
theorem Mx.start (w : World) (a : Option Addr) (n cap : Nat) (q : Int) : Mx w (((w.alloc (.cells #[.slice a n cap] 22)).alloc (.cells #[.int .i64 q] 3)).alloc (.cells #[.int .i64 0, .int .i64 0] 49)) (.slice a n cap) q := by
  have b1 : Below w.heap.size w (w.alloc (.cells #[.slice a n cap] 22)) := (Below.refl _ w).alloc (Nat.le_refl _) _
  have c1 : (w.alloc (.cells #[.slice a n cap] 22)).cell? ⟨w.heap.size, 0, none⟩ = some (.slice a n cap) := by rw [World.cell?_alloc_at _ _ _ _ (by simp)]; rfl
  have s1 : (w.alloc (.cells #[.slice a n cap] 22)).heap.size = w.heap.size + 1 := by simp
  generalize w.alloc (.cells #[.slice a n cap] 22) = A at *
  have b2 : Below A.heap.size A (A.alloc (.cells #[.int .i64 q] 3)) := (Below.refl _ A).alloc (Nat.le_refl _) _
  have c2 : (A.alloc (.cells #[.int .i64 q] 3)).cell? ⟨A.heap.size, 0, none⟩ = some (.int .i64 q) := by rw [World.cell?_alloc_at _ _ _ _ (by simp)]; rfl
  have s2 : (A.alloc (.cells #[.int .i64 q] 3)).heap.size = A.heap.size + 1 := by simp
  have c1' : (A.alloc (.cells #[.int .i64 q] 3)).cell? ⟨w.heap.size, 0, none⟩ = some (.slice a n cap) := by rw [b2.cell (p := ⟨w.heap.size, 0, none⟩) (by show w.heap.size < _; omega)]; exact c1
  generalize A.alloc (.cells #[.int .i64 q] 3) = C at *
  have b3 : Below C.heap.size C (C.alloc (.cells #[.int .i64 0, .int .i64 0] 49)) := (Below.refl _ C).alloc (Nat.le_refl _) _
  have t3 := Two.new C 0 0 49
  rw [s1] at c2 s2
  refine ⟨?_, ?_, ?_, ?_⟩
  · rw [b3.cell (p := ⟨w.heap.size, 0, none⟩) (by show w.heap.size < _; omega)]; exact c1'
  · rw [b3.cell (p := ⟨w.heap.size + 1, 0, none⟩) (by show w.heap.size + 1 < _; omega)]; exact c2
  · rw [show w.heap.size + 2 = C.heap.size by omega]; exact t3
  · exact (b1.trans (b2.mono (by omega))).trans (b3.mono (by omega))
set_option maxRecDepth 100000 in
set_option maxHeartbeats 8000000 in
theorem mixed_fault (a : Option Addr) (n cap : Nat) (rs : List Rung) (q : Int) (w : World) (hS : Rungs w (.slice a n cap) rs) (hwf : ∀ y ∈ rs, y.nm.size ≤ maxLen) (h0 : mxF rs q ≠ 0) :
    Calls Try.prog 32 #[.slice a n cap, .int .i64 q] w fun e w' => e = .returned (.tuple #[.agg #[.int .i64 0, .int .i64 0], .bool false, .int .i64 (mxF rs q)]) ∧ Below w.heap.size w w' := by
  have hM0 := Mx.start w a n cap q
  have HC : Hid (∀ W, Below w.heap.size w W → Calls Try.prog 25 #[.slice a n cap] W fun e w' => e = .returned (.int .i64 (rgF rs)) ∧ Below W.heap.size W w') := Lib.hid (fun W hb => chkr_any _ rs W (hS.below hb (Nat.le_refl _)) hwf)
  have HF : Hid (fstF [rgF rs, fIf (!inB q 0 1000000000) 1] = mxF rs q) := Lib.hid rfl
  obtain ⟨F, hF⟩ : ∃ F, mxF rs q = F := ⟨_, rfl⟩
  obtain ⟨G, hG⟩ : ∃ G, rgF rs = G := ⟨_, rfl⟩
  rw [hF] at HF h0 ⊢
  rw [hG] at HC HF
  have hne : (F == 0) = false := by simp; exact h0
  have hne2 : (F != 0) = true := by simp; exact h0
  clear hF hG hS hwf h0
  go_enter Try.func32, Try.ntmps32
  go_upto_region 1 with fail
  generalize ((w.alloc (.cells #[.slice a n cap] 22)).alloc (.cells #[.int .i64 q] 3)).alloc (.cells #[.int .i64 0, .int .i64 0] 49) = W at *
  go_cut [7] (fun s7 wx => s7 = .int .i64 F ∧ Mx w wx (.slice a n cap) q)
  case first =>
    have hM := hM0
    have k2 := hM.b2; have k3 := hM.b3
    have hl := hM.tw.lt
    have l2 : w.heap.size < W.heap.size := by omega
    have l3 : w.heap.size + 1 < W.heap.size := by omega
    clear hM0 hl
    refine wp_region_noPanic ?_
    refine wp_region_held_drew (S := fun w' => Below W.heap.size W w') (by kernel_rfl) ?hS0 (fun hHeld => ?_)
    case hS0 => exact (Below.refl _ W).drew
    have hS : Below W.heap.size W W.drew := (Below.refl _ W).drew
    clear hHeld
    generalize W.drew = wd at *
    refine wpAnyH_take (i := 0) (v := ?_) rfl (by kernel_rfl) (by kernel_rfl) (by kernel_rfl) (fun _ _ _ h => h) (Or.inl ⟨by kernel_rfl, ?hy⟩) (by assumption) ?_
    case hy => (intro wq hSw; have q2 := (hSw.cell (p := ⟨w.heap.size, 0, none⟩) l2).trans k2; have q3 := (hSw.cell (p := ⟨w.heap.size + 1, 0, none⟩) l3).trans k3; go_simp; try (with_reducible rfl))
    try simp only [Act.put, List.setIfInBounds_toArray, List.set_cons_zero, List.set_cons_succ]
    refine wpAnyH_take (i := 2) (v := ?_) rfl (by kernel_rfl) (by kernel_rfl) (by kernel_rfl) (fun _ _ _ h => h) (Or.inl ⟨by kernel_rfl, ?hy⟩) (by assumption) ?_
    case hy => (intro wq hSw; have q2 := (hSw.cell (p := ⟨w.heap.size, 0, none⟩) l2).trans k2; have q3 := (hSw.cell (p := ⟨w.heap.size + 1, 0, none⟩) l3).trans k3; go_simp; try (with_reducible rfl))
    try simp only [Act.put, List.setIfInBounds_toArray, List.set_cons_zero, List.set_cons_succ]
    refine wpAnyH_ready (rs := [1]) (by kernel_rfl) (by simp) ?_
    refine AllReadyH.cons rfl (fun K hK => ?_) AllReadyH.nil
    go_simp
    refine (HC.out _ (hM.bel.trans (hS.mono hM.bel.size))).mono ?_; rintro e w3 ⟨rfl, b3⟩; have hS : Below W.heap.size W w3 := hS.trans (b3.mono hS.size)
    refine hK.out _ _ hS (fun hHeld => ?_)
    clear hK K hHeld
    try simp only [Act.put, List.setIfInBounds_toArray, List.set_cons_zero, List.set_cons_succ]
    refine wpAnyH_ready (rs := [3]) (by kernel_rfl) (by simp) ?_
    refine AllReadyH.cons rfl (fun K hK => ?_) AllReadyH.nil
    go_simp
    refine (rate0_any _ _).mono ?_; rintro e w' ⟨rfl, rfl⟩
    refine hK.out _ _ hS (fun hHeld => ?_)
    clear hK K hHeld
    try simp only [Act.put, List.setIfInBounds_toArray, List.set_cons_zero, List.set_cons_succ]
    refine wpAnyH_take (i := 4) (v := ?_) rfl (by kernel_rfl) (by kernel_rfl) (by kernel_rfl) (fun _ _ _ h => h) (Or.inl ⟨by kernel_rfl, ?hy⟩) (by assumption) ?_
    case hy => (intro wq hSw; have q2 := (hSw.cell (p := ⟨w.heap.size, 0, none⟩) l2).trans k2; have q3 := (hSw.cell (p := ⟨w.heap.size + 1, 0, none⟩) l3).trans k3; go_simp; try (with_reducible rfl))
    try simp only [Act.put, List.setIfInBounds_toArray, List.set_cons_zero, List.set_cons_succ]
    refine wpAnyH_ready (rs := [5]) (by kernel_rfl) (by simp) ?_
    refine AllReadyH.cons rfl (fun K hK => ?_) AllReadyH.nil
    go_simp
    refine (bfaultIf_any _ _ _).mono ?_; rintro e w' ⟨rfl, rfl⟩
    refine hK.out _ _ hS (fun hHeld => ?_)
    clear hK K hHeld
    try simp only [Act.put, List.setIfInBounds_toArray, List.set_cons_zero, List.set_cons_succ]
    refine wpAnyH_ready (rs := [6]) (by kernel_rfl) (by simp) ?_
    refine AllReadyH.cons rfl (fun K hK => ?_) AllReadyH.nil
    go_simp
    have hS : Below W.heap.size W (w3.alloc (.cells #[.int .i64 G, .int .i64 (fIf (!inB q 0 1000000000) 1)] 26)) := hS.alloc hS.size _
    refine hK.out _ _ hS (fun hHeld => ?_)
    clear hK K hHeld
    try simp only [Act.put, List.setIfInBounds_toArray, List.set_cons_zero, List.set_cons_succ]
    refine wpAnyH_ready (rs := [7]) (by kernel_rfl) (by simp) ?_
    refine AllReadyH.cons rfl (fun K hK => ?_) AllReadyH.nil
    go_simp
    refine (bfirst2 _ _ _).mono ?_; rintro e w' ⟨rfl, rfl⟩; rw [HF.out]
    refine hK.out _ _ hS (fun hHeld => ?_)
    clear hK K hHeld
    try simp only [Act.put, List.setIfInBounds_toArray, List.set_cons_zero, List.set_cons_succ]
    refine wpAnyH_take (i := 8) (v := ?_) rfl (by kernel_rfl) (by kernel_rfl) (by kernel_rfl) (fun _ _ _ h => h) (Or.inl ⟨by kernel_rfl, ?hy⟩) (by assumption) ?_
    case hy => (intro wq hSw; have q2 := (hSw.cell (p := ⟨w.heap.size, 0, none⟩) l2).trans k2; have q3 := (hSw.cell (p := ⟨w.heap.size + 1, 0, none⟩) l3).trans k3; go_simp; try (with_reducible rfl))
    try simp only [Act.put, List.setIfInBounds_toArray, List.set_cons_zero, List.set_cons_succ]
    refine wpAnyH_done (by kernel_rfl) ?_ _
    refine NoPanic.normal ?_
    try go_simp
    go_wp2_with fail
    go_meet
    exact ⟨rfl, hM.below hS⟩
  case rest =>
    obtain ⟨rfl, hM⟩ := hcut
    clear hM0 HC HF
    have c0 := hM.tw.c0; have c1 := hM.tw.c1; have f0 := hM.tw.f0; have f1 := hM.tw.f1
    have hb := hM.bel
    have hl := hM.tw.lt
    go_wp2_with fail
    refine bodyPost_ret (by simp [results, Try.results32, go_sem, c0, c1]; try rfl) rfl ?_
    exact ⟨rfl, (hb.setCell (p := ⟨w.heap.size + 2, 0, none⟩) (Nat.le_add_right _ _) _).setCell (p := ⟨w.heap.size + 2, 1, none⟩) (Nat.le_add_right _ _) _⟩
set_option maxRecDepth 100000 in
set_option maxHeartbeats 16000000 in
theorem mixed_ok (b off n cap : Nat) (rs : List Rung) (q X Y : Int) (B : Bool) (w : World) (hz : rs.length = n) (hn0 : 0 < n) (hb : b < w.heap.size) (hS : Rungs w (.slice (some ⟨b, off, none⟩) n cap) rs) (hwf : ∀ y ∈ rs, y.nm.size ≤ maxLen) (h0 : mxF rs q = 0)
    (hon : OnOk rs (hullTo rs rs.length).length q (ntH rs (hullTo rs rs.length).length q) X Y B) :
    Calls Try.prog 32 #[.slice (some ⟨b, off, none⟩) n cap, .int .i64 q] w fun e w' => e = .returned (.tuple #[.agg #[.int .i64 X, .int .i64 Y], .bool B, .int .i64 0]) ∧ Below w.heap.size w w' := by
  obtain ⟨hr0, hq0⟩ := fst2_zero h0
  rw [fIf_zero (by decide), Bool.not_eq_false', inB_iff] at hq0
  obtain ⟨q0, q1⟩ := hq0
  have hok := (rgF_zero rs).1 hr0
  have hat := hull_at hok
  have hn : n ≤ 100 := by rw [← hz]; exact hok.len
  have hcut := hull_cut hat q
  have HIA := Lib.hid (hI_at rs)
  have HH : Hid (∀ W, Below w.heap.size w W → Calls Try.prog 67 #[.slice (some ⟨b, off, none⟩) n cap] W fun e w' => (∃ v, e = .returned v ∧ NumsC w' v (cornI (hullTo rs rs.length))) ∧ Below W.heap.size W w') := Lib.hid (fun W hW => hullOf_any _ rs W (hS.below hW (Nat.le_refl _)) hok)
  have hcl : (cornI (hullTo rs rs.length)).length = (hullTo rs rs.length).length := cornI_len _
  obtain ⟨H, hH⟩ : ∃ H, cornI (hullTo rs rs.length) = H := ⟨_, rfl⟩
  have hml : (hullTo rs rs.length).length ≤ rs.length := by
    have : ∀ k, (hullTo rs k).length ≤ k := by
      intro k
      induction k with
      | zero => simp [hullTo]
      | succ k ih =>
        rw [hullTo_step rfl rfl]
        split
        · omega
        · have := popTo_len rs (rs.getD k rung0) (hullTo rs k); rw [List.length_cons]; omega
    exact this _
  obtain ⟨m, hm⟩ : ∃ m, (hullTo rs rs.length).length = m := ⟨_, rfl⟩
  rw [hH] at HH HIA hcl
  rw [hm] at hat hcut HIA hcl hon hml
  rw [hz] at hat hml
  have hm0 := hat.some hn0
  obtain ⟨c, hcc⟩ : ∃ c, ntH rs m q = c := ⟨_, rfl⟩
  rw [hcc] at hcut hon
  have HAT := Lib.hid hat; have HCUT := Lib.hid hcut; have HON := Lib.hid hon; have HCL := Lib.hid hcl; have HNT := Lib.hid hcc
  have HOK : Hid (∀ j, j < n → OkR (rs.getD j rung0)) := Lib.hid (fun j hj => hok.ok j (by omega))
  have HCE := Lib.hid (fun j (hj : j < n) => hS.cells j (by omega))
  have hM0 := Mx.start w (some ⟨b, off, none⟩) n cap q
  have HC : Hid (∀ W, Below w.heap.size w W → Calls Try.prog 25 #[.slice (some ⟨b, off, none⟩) n cap] W fun e w' => e = .returned (.int .i64 (rgF rs)) ∧ Below W.heap.size W w') := Lib.hid (fun W hb => chkr_any _ rs W (hS.below hb (Nat.le_refl _)) hwf)
  have HF : Hid (fstF [rgF rs, fIf (!inB q 0 1000000000) 1] = mxF rs q) := Lib.hid rfl
  obtain ⟨F, hF⟩ : ∃ F, mxF rs q = F := ⟨_, rfl⟩
  obtain ⟨G, hG⟩ : ∃ G, rgF rs = G := ⟨_, rfl⟩
  rw [h0] at HF
  rw [hG] at HC HF
  clear hF hG hS hwf h0 hat hcut hon hcl hcc hok hr0 hH hm hz
  go_enter Try.func32, Try.ntmps32
  go_upto_region 1 with fail
  generalize ((w.alloc (.cells #[.slice (some ⟨b, off, none⟩) n cap] 22)).alloc (.cells #[.int .i64 q] 3)).alloc (.cells #[.int .i64 0, .int .i64 0] 49) = W at *
  go_cut [7] (fun s7 wx => s7 = .int .i64 0 ∧ Mx w wx (.slice (some ⟨b, off, none⟩) n cap) q)
  case first =>
    have hM := hM0
    have k2 := hM.b2; have k3 := hM.b3
    have hl := hM.tw.lt
    have l2 : w.heap.size < W.heap.size := by omega
    have l3 : w.heap.size + 1 < W.heap.size := by omega
    clear hM0 hl
    refine wp_region_noPanic ?_
    refine wp_region_held_drew (S := fun w' => Below W.heap.size W w') (by kernel_rfl) ?hS0 (fun hHeld => ?_)
    case hS0 => exact (Below.refl _ W).drew
    have hS : Below W.heap.size W W.drew := (Below.refl _ W).drew
    clear hHeld
    generalize W.drew = wd at *
    refine wpAnyH_take (i := 0) (v := ?_) rfl (by kernel_rfl) (by kernel_rfl) (by kernel_rfl) (fun _ _ _ h => h) (Or.inl ⟨by kernel_rfl, ?hy⟩) (by assumption) ?_
    case hy => (intro wq hSw; have q2 := (hSw.cell (p := ⟨w.heap.size, 0, none⟩) l2).trans k2; have q3 := (hSw.cell (p := ⟨w.heap.size + 1, 0, none⟩) l3).trans k3; go_simp; try (with_reducible rfl))
    try simp only [Act.put, List.setIfInBounds_toArray, List.set_cons_zero, List.set_cons_succ]
    refine wpAnyH_take (i := 2) (v := ?_) rfl (by kernel_rfl) (by kernel_rfl) (by kernel_rfl) (fun _ _ _ h => h) (Or.inl ⟨by kernel_rfl, ?hy⟩) (by assumption) ?_
    case hy => (intro wq hSw; have q2 := (hSw.cell (p := ⟨w.heap.size, 0, none⟩) l2).trans k2; have q3 := (hSw.cell (p := ⟨w.heap.size + 1, 0, none⟩) l3).trans k3; go_simp; try (with_reducible rfl))
    try simp only [Act.put, List.setIfInBounds_toArray, List.set_cons_zero, List.set_cons_succ]
    refine wpAnyH_ready (rs := [1]) (by kernel_rfl) (by simp) ?_
    refine AllReadyH.cons rfl (fun K hK => ?_) AllReadyH.nil
    go_simp
    refine (HC.out _ (hM.bel.trans (hS.mono hM.bel.size))).mono ?_; rintro e w3 ⟨rfl, b3⟩; have hS : Below W.heap.size W w3 := hS.trans (b3.mono hS.size)
    refine hK.out _ _ hS (fun hHeld => ?_)
    clear hK K hHeld
    try simp only [Act.put, List.setIfInBounds_toArray, List.set_cons_zero, List.set_cons_succ]
    refine wpAnyH_ready (rs := [3]) (by kernel_rfl) (by simp) ?_
    refine AllReadyH.cons rfl (fun K hK => ?_) AllReadyH.nil
    go_simp
    refine (rate0_any _ _).mono ?_; rintro e w' ⟨rfl, rfl⟩
    refine hK.out _ _ hS (fun hHeld => ?_)
    clear hK K hHeld
    try simp only [Act.put, List.setIfInBounds_toArray, List.set_cons_zero, List.set_cons_succ]
    refine wpAnyH_take (i := 4) (v := ?_) rfl (by kernel_rfl) (by kernel_rfl) (by kernel_rfl) (fun _ _ _ h => h) (Or.inl ⟨by kernel_rfl, ?hy⟩) (by assumption) ?_
    case hy => (intro wq hSw; have q2 := (hSw.cell (p := ⟨w.heap.size, 0, none⟩) l2).trans k2; have q3 := (hSw.cell (p := ⟨w.heap.size + 1, 0, none⟩) l3).trans k3; go_simp; try (with_reducible rfl))
    try simp only [Act.put, List.setIfInBounds_toArray, List.set_cons_zero, List.set_cons_succ]
    refine wpAnyH_ready (rs := [5]) (by kernel_rfl) (by simp) ?_
    refine AllReadyH.cons rfl (fun K hK => ?_) AllReadyH.nil
    go_simp
    refine (bfaultIf_any _ _ _).mono ?_; rintro e w' ⟨rfl, rfl⟩
    refine hK.out _ _ hS (fun hHeld => ?_)
    clear hK K hHeld
    try simp only [Act.put, List.setIfInBounds_toArray, List.set_cons_zero, List.set_cons_succ]
    refine wpAnyH_ready (rs := [6]) (by kernel_rfl) (by simp) ?_
    refine AllReadyH.cons rfl (fun K hK => ?_) AllReadyH.nil
    go_simp
    have hS : Below W.heap.size W (w3.alloc (.cells #[.int .i64 G, .int .i64 (fIf (!inB q 0 1000000000) 1)] 26)) := hS.alloc hS.size _
    refine hK.out _ _ hS (fun hHeld => ?_)
    clear hK K hHeld
    try simp only [Act.put, List.setIfInBounds_toArray, List.set_cons_zero, List.set_cons_succ]
    refine wpAnyH_ready (rs := [7]) (by kernel_rfl) (by simp) ?_
    refine AllReadyH.cons rfl (fun K hK => ?_) AllReadyH.nil
    go_simp
    refine (bfirst2 _ _ _).mono ?_; rintro e w' ⟨rfl, rfl⟩; rw [HF.out]
    refine hK.out _ _ hS (fun hHeld => ?_)
    clear hK K hHeld
    try simp only [Act.put, List.setIfInBounds_toArray, List.set_cons_zero, List.set_cons_succ]
    refine wpAnyH_take (i := 8) (v := ?_) rfl (by kernel_rfl) (by kernel_rfl) (by kernel_rfl) (fun _ _ _ h => h) (Or.inl ⟨by kernel_rfl, ?hy⟩) (by assumption) ?_
    case hy => (intro wq hSw; have q2 := (hSw.cell (p := ⟨w.heap.size, 0, none⟩) l2).trans k2; have q3 := (hSw.cell (p := ⟨w.heap.size + 1, 0, none⟩) l3).trans k3; go_simp; try (with_reducible rfl))
    try simp only [Act.put, List.setIfInBounds_toArray, List.set_cons_zero, List.set_cons_succ]
    refine wpAnyH_done (by kernel_rfl) ?_ _
    refine NoPanic.normal ?_
    try go_simp
    go_wp2_with fail
    go_meet
    exact ⟨rfl, hM.below hS⟩
  case rest =>
    obtain ⟨rfl, hM⟩ := hcut
    clear hM0 HC HF
    have k2 := hM.b2
    go_wp2_with fail
    refine (HH.out _ hM.bel).mono ?_; rintro e w4 ⟨⟨v, rfl, hv⟩, b4⟩
    have hM := hM.below b4
    rcases hv with ⟨_, _, _, hx⟩ | ⟨g, o, cp, rfl, hne, hg, hl, hcm, hcc⟩
    · have := HCL.out; rw [hx] at this; simp at this; omega
    · rw [HCL.out] at hl hcc ⊢
      have HG : Hid (∀ j, j < m → w4.cell? ⟨g, o + j, none⟩ = some (.int .i64 (hI rs j : Int))) := Lib.hid (fun j hj => by rw [← HIA.out j hj]; exact hcc j hj)
      have hcn := HCUT.out.le
      have k8 : (w4.alloc (.cells #[.slice (some ⟨g, o, none⟩) m cp] 40)).cell? ⟨w4.heap.size, 0, none⟩ = some (.slice (some ⟨g, o, none⟩) m cp) := by rw [World.cell?_alloc_at _ _ _ _ (by simp)]; rfl
      have l8 : w4.heap.size < (w4.alloc (.cells #[.slice (some ⟨g, o, none⟩) m cp] 40)).heap.size := by simp
      have ba : Below w4.heap.size w4 (w4.alloc (.cells #[.slice (some ⟨g, o, none⟩) m cp] 40)) := (Below.refl _ w4).alloc (Nat.le_refl _) _
      have hM := hM.below ba
      have HG5 : Hid (∀ j, j < m → (w4.alloc (.cells #[.slice (some ⟨g, o, none⟩) m cp] 40)).cell? ⟨g, o + j, none⟩ = some (.int .i64 (hI rs j : Int))) := Lib.hid (fun j hj => by rw [ba.cell (p := ⟨g, o + j, none⟩) hg]; exact HG.out j hj)
      have lg : g < (w4.alloc (.cells #[.slice (some ⟨g, o, none⟩) m cp] 40)).heap.size := Nat.lt_of_lt_of_le hg ba.size
      clear hcc hne b4 k2 HH
      go_upto_region 5 with fail
      generalize w4.alloc (.cells #[.slice (some ⟨g, o, none⟩) m cp] 40) = W5 at *
      generalize w4.heap.size = X8 at *
      clear HG ba
      have k2 := hM.b2
      have hl5 := hM.tw.lt
      have lb : b < W5.heap.size := Nat.lt_of_lt_of_le hb hM.bel.size
      have HSR := Lib.hid (dearer_search b off n cap g o m cp rs w.heap.size X8 (w.heap.size + 1) q W5 HAT.out (by omega) lb lg (by omega) l8 (by omega) k2 k8 hM.b3 HG5.out (fun j hj => by rw [hM.bel.cell (p := ⟨b, off + j * 4 + 1, none⟩) hb]; exact (HCE.out j hj).2.1))
      rw [HNT.out] at HSR
      go_wp2_with fail
      refine HSR.out.mono ?_; rintro e W6 ⟨rfl, b6⟩
      have hM := hM.below b6
      have k8 : W6.cell? ⟨X8, 0, none⟩ = some (.slice (some ⟨g, o, none⟩) m cp) := by rw [b6.cell (p := ⟨X8, 0, none⟩) l8]; exact k8
      have HG6 : Hid (∀ j, j < m → W6.cell? ⟨g, o + j, none⟩ = some (.int .i64 (hI rs j : Int))) := Lib.hid (fun j hj => by rw [b6.cell (p := ⟨g, o + j, none⟩) lg]; exact HG5.out j hj)
      have l8 := Nat.lt_of_lt_of_le l8 b6.size
      have lg := Nat.lt_of_lt_of_le lg b6.size
      have lb := Nat.lt_of_lt_of_le lb b6.size
      clear HSR b6 k2 hl5 HG5
      have c0 := hM.tw.c0; have c1 := hM.tw.c1; have f0 := hM.tw.f0; have f1 := hM.tw.f1
      have hbl := hM.bel
      have hl6 := hM.tw.lt
      by_cases hc0 : c = 0
      · subst hc0
        obtain ⟨rfl, rfl, rfl⟩ := HON.out.none rfl
        have e1 : (((0 : Nat) : Int) == 0) = true := rfl
        go_wp2_with fail
        refine bodyPost_ret (by simp [results, Try.results32, go_sem, c0, c1]; try rfl) rfl ?_
        exact ⟨rfl, (hbl.setCell (p := ⟨w.heap.size + 2, 0, none⟩) (Nat.le_add_right _ _) _).setCell (p := ⟨w.heap.size + 2, 1, none⟩) (Nat.le_add_right _ _) _⟩
      · have e1 : ((c : Int) == 0) = false := by simp; omega
        obtain ⟨d, hd⟩ : ∃ d, hI rs (c - 1) = d := ⟨_, rfl⟩
        have hdn := HAT.out.lt (c - 1) (by omega)
        have eg := HG6.out (c - 1) (by omega)
        rw [hd] at hdn eg
        obtain ⟨lo, hlo⟩ : ∃ lo, rs.getD d rung0 = lo := ⟨_, rfl⟩
        have okl := HOK.out d hdn
        have hlow := HCUT.out.low (c - 1) (by omega)
        obtain ⟨y0, y1, y2, y3⟩ := HCE.out d hdn
        rw [hd] at hlow
        rw [hlo] at y0 y1 y2 y3 okl hlow
        rw [← hbl.cell (p := ⟨b, off + d * 4, none⟩) hb] at y0
        rw [← hbl.cell (p := ⟨b, off + d * 4 + 1, none⟩) hb] at y1
        rw [← hbl.cell (p := ⟨b, off + d * 4 + 2, none⟩) hb] at y2
        rw [← hbl.cell (p := ⟨b, off + d * 4 + 3, none⟩) hb] at y3
        have HLO : Hid (rs.getD (hI rs (c - 1)) rung0 = lo) := Lib.hid (by rw [hd, hlo])
        have i0 : (0 : Int) ≤ (d : Int) := by omega
        have i1 : (d : Int) < (n : Int) := by omega
        have j2 : (0 : Int) ≤ (c : Int) - 1 := by omega
        have j3 : (c : Int) - 1 < (m : Int) := by omega
        have j6 : (1 : Int) ≤ (c : Int) := by omega
        have j4 : ((c : Int) - 1).toNat = c - 1 := by omega
        have j5 : IntKind.i64.wrap ((c : Int) - 1) = (c : Int) - 1 := IntWalk.i64_in _ ⟨by omega, by omega⟩
        clear hd hlo
        go_upto_region 8 with fail
        have k2 := hM.b2
        have l2 : w.heap.size < W6.heap.size := by omega
        go_cut [10] (fun s10 wx => ∃ L, s10 = .pointer (some ⟨L, 0, none⟩) ∧ Four wx L lo ∧ Below W6.heap.size W6 wx)
        case first =>
          refine wp_region_noPanic ?_
          refine wp_region_held_drew (S := fun w' => Below W6.heap.size W6 w') (by kernel_rfl) ?hS0 (fun hHeld => ?_)
          case hS0 => exact (Below.refl _ W6).drew
          have hS : Below W6.heap.size W6 W6.drew := (Below.refl _ W6).drew
          clear hHeld
          generalize W6.drew = wd at *
          refine wpAnyH_take (i := 0) (v := ?_) rfl (by kernel_rfl) (by kernel_rfl) (by kernel_rfl) (fun _ _ _ h => h) (Or.inl ⟨by kernel_rfl, ?hy⟩) (by assumption) ?_
          case hy => (intro wq hSw; have q2 := (hSw.cell (p := ⟨w.heap.size, 0, none⟩) l2).trans k2; have q8 := (hSw.cell (p := ⟨X8, 0, none⟩) l8).trans k8; have qg := (hSw.cell (p := ⟨g, o + (c - 1), none⟩) lg).trans eg; have qy0 := (hSw.cell (p := ⟨b, off + d * 4, none⟩) lb).trans y0; have qy1 := (hSw.cell (p := ⟨b, off + d * 4 + 1, none⟩) lb).trans y1; have qy2 := (hSw.cell (p := ⟨b, off + d * 4 + 2, none⟩) lb).trans y2; have qy3 := (hSw.cell (p := ⟨b, off + d * 4 + 3, none⟩) lb).trans y3; have s1 := Nat.lt_of_lt_of_le lb hSw.size; have s2 := Nat.lt_of_lt_of_le lg hSw.size; have s3 := Nat.lt_of_lt_of_le l8 hSw.size; go_simp; try (with_reducible rfl))
          try simp only [Act.put, List.setIfInBounds_toArray, List.set_cons_zero, List.set_cons_succ]
          refine wpAnyH_take (i := 1) (v := ?_) rfl (by kernel_rfl) (by kernel_rfl) (by kernel_rfl) (fun _ _ _ h => h) (Or.inl ⟨by kernel_rfl, ?hy⟩) (by assumption) ?_
          case hy => (intro wq hSw; have q2 := (hSw.cell (p := ⟨w.heap.size, 0, none⟩) l2).trans k2; have q8 := (hSw.cell (p := ⟨X8, 0, none⟩) l8).trans k8; have qg := (hSw.cell (p := ⟨g, o + (c - 1), none⟩) lg).trans eg; have qy0 := (hSw.cell (p := ⟨b, off + d * 4, none⟩) lb).trans y0; have qy1 := (hSw.cell (p := ⟨b, off + d * 4 + 1, none⟩) lb).trans y1; have qy2 := (hSw.cell (p := ⟨b, off + d * 4 + 2, none⟩) lb).trans y2; have qy3 := (hSw.cell (p := ⟨b, off + d * 4 + 3, none⟩) lb).trans y3; have s1 := Nat.lt_of_lt_of_le lb hSw.size; have s2 := Nat.lt_of_lt_of_le lg hSw.size; have s3 := Nat.lt_of_lt_of_le l8 hSw.size; go_simp; try (with_reducible rfl))
          try simp only [Act.put, List.setIfInBounds_toArray, List.set_cons_zero, List.set_cons_succ]
          refine wpAnyH_take (i := 2) (v := ?_) rfl (by kernel_rfl) (by kernel_rfl) (by kernel_rfl) (fun _ _ _ h => h) (Or.inl ⟨by kernel_rfl, ?hy⟩) (by assumption) ?_
          case hy => (intro wq hSw; have q2 := (hSw.cell (p := ⟨w.heap.size, 0, none⟩) l2).trans k2; have q8 := (hSw.cell (p := ⟨X8, 0, none⟩) l8).trans k8; have qg := (hSw.cell (p := ⟨g, o + (c - 1), none⟩) lg).trans eg; have qy0 := (hSw.cell (p := ⟨b, off + d * 4, none⟩) lb).trans y0; have qy1 := (hSw.cell (p := ⟨b, off + d * 4 + 1, none⟩) lb).trans y1; have qy2 := (hSw.cell (p := ⟨b, off + d * 4 + 2, none⟩) lb).trans y2; have qy3 := (hSw.cell (p := ⟨b, off + d * 4 + 3, none⟩) lb).trans y3; have s1 := Nat.lt_of_lt_of_le lb hSw.size; have s2 := Nat.lt_of_lt_of_le lg hSw.size; have s3 := Nat.lt_of_lt_of_le l8 hSw.size; go_simp; try (with_reducible rfl))
          try simp only [Act.put, List.setIfInBounds_toArray, List.set_cons_zero, List.set_cons_succ]
          refine wpAnyH_take (i := 3) (v := ?_) rfl (by kernel_rfl) (by kernel_rfl) (by kernel_rfl) (fun _ _ _ h => h) (Or.inl ⟨by kernel_rfl, ?hy⟩) (by assumption) ?_
          case hy => (intro wq hSw; have q2 := (hSw.cell (p := ⟨w.heap.size, 0, none⟩) l2).trans k2; have q8 := (hSw.cell (p := ⟨X8, 0, none⟩) l8).trans k8; have qg := (hSw.cell (p := ⟨g, o + (c - 1), none⟩) lg).trans eg; have qy0 := (hSw.cell (p := ⟨b, off + d * 4, none⟩) lb).trans y0; have qy1 := (hSw.cell (p := ⟨b, off + d * 4 + 1, none⟩) lb).trans y1; have qy2 := (hSw.cell (p := ⟨b, off + d * 4 + 2, none⟩) lb).trans y2; have qy3 := (hSw.cell (p := ⟨b, off + d * 4 + 3, none⟩) lb).trans y3; have s1 := Nat.lt_of_lt_of_le lb hSw.size; have s2 := Nat.lt_of_lt_of_le lg hSw.size; have s3 := Nat.lt_of_lt_of_le l8 hSw.size; go_simp; try (with_reducible rfl))
          try simp only [Act.put, List.setIfInBounds_toArray, List.set_cons_zero, List.set_cons_succ]
          refine wpAnyH_take (i := 4) (v := ?_) rfl (by kernel_rfl) (by kernel_rfl) (by kernel_rfl) (fun _ _ _ h => h) (Or.inl ⟨by kernel_rfl, ?hy⟩) (by assumption) ?_
          case hy => (intro wq hSw; have q2 := (hSw.cell (p := ⟨w.heap.size, 0, none⟩) l2).trans k2; have q8 := (hSw.cell (p := ⟨X8, 0, none⟩) l8).trans k8; have qg := (hSw.cell (p := ⟨g, o + (c - 1), none⟩) lg).trans eg; have qy0 := (hSw.cell (p := ⟨b, off + d * 4, none⟩) lb).trans y0; have qy1 := (hSw.cell (p := ⟨b, off + d * 4 + 1, none⟩) lb).trans y1; have qy2 := (hSw.cell (p := ⟨b, off + d * 4 + 2, none⟩) lb).trans y2; have qy3 := (hSw.cell (p := ⟨b, off + d * 4 + 3, none⟩) lb).trans y3; have s1 := Nat.lt_of_lt_of_le lb hSw.size; have s2 := Nat.lt_of_lt_of_le lg hSw.size; have s3 := Nat.lt_of_lt_of_le l8 hSw.size; go_simp; try (with_reducible rfl))
          try simp only [Act.put, List.setIfInBounds_toArray, List.set_cons_zero, List.set_cons_succ]
          refine wpAnyH_take (i := 5) (v := ?_) rfl (by kernel_rfl) (by kernel_rfl) (by kernel_rfl) (fun _ _ _ h => h) (Or.inl ⟨by kernel_rfl, ?hy⟩) (by assumption) ?_
          case hy => (intro wq hSw; have q2 := (hSw.cell (p := ⟨w.heap.size, 0, none⟩) l2).trans k2; have q8 := (hSw.cell (p := ⟨X8, 0, none⟩) l8).trans k8; have qg := (hSw.cell (p := ⟨g, o + (c - 1), none⟩) lg).trans eg; have qy0 := (hSw.cell (p := ⟨b, off + d * 4, none⟩) lb).trans y0; have qy1 := (hSw.cell (p := ⟨b, off + d * 4 + 1, none⟩) lb).trans y1; have qy2 := (hSw.cell (p := ⟨b, off + d * 4 + 2, none⟩) lb).trans y2; have qy3 := (hSw.cell (p := ⟨b, off + d * 4 + 3, none⟩) lb).trans y3; have s1 := Nat.lt_of_lt_of_le lb hSw.size; have s2 := Nat.lt_of_lt_of_le lg hSw.size; have s3 := Nat.lt_of_lt_of_le l8 hSw.size; go_simp; try (with_reducible rfl))
          try simp only [Act.put, List.setIfInBounds_toArray, List.set_cons_zero, List.set_cons_succ]
          refine wpAnyH_take (i := 6) (v := ?_) rfl (by kernel_rfl) (by kernel_rfl) (by kernel_rfl) (fun _ _ _ h => h) (Or.inl ⟨by kernel_rfl, ?hy⟩) (by assumption) ?_
          case hy => (intro wq hSw; have q2 := (hSw.cell (p := ⟨w.heap.size, 0, none⟩) l2).trans k2; have q8 := (hSw.cell (p := ⟨X8, 0, none⟩) l8).trans k8; have qg := (hSw.cell (p := ⟨g, o + (c - 1), none⟩) lg).trans eg; have qy0 := (hSw.cell (p := ⟨b, off + d * 4, none⟩) lb).trans y0; have qy1 := (hSw.cell (p := ⟨b, off + d * 4 + 1, none⟩) lb).trans y1; have qy2 := (hSw.cell (p := ⟨b, off + d * 4 + 2, none⟩) lb).trans y2; have qy3 := (hSw.cell (p := ⟨b, off + d * 4 + 3, none⟩) lb).trans y3; have s1 := Nat.lt_of_lt_of_le lb hSw.size; have s2 := Nat.lt_of_lt_of_le lg hSw.size; have s3 := Nat.lt_of_lt_of_le l8 hSw.size; go_simp; try (with_reducible rfl))
          try simp only [Act.put, List.setIfInBounds_toArray, List.set_cons_zero, List.set_cons_succ]
          refine wpAnyH_take (i := 7) (v := ?_) rfl (by kernel_rfl) (by kernel_rfl) (by kernel_rfl) (fun _ _ _ h => h) (Or.inl ⟨by kernel_rfl, ?hy⟩) (by assumption) ?_
          case hy => (intro wq hSw; have q2 := (hSw.cell (p := ⟨w.heap.size, 0, none⟩) l2).trans k2; have q8 := (hSw.cell (p := ⟨X8, 0, none⟩) l8).trans k8; have qg := (hSw.cell (p := ⟨g, o + (c - 1), none⟩) lg).trans eg; have qy0 := (hSw.cell (p := ⟨b, off + d * 4, none⟩) lb).trans y0; have qy1 := (hSw.cell (p := ⟨b, off + d * 4 + 1, none⟩) lb).trans y1; have qy2 := (hSw.cell (p := ⟨b, off + d * 4 + 2, none⟩) lb).trans y2; have qy3 := (hSw.cell (p := ⟨b, off + d * 4 + 3, none⟩) lb).trans y3; have s1 := Nat.lt_of_lt_of_le lb hSw.size; have s2 := Nat.lt_of_lt_of_le lg hSw.size; have s3 := Nat.lt_of_lt_of_le l8 hSw.size; go_simp; try (with_reducible rfl))
          try simp only [Act.put, List.setIfInBounds_toArray, List.set_cons_zero, List.set_cons_succ]
          have hS0 := hS
          refine wpAnyH_ready (rs := [8]) (by kernel_rfl) (by simp) ?_
          refine AllReadyH.cons rfl (fun K hK => ?_) AllReadyH.nil
          go_simp
          refine hK.out _ _ (hS.alloc hS.size _) (fun hS => ?_)
          clear hK K
          try simp only [Act.put, List.setIfInBounds_toArray, List.set_cons_zero, List.set_cons_succ]
          refine wpAnyH_ready (rs := [9]) (by kernel_rfl) (by simp) ?_
          refine AllReadyH.cons rfl (fun K hK => ?_) AllReadyH.nil
          go_simp
          refine hK.out _ _ (hS0.alloc hS0.size _) (fun hS => ?_)
          clear hK K
          try simp only [Act.put, List.setIfInBounds_toArray, List.set_cons_zero, List.set_cons_succ]
          refine wpAnyH_done (by kernel_rfl) ?_ _
          refine NoPanic.normal ?_
          try go_simp
          go_wp2_with fail
          go_meet
          exact ⟨wd.heap.size, rfl, Four.new wd lo _, hS⟩
        case rest =>
          obtain ⟨L, rfl, FL, b7⟩ := hcut
          have hM := hM.below b7
          have k8 : wc.cell? ⟨X8, 0, none⟩ = some (.slice (some ⟨g, o, none⟩) m cp) := by rw [b7.cell (p := ⟨X8, 0, none⟩) l8]; exact k8
          have HG7 : Hid (∀ j, j < m → wc.cell? ⟨g, o + j, none⟩ = some (.int .i64 (hI rs j : Int))) := Lib.hid (fun j hj => by rw [b7.cell (p := ⟨g, o + j, none⟩) lg]; exact HG6.out j hj)
          have l8 := Nat.lt_of_lt_of_le l8 b7.size
          have lg := Nat.lt_of_lt_of_le lg b7.size
          have lb := Nat.lt_of_lt_of_le lb b7.size
          clear y0 y1 y2 y3 eg c0 c1 f0 f1 k2 l2 hl6 hbl HG6
          have d1 := FL.c1; have d3 := FL.c3; have dl := FL.lt
          obtain ⟨-, ⟨la0, la1⟩, -, ⟨lq0, lq1⟩⟩ := okl
          by_cases hcm2 : c = m
          · obtain ⟨eX, rfl, rfl⟩ := HON.out.last (by omega) hcm2
            rw [HLO.out] at eX
            subst eX
            have e2 : ((c : Int) == (m : Int)) = true := by simp; omega
            have hg1 := gcdI_one lo.qu lq0
            clear hcm2
            go_wp2_with fail
            refine (low_any lo.qu 1 _ lq0 (by omega) (by decide) (by decide)).mono ?_; rintro e w9 ⟨rfl, b9⟩
            rw [hg1, Int.ediv_one]
            have e3 : (1 : Int) / 1 = 1 := rfl
            rw [e3]
            clear hg1 e3
            have hM9 := hM.below b9
            have c0 := hM9.tw.c0; have c1 := hM9.tw.c1; have f0 := hM9.tw.f0; have f1 := hM9.tw.f1
            have hbl := hM9.bel
            have hl9 := hM9.tw.lt
            go_wp2_with fail
            refine bodyPost_ret (by simp [results, Try.results32, go_sem, c0, c1]; try rfl) rfl ?_
            exact ⟨rfl, (hbl.setCell (p := ⟨w.heap.size + 2, 0, none⟩) (Nat.le_add_right _ _) _).setCell (p := ⟨w.heap.size + 2, 1, none⟩) (Nat.le_add_right _ _) _⟩
          · have e2 : ((c : Int) == (m : Int)) = false := by simp; omega
            have hcm3 : c < m := by omega
            obtain ⟨f, hf⟩ : ∃ f, hI rs c = f := ⟨_, rfl⟩
            have hfn := HAT.out.lt c hcm3
            have ef := HG7.out c hcm3
            obtain ⟨u1, u2⟩ := HAT.out.up c (by omega) hcm3
            have hhigh := HCUT.out.high c (Nat.le_refl _) hcm3
            rw [HLO.out] at u1 u2
            rw [hf] at hfn ef u1 u2 hhigh
            obtain ⟨hi, hhi⟩ : ∃ hi, rs.getD f rung0 = hi := ⟨_, rfl⟩
            obtain ⟨-, ⟨ha0, ha1⟩, -, ⟨hq0, hq1⟩⟩ := HOK.out f hfn
            obtain ⟨z0, z1, z2, z3⟩ := HCE.out f hfn
            rw [hhi] at z0 z1 z2 z3 u1 u2 hhigh ha0 ha1 hq0 hq1
            rw [← hM.bel.cell (p := ⟨b, off + f * 4, none⟩) hb] at z0
            rw [← hM.bel.cell (p := ⟨b, off + f * 4 + 1, none⟩) hb] at z1
            rw [← hM.bel.cell (p := ⟨b, off + f * 4 + 2, none⟩) hb] at z2
            rw [← hM.bel.cell (p := ⟨b, off + f * 4 + 3, none⟩) hb] at z3
            obtain ⟨eX, eY, rfl⟩ := HON.out.mid (by omega) hcm3
            rw [HLO.out, hf, hhi, ← mixN_eq] at eX eY
            obtain ⟨P1, hP1⟩ : ∃ P1, lo.qu * (hi.ra - lo.ra) = P1 := ⟨_, rfl⟩
            obtain ⟨P2, hP2⟩ : ∃ P2, (hi.qu - lo.qu) * (q - lo.ra) = P2 := ⟨_, rfl⟩
            rw [hP1, hP2] at eX eY
            have bp1 := mul_range (x := lo.qu) (y := hi.ra - lo.ra) (a := 1000000) (b := 1000000000) lq0 lq1 (by omega) (by omega)
            have bp2 := mul_range (x := hi.qu - lo.qu) (y := q - lo.ra) (a := 1000000) (b := 1000000000) (by omega) (by omega) (by omega) (by omega)
            rw [hP1] at bp1
            rw [hP2] at bp2
            obtain ⟨p0, p1⟩ := bp1
            obtain ⟨p2, p3⟩ := bp2
            have w1 : IntKind.i64.wrap (lo.qu * (hi.ra - lo.ra)) = P1 := by rw [hP1]; exact IntWalk.i64_in _ ⟨by omega, by omega⟩
            have w2 : IntKind.i64.wrap ((hi.qu - lo.qu) * (q - lo.ra)) = P2 := by rw [hP2]; exact IntWalk.i64_in _ ⟨by omega, by omega⟩
            have EX := Lib.hid eX; have EY := Lib.hid eY
            have i2 : (0 : Int) ≤ (f : Int) := by omega
            have i3 : (f : Int) < (n : Int) := by omega
            have i4 : (0 : Int) ≤ (c : Int) := by omega
            have i5 : (c : Int) < (m : Int) := by omega
            clear hP1 hP2 eX eY hhi hcm2 hf
            go_upto_region 11 with fail
            have k2 := hM.b2
            have hlc := hM.tw.lt
            have l2 : w.heap.size < wc.heap.size := by omega
            go_cut [11] (fun s11 wx => ∃ L2, s11 = .pointer (some ⟨L2, 0, none⟩) ∧ Four wx L2 hi ∧ Below wc.heap.size wc wx)
            case first =>
              refine wp_region_noPanic ?_
              refine wp_region_held_drew (S := fun w' => Below wc.heap.size wc w') (by kernel_rfl) ?hS0 (fun hHeld => ?_)
              case hS0 => exact (Below.refl _ wc).drew
              have hS : Below wc.heap.size wc wc.drew := (Below.refl _ wc).drew
              clear hHeld
              generalize wc.drew = wd at *
              refine wpAnyH_take (i := 0) (v := ?_) rfl (by kernel_rfl) (by kernel_rfl) (by kernel_rfl) (fun _ _ _ h => h) (Or.inl ⟨by kernel_rfl, ?hy⟩) (by assumption) ?_
              case hy => (intro wq hSw; have q2 := (hSw.cell (p := ⟨w.heap.size, 0, none⟩) l2).trans k2; have q8 := (hSw.cell (p := ⟨X8, 0, none⟩) l8).trans k8; have qg := (hSw.cell (p := ⟨g, o + c, none⟩) lg).trans ef; have qz0 := (hSw.cell (p := ⟨b, off + f * 4, none⟩) lb).trans z0; have qz1 := (hSw.cell (p := ⟨b, off + f * 4 + 1, none⟩) lb).trans z1; have qz2 := (hSw.cell (p := ⟨b, off + f * 4 + 2, none⟩) lb).trans z2; have qz3 := (hSw.cell (p := ⟨b, off + f * 4 + 3, none⟩) lb).trans z3; have s1 := Nat.lt_of_lt_of_le lb hSw.size; have s2 := Nat.lt_of_lt_of_le lg hSw.size; have s3 := Nat.lt_of_lt_of_le l8 hSw.size; go_simp; try (with_reducible rfl))
              try simp only [Act.put, List.setIfInBounds_toArray, List.set_cons_zero, List.set_cons_succ]
              refine wpAnyH_take (i := 1) (v := ?_) rfl (by kernel_rfl) (by kernel_rfl) (by kernel_rfl) (fun _ _ _ h => h) (Or.inl ⟨by kernel_rfl, ?hy⟩) (by assumption) ?_
              case hy => (intro wq hSw; have q2 := (hSw.cell (p := ⟨w.heap.size, 0, none⟩) l2).trans k2; have q8 := (hSw.cell (p := ⟨X8, 0, none⟩) l8).trans k8; have qg := (hSw.cell (p := ⟨g, o + c, none⟩) lg).trans ef; have qz0 := (hSw.cell (p := ⟨b, off + f * 4, none⟩) lb).trans z0; have qz1 := (hSw.cell (p := ⟨b, off + f * 4 + 1, none⟩) lb).trans z1; have qz2 := (hSw.cell (p := ⟨b, off + f * 4 + 2, none⟩) lb).trans z2; have qz3 := (hSw.cell (p := ⟨b, off + f * 4 + 3, none⟩) lb).trans z3; have s1 := Nat.lt_of_lt_of_le lb hSw.size; have s2 := Nat.lt_of_lt_of_le lg hSw.size; have s3 := Nat.lt_of_lt_of_le l8 hSw.size; go_simp; try (with_reducible rfl))
              try simp only [Act.put, List.setIfInBounds_toArray, List.set_cons_zero, List.set_cons_succ]
              refine wpAnyH_take (i := 2) (v := ?_) rfl (by kernel_rfl) (by kernel_rfl) (by kernel_rfl) (fun _ _ _ h => h) (Or.inl ⟨by kernel_rfl, ?hy⟩) (by assumption) ?_
              case hy => (intro wq hSw; have q2 := (hSw.cell (p := ⟨w.heap.size, 0, none⟩) l2).trans k2; have q8 := (hSw.cell (p := ⟨X8, 0, none⟩) l8).trans k8; have qg := (hSw.cell (p := ⟨g, o + c, none⟩) lg).trans ef; have qz0 := (hSw.cell (p := ⟨b, off + f * 4, none⟩) lb).trans z0; have qz1 := (hSw.cell (p := ⟨b, off + f * 4 + 1, none⟩) lb).trans z1; have qz2 := (hSw.cell (p := ⟨b, off + f * 4 + 2, none⟩) lb).trans z2; have qz3 := (hSw.cell (p := ⟨b, off + f * 4 + 3, none⟩) lb).trans z3; have s1 := Nat.lt_of_lt_of_le lb hSw.size; have s2 := Nat.lt_of_lt_of_le lg hSw.size; have s3 := Nat.lt_of_lt_of_le l8 hSw.size; go_simp; try (with_reducible rfl))
              try simp only [Act.put, List.setIfInBounds_toArray, List.set_cons_zero, List.set_cons_succ]
              refine wpAnyH_take (i := 3) (v := ?_) rfl (by kernel_rfl) (by kernel_rfl) (by kernel_rfl) (fun _ _ _ h => h) (Or.inl ⟨by kernel_rfl, ?hy⟩) (by assumption) ?_
              case hy => (intro wq hSw; have q2 := (hSw.cell (p := ⟨w.heap.size, 0, none⟩) l2).trans k2; have q8 := (hSw.cell (p := ⟨X8, 0, none⟩) l8).trans k8; have qg := (hSw.cell (p := ⟨g, o + c, none⟩) lg).trans ef; have qz0 := (hSw.cell (p := ⟨b, off + f * 4, none⟩) lb).trans z0; have qz1 := (hSw.cell (p := ⟨b, off + f * 4 + 1, none⟩) lb).trans z1; have qz2 := (hSw.cell (p := ⟨b, off + f * 4 + 2, none⟩) lb).trans z2; have qz3 := (hSw.cell (p := ⟨b, off + f * 4 + 3, none⟩) lb).trans z3; have s1 := Nat.lt_of_lt_of_le lb hSw.size; have s2 := Nat.lt_of_lt_of_le lg hSw.size; have s3 := Nat.lt_of_lt_of_le l8 hSw.size; go_simp; try (with_reducible rfl))
              try simp only [Act.put, List.setIfInBounds_toArray, List.set_cons_zero, List.set_cons_succ]
              refine wpAnyH_take (i := 4) (v := ?_) rfl (by kernel_rfl) (by kernel_rfl) (by kernel_rfl) (fun _ _ _ h => h) (Or.inl ⟨by kernel_rfl, ?hy⟩) (by assumption) ?_
              case hy => (intro wq hSw; have q2 := (hSw.cell (p := ⟨w.heap.size, 0, none⟩) l2).trans k2; have q8 := (hSw.cell (p := ⟨X8, 0, none⟩) l8).trans k8; have qg := (hSw.cell (p := ⟨g, o + c, none⟩) lg).trans ef; have qz0 := (hSw.cell (p := ⟨b, off + f * 4, none⟩) lb).trans z0; have qz1 := (hSw.cell (p := ⟨b, off + f * 4 + 1, none⟩) lb).trans z1; have qz2 := (hSw.cell (p := ⟨b, off + f * 4 + 2, none⟩) lb).trans z2; have qz3 := (hSw.cell (p := ⟨b, off + f * 4 + 3, none⟩) lb).trans z3; have s1 := Nat.lt_of_lt_of_le lb hSw.size; have s2 := Nat.lt_of_lt_of_le lg hSw.size; have s3 := Nat.lt_of_lt_of_le l8 hSw.size; go_simp; try (with_reducible rfl))
              try simp only [Act.put, List.setIfInBounds_toArray, List.set_cons_zero, List.set_cons_succ]
              refine wpAnyH_take (i := 5) (v := ?_) rfl (by kernel_rfl) (by kernel_rfl) (by kernel_rfl) (fun _ _ _ h => h) (Or.inl ⟨by kernel_rfl, ?hy⟩) (by assumption) ?_
              case hy => (intro wq hSw; have q2 := (hSw.cell (p := ⟨w.heap.size, 0, none⟩) l2).trans k2; have q8 := (hSw.cell (p := ⟨X8, 0, none⟩) l8).trans k8; have qg := (hSw.cell (p := ⟨g, o + c, none⟩) lg).trans ef; have qz0 := (hSw.cell (p := ⟨b, off + f * 4, none⟩) lb).trans z0; have qz1 := (hSw.cell (p := ⟨b, off + f * 4 + 1, none⟩) lb).trans z1; have qz2 := (hSw.cell (p := ⟨b, off + f * 4 + 2, none⟩) lb).trans z2; have qz3 := (hSw.cell (p := ⟨b, off + f * 4 + 3, none⟩) lb).trans z3; have s1 := Nat.lt_of_lt_of_le lb hSw.size; have s2 := Nat.lt_of_lt_of_le lg hSw.size; have s3 := Nat.lt_of_lt_of_le l8 hSw.size; go_simp; try (with_reducible rfl))
              try simp only [Act.put, List.setIfInBounds_toArray, List.set_cons_zero, List.set_cons_succ]
              refine wpAnyH_take (i := 6) (v := ?_) rfl (by kernel_rfl) (by kernel_rfl) (by kernel_rfl) (fun _ _ _ h => h) (Or.inl ⟨by kernel_rfl, ?hy⟩) (by assumption) ?_
              case hy => (intro wq hSw; have q2 := (hSw.cell (p := ⟨w.heap.size, 0, none⟩) l2).trans k2; have q8 := (hSw.cell (p := ⟨X8, 0, none⟩) l8).trans k8; have qg := (hSw.cell (p := ⟨g, o + c, none⟩) lg).trans ef; have qz0 := (hSw.cell (p := ⟨b, off + f * 4, none⟩) lb).trans z0; have qz1 := (hSw.cell (p := ⟨b, off + f * 4 + 1, none⟩) lb).trans z1; have qz2 := (hSw.cell (p := ⟨b, off + f * 4 + 2, none⟩) lb).trans z2; have qz3 := (hSw.cell (p := ⟨b, off + f * 4 + 3, none⟩) lb).trans z3; have s1 := Nat.lt_of_lt_of_le lb hSw.size; have s2 := Nat.lt_of_lt_of_le lg hSw.size; have s3 := Nat.lt_of_lt_of_le l8 hSw.size; go_simp; try (with_reducible rfl))
              try simp only [Act.put, List.setIfInBounds_toArray, List.set_cons_zero, List.set_cons_succ]
              have hS0 := hS
              refine wpAnyH_ready (rs := [7]) (by kernel_rfl) (by simp) ?_
              refine AllReadyH.cons rfl (fun K hK => ?_) AllReadyH.nil
              go_simp
              refine hK.out _ _ (hS.alloc hS.size _) (fun hS => ?_)
              clear hK K
              try simp only [Act.put, List.setIfInBounds_toArray, List.set_cons_zero, List.set_cons_succ]
              refine wpAnyH_ready (rs := [8]) (by kernel_rfl) (by simp) ?_
              refine AllReadyH.cons rfl (fun K hK => ?_) AllReadyH.nil
              go_simp
              refine hK.out _ _ (hS0.alloc hS0.size _) (fun hS => ?_)
              clear hK K
              try simp only [Act.put, List.setIfInBounds_toArray, List.set_cons_zero, List.set_cons_succ]
              refine wpAnyH_done (by kernel_rfl) ?_ _
              refine NoPanic.normal ?_
              try go_simp
              go_wp2_with fail
              go_meet
              exact ⟨wd.heap.size, rfl, Four.new wd hi _, hS⟩
            case rest =>
              obtain ⟨L2, rfl, FH, b8⟩ := hcut
              have FL := FL.below b8 FL.lt
              have hM := hM.below b8
              clear d1 d3 dl z0 z1 z2 z3 ef k2 l2 hlc k8 l8
              have d1 := FL.c1; have d3 := FL.c3; have dl := FL.lt
              have h1 := FH.c1; have h3 := FH.c3; have hl := FH.lt
              have k3 := hM.b3
              go_wp2_with fail
              refine (low_any (P1 + P2) (hi.ra - lo.ra) _ (by omega) (by omega) (by omega) (by omega)).mono ?_; rintro e w9 ⟨rfl, b9⟩
              rw [← EX.out, ← EY.out]
              have hM9 := hM.below b9
              clear k3 d1 d3 h1 h3
              have c0 := hM9.tw.c0; have c1 := hM9.tw.c1; have f0 := hM9.tw.f0; have f1 := hM9.tw.f1
              have hbl := hM9.bel
              have hl9 := hM9.tw.lt
              go_wp2_with fail
              refine bodyPost_ret (by simp [results, Try.results32, go_sem, c0, c1]; try rfl) rfl ?_
              exact ⟨rfl, (hbl.setCell (p := ⟨w.heap.size + 2, 0, none⟩) (Nat.le_add_right _ _) _).setCell (p := ⟨w.heap.size + 2, 1, none⟩) (Nat.le_add_right _ _) _⟩
theorem search_zero (B1 B2 B3 : Nat) (w : World) :
    Calls Try.prog 71 #[.int .i64 0, .func (.func 72) #[] #[.pointer (some ⟨B1, 0, none⟩), .pointer (some ⟨B2, 0, none⟩), .pointer (some ⟨B3, 0, none⟩)]] w fun e w' => e = .returned (.int .i64 0) ∧ Below w.heap.size w w' := by
  refine (Go.Proofs.Any.sort_Search rsearchLays 72 #[.pointer (some ⟨B1, 0, none⟩), .pointer (some ⟨B2, 0, none⟩), .pointer (some ⟨B3, 0, none⟩)] 0 (fun i => true) w (enters_of Try.func72 (by kernel_rfl) rfl) (by omega) (fun _ _ i hi => absurd hi (Nat.not_lt_zero _)) (fun _ _ _ _ h => h)).mono ?_
  rintro e w' ⟨rfl, k, os, rfl⟩
  refine ⟨rfl, ⟨rfl, rfl, rfl, by simp [grow], fun j hj => ?_⟩⟩
  exact heap_grow_old (w.drewN k) os hj
set_option maxRecDepth 100000 in
set_option maxHeartbeats 8000000 in
theorem mixed_none (a : Option Addr) (cap : Nat) (q : Int) (w : World) (h0 : mxF [] q = 0) :
    Calls Try.prog 32 #[.slice a 0 cap, .int .i64 q] w fun e w' => e = .returned (.tuple #[.agg #[.int .i64 0, .int .i64 0], .bool false, .int .i64 0]) ∧ Below w.heap.size w w' := by
  have hS : Rungs w (.slice a 0 cap) [] := .inl ⟨_, _, rfl, rfl⟩
  have hwf : ∀ y ∈ ([] : List Rung), y.nm.size ≤ maxLen := by simp
  obtain ⟨rs, hrs⟩ : ∃ rs : List Rung, rs = [] := ⟨_, rfl⟩
  rw [← hrs] at h0 hS hwf
  obtain ⟨n, hn⟩ : ∃ n, n = 0 := ⟨_, rfl⟩
  rw [← hn] at hS ⊢
  have hM0 := Mx.start w a n cap q
  have HC : Hid (∀ W, Below w.heap.size w W → Calls Try.prog 25 #[.slice a n cap] W fun e w' => e = .returned (.int .i64 (rgF rs)) ∧ Below W.heap.size W w') := Lib.hid (fun W hb => chkr_any _ rs W (hS.below hb (Nat.le_refl _)) hwf)
  have HF : Hid (fstF [rgF rs, fIf (!inB q 0 1000000000) 1] = mxF rs q) := Lib.hid rfl
  obtain ⟨F, hF⟩ : ∃ F, mxF rs q = F := ⟨_, rfl⟩
  obtain ⟨G, hG⟩ : ∃ G, rgF rs = G := ⟨_, rfl⟩
  rw [h0] at HF
  rw [hG] at HC HF
  clear hF hG hS hwf h0 hrs
  subst hn
  go_enter Try.func32, Try.ntmps32
  go_upto_region 1 with fail
  generalize ((w.alloc (.cells #[.slice a 0 cap] 22)).alloc (.cells #[.int .i64 q] 3)).alloc (.cells #[.int .i64 0, .int .i64 0] 49) = W at *
  go_cut [7] (fun s7 wx => s7 = .int .i64 0 ∧ Mx w wx (.slice a 0 cap) q)
  case first =>
    have hM := hM0
    have k2 := hM.b2; have k3 := hM.b3
    have hl := hM.tw.lt
    have l2 : w.heap.size < W.heap.size := by omega
    have l3 : w.heap.size + 1 < W.heap.size := by omega
    clear hM0 hl
    refine wp_region_noPanic ?_
    refine wp_region_held_drew (S := fun w' => Below W.heap.size W w') (by kernel_rfl) ?hS0 (fun hHeld => ?_)
    case hS0 => exact (Below.refl _ W).drew
    have hS : Below W.heap.size W W.drew := (Below.refl _ W).drew
    clear hHeld
    generalize W.drew = wd at *
    refine wpAnyH_take (i := 0) (v := ?_) rfl (by kernel_rfl) (by kernel_rfl) (by kernel_rfl) (fun _ _ _ h => h) (Or.inl ⟨by kernel_rfl, ?hy⟩) (by assumption) ?_
    case hy => (intro wq hSw; have q2 := (hSw.cell (p := ⟨w.heap.size, 0, none⟩) l2).trans k2; have q3 := (hSw.cell (p := ⟨w.heap.size + 1, 0, none⟩) l3).trans k3; go_simp; try (with_reducible rfl))
    try simp only [Act.put, List.setIfInBounds_toArray, List.set_cons_zero, List.set_cons_succ]
    refine wpAnyH_take (i := 2) (v := ?_) rfl (by kernel_rfl) (by kernel_rfl) (by kernel_rfl) (fun _ _ _ h => h) (Or.inl ⟨by kernel_rfl, ?hy⟩) (by assumption) ?_
    case hy => (intro wq hSw; have q2 := (hSw.cell (p := ⟨w.heap.size, 0, none⟩) l2).trans k2; have q3 := (hSw.cell (p := ⟨w.heap.size + 1, 0, none⟩) l3).trans k3; go_simp; try (with_reducible rfl))
    try simp only [Act.put, List.setIfInBounds_toArray, List.set_cons_zero, List.set_cons_succ]
    refine wpAnyH_ready (rs := [1]) (by kernel_rfl) (by simp) ?_
    refine AllReadyH.cons rfl (fun K hK => ?_) AllReadyH.nil
    go_simp
    refine (HC.out _ (hM.bel.trans (hS.mono hM.bel.size))).mono ?_; rintro e w3 ⟨rfl, b3⟩; have hS : Below W.heap.size W w3 := hS.trans (b3.mono hS.size)
    refine hK.out _ _ hS (fun hHeld => ?_)
    clear hK K hHeld
    try simp only [Act.put, List.setIfInBounds_toArray, List.set_cons_zero, List.set_cons_succ]
    refine wpAnyH_ready (rs := [3]) (by kernel_rfl) (by simp) ?_
    refine AllReadyH.cons rfl (fun K hK => ?_) AllReadyH.nil
    go_simp
    refine (rate0_any _ _).mono ?_; rintro e w' ⟨rfl, rfl⟩
    refine hK.out _ _ hS (fun hHeld => ?_)
    clear hK K hHeld
    try simp only [Act.put, List.setIfInBounds_toArray, List.set_cons_zero, List.set_cons_succ]
    refine wpAnyH_take (i := 4) (v := ?_) rfl (by kernel_rfl) (by kernel_rfl) (by kernel_rfl) (fun _ _ _ h => h) (Or.inl ⟨by kernel_rfl, ?hy⟩) (by assumption) ?_
    case hy => (intro wq hSw; have q2 := (hSw.cell (p := ⟨w.heap.size, 0, none⟩) l2).trans k2; have q3 := (hSw.cell (p := ⟨w.heap.size + 1, 0, none⟩) l3).trans k3; go_simp; try (with_reducible rfl))
    try simp only [Act.put, List.setIfInBounds_toArray, List.set_cons_zero, List.set_cons_succ]
    refine wpAnyH_ready (rs := [5]) (by kernel_rfl) (by simp) ?_
    refine AllReadyH.cons rfl (fun K hK => ?_) AllReadyH.nil
    go_simp
    refine (bfaultIf_any _ _ _).mono ?_; rintro e w' ⟨rfl, rfl⟩
    refine hK.out _ _ hS (fun hHeld => ?_)
    clear hK K hHeld
    try simp only [Act.put, List.setIfInBounds_toArray, List.set_cons_zero, List.set_cons_succ]
    refine wpAnyH_ready (rs := [6]) (by kernel_rfl) (by simp) ?_
    refine AllReadyH.cons rfl (fun K hK => ?_) AllReadyH.nil
    go_simp
    have hS : Below W.heap.size W (w3.alloc (.cells #[.int .i64 G, .int .i64 (fIf (!inB q 0 1000000000) 1)] 26)) := hS.alloc hS.size _
    refine hK.out _ _ hS (fun hHeld => ?_)
    clear hK K hHeld
    try simp only [Act.put, List.setIfInBounds_toArray, List.set_cons_zero, List.set_cons_succ]
    refine wpAnyH_ready (rs := [7]) (by kernel_rfl) (by simp) ?_
    refine AllReadyH.cons rfl (fun K hK => ?_) AllReadyH.nil
    go_simp
    refine (bfirst2 _ _ _).mono ?_; rintro e w' ⟨rfl, rfl⟩; rw [HF.out]
    refine hK.out _ _ hS (fun hHeld => ?_)
    clear hK K hHeld
    try simp only [Act.put, List.setIfInBounds_toArray, List.set_cons_zero, List.set_cons_succ]
    refine wpAnyH_take (i := 8) (v := ?_) rfl (by kernel_rfl) (by kernel_rfl) (by kernel_rfl) (fun _ _ _ h => h) (Or.inl ⟨by kernel_rfl, ?hy⟩) (by assumption) ?_
    case hy => (intro wq hSw; have q2 := (hSw.cell (p := ⟨w.heap.size, 0, none⟩) l2).trans k2; have q3 := (hSw.cell (p := ⟨w.heap.size + 1, 0, none⟩) l3).trans k3; go_simp; try (with_reducible rfl))
    try simp only [Act.put, List.setIfInBounds_toArray, List.set_cons_zero, List.set_cons_succ]
    refine wpAnyH_done (by kernel_rfl) ?_ _
    refine NoPanic.normal ?_
    try go_simp
    go_wp2_with fail
    go_meet
    exact ⟨rfl, hM.below hS⟩
  case rest =>
    obtain ⟨rfl, hM⟩ := hcut
    clear hM0 HC HF
    have k2 := hM.b2
    go_wp2_with fail
    refine (hull_none a cap _).mono ?_; rintro e w' ⟨rfl, rfl⟩
    have k8 : (wc.alloc (.cells #[.slice none 0 0] 40)).cell? ⟨wc.heap.size, 0, none⟩ = some (.slice none 0 0) := by rw [World.cell?_alloc_at _ _ _ _ (by simp)]; rfl
    have hM := hM.below ((Below.refl _ wc).alloc (Nat.le_refl _) (.cells #[.slice none 0 0] 40))
    clear k2
    go_upto_region 5 with fail
    generalize wc.alloc (.cells #[.slice none 0 0] 40) = W5 at *
    generalize wc.heap.size = X8 at *
    go_wp2_with fail
    refine (search_zero _ _ _ _).mono ?_; rintro e W6 ⟨rfl, b6⟩
    have hM := hM.below b6
    have c0 := hM.tw.c0; have c1 := hM.tw.c1; have f0 := hM.tw.f0; have f1 := hM.tw.f1
    have hbl := hM.bel
    have hl6 := hM.tw.lt
    go_wp2_with fail
    refine bodyPost_ret (by simp [results, Try.results32, go_sem, c0, c1]; try rfl) rfl ?_
    exact ⟨rfl, (hbl.setCell (p := ⟨w.heap.size + 2, 0, none⟩) (Nat.le_add_right _ _) _).setCell (p := ⟨w.heap.size + 2, 1, none⟩) (Nat.le_add_right _ _) _⟩

end Go.Proofs.Ytfjgpafcdkodmaa
