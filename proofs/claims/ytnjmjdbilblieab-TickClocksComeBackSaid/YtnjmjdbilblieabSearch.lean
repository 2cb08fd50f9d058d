/- sort.Search at this program: the library's contract laid at these numbers, and tick.Wall. -/
import Derived.Test.YtnjmjdbilblieabKept
import Derived.Shelf.SlSorted.Search
namespace Go.Proofs.Ytnjmjdbilblieab
set_option linter.unusedVariables false
set_option linter.unusedSimpArgs false
open Go.RowKit Go.Shelf Go.Sort

def searchRen : Go.Shelf.Ren := ⟨fun | 16 => 23 | n => n, fun | 3 => 3 | 4 => 4 | 35 => 47 | 38 => 55 | n => n, fun | n => n⟩
theorem searchLays : Go.Proofs.SlLaysO.n16 Try.prog searchRen := {
  mixed := by kernel_rfl
  f16 := Try.func23.trans (congrArg some (by kernel_rfl))
  t3 := Try.underlying3
  a3 := Try.isAgg3
  z3 := Try.sizeOf3
  v3 := Try.zeroValue3
  t4 := Try.underlying4
  a4 := Try.isAgg4
  z4 := Try.sizeOf4
  v4 := Try.zeroValue4
  t35 := Try.underlying47
  a35 := Try.isAgg47
  z35 := Try.sizeOf47
  v35 := Try.zeroValue47
  t38 := Try.underlying55
  a38 := Try.isAgg55
  z38 := Try.sizeOf55
  v38 := Try.zeroValue55 }

set_option maxHeartbeats 400000 in
theorem later_any (b off n cap : Nat) (ps : List Pr) (B1 B2 : Nat) (t : Int) (i : Nat) (w : World) (hi : i < n) (hn : n ≤ 200)
    (h1 : w.cell? ⟨B1, 0, none⟩ = some (.slice (some ⟨b, off, none⟩) n cap)) (h2 : w.cell? ⟨B2, 0, none⟩ = some (.int .i64 t)) (hc : w.cell? ⟨b, off + i * 2, none⟩ = some (.int .i64 (ps.getD i (0, 0)).1)) :
    Calls Try.prog 24 #[.int .i64 i, .pointer (some ⟨B1, 0, none⟩), .pointer (some ⟨B2, 0, none⟩)] w fun e w' => e = .returned (.bool (decide (t < (ps.getD i (0, 0)).1))) ∧ ∃ q, w' = w.drewN q := by
  obtain ⟨x, hx⟩ : ∃ x, (ps.getD i (0, 0)).1 = x := ⟨_, rfl⟩
  rw [hx] at hc ⊢
  have i0 : (0 : Int) ≤ (i : Int) := Int.natCast_nonneg _
  have i1 : (i : Int) < (n : Int) := by omega
  clear hx
  go_enter Try.func24, Try.ntmps24
  go_wp2_with fail
  go_quiet (fail)
  go_wp2_with fail
  go_ret
  exact ⟨rfl, _, rfl⟩

/-- How many anchors are not later than t. -/
def notLater (ps : List Pr) (n : Nat) (t : Int) : Nat := (List.range n).countP (fun i => !decide (t < (ps.getD i (0, 0)).1))

theorem rising_le (ps : List Pr) (n : Nat) (h : ∀ j, 0 < j → j < n → (ps.getD (j - 1) (0, 0)).1 < (ps.getD j (0, 0)).1) : ∀ a b, a ≤ b → b < n → (ps.getD a (0, 0)).1 ≤ (ps.getD b (0, 0)).1 := by
  intro a b hab
  induction b with
  | zero => intro _; have : a = 0 := by omega
            subst this; exact Int.le_refl _
  | succ b ih =>
    intro hb
    by_cases hx : a = b + 1
    · subst hx; exact Int.le_refl _
    · have := ih (by omega) (by omega)
      have := h (b + 1) (by omega) hb
      rw [Nat.add_sub_cancel] at this
      omega

theorem grow_none (w : World) : grow w #[] = w := by simp [grow]

theorem search_any (b off n cap : Nat) (ps : List Pr) (B1 B2 : Nat) (t : Int) (w : World) (hn : n ≤ 200) (hb : b < w.heap.size) (hb1 : B1 < w.heap.size) (hb2 : B2 < w.heap.size)
    (h1 : w.cell? ⟨B1, 0, none⟩ = some (.slice (some ⟨b, off, none⟩) n cap)) (h2 : w.cell? ⟨B2, 0, none⟩ = some (.int .i64 t)) (hc : ∀ i, i < n → w.cell? ⟨b, off + i * 2, none⟩ = some (.int .i64 (ps.getD i (0, 0)).1))
    (hinc : ∀ j, 0 < j → j < n → (ps.getD (j - 1) (0, 0)).1 < (ps.getD j (0, 0)).1) :
    Calls Try.prog 23 #[.int .i64 n, .func (.func 24) #[] #[.pointer (some ⟨B1, 0, none⟩), .pointer (some ⟨B2, 0, none⟩)]] w fun e w' => e = .returned (.int .i64 (notLater ps n t : Nat)) ∧ Below w.heap.size w w' := by
  refine (Go.Proofs.Any.sort_Search searchLays 24 #[.pointer (some ⟨B1, 0, none⟩), .pointer (some ⟨B2, 0, none⟩)] n (fun i => decide (t < (ps.getD i (0, 0)).1)) w (enters_of Try.func24 (by kernel_rfl) rfl) (by omega) ?_ ?_).mono ?_
  · intro m os i hi
    refine (later_any b off n cap ps B1 B2 t i _ hi hn (cell_grown hb1 h1 m os) (cell_grown hb2 h2 m os) (cell_grown hb (hc i hi) m os)).mono ?_
    rintro e w' ⟨rfl, q, rfl⟩
    exact ⟨rfl, q, #[], by rw [grow_none]⟩
  · intro a c hac hcn hp
    simp only [decide_eq_true_eq] at hp ⊢
    have := rising_le ps n hinc a c hac hcn
    omega
  · rintro e w' ⟨rfl, q, os, rfl⟩
    refine ⟨rfl, ⟨rfl, rfl, rfl, by simp [grow], fun k hk => ?_⟩⟩
    exact heap_grow_old (w.drewN q) os hk

theorem notLater_le (ps : List Pr) (n : Nat) (t : Int) : notLater ps n t ≤ n := by
  have := List.countP_le_length (p := fun i => !decide (t < (ps.getD i (0, 0)).1)) (l := List.range n)
  simpa [notLater] using this

/-- The anchor that a tick goes by. -/
def byWhich (ps : List Pr) (n : Nat) (t : Int) : Pr := ps.getD (notLater ps n t - 1) (0, 0)

set_option maxHeartbeats 4000000 in
theorem wall_walk (b off n cap : Nat) (ps : List Pr) (scale t : Int) (w : World) (hz : ps.length = n) (hn0 : 0 < n) (hn : n ≤ 200) (hlt : b < w.heap.size) (hcl : n ≤ cap) (hcm : cap ≤ maxLen) (hs : sclF ps scale = 0) (ht : isTimeN t)
    (hv : ∀ j, j < n → isTimeN (ps.getD j (0, 0)).1 ∧ isMilliN (ps.getD j (0, 0)).2) (hsc : isScaleN scale) (hinc : ∀ j, 0 < j → j < n → (ps.getD (j - 1) (0, 0)).1 < (ps.getD j (0, 0)).1)
    (hc : ∀ j, j < n → w.cell? ⟨b, off + j * 2, none⟩ = some (.int .i64 (ps.getD j (0, 0)).1) ∧ w.cell? ⟨b, off + j * 2 + 1, none⟩ = some (.int .i64 (ps.getD j (0, 0)).2)) :
    Calls Try.prog 11 #[.slice (some ⟨b, off, none⟩) n cap, .int .i64 scale, .int .i64 t] w fun e w' => e = .returned (.tuple #[.int .i64 (if isMilliN (milQ (byWhich ps n t) scale t) then milQ (byWhich ps n t) scale t else 0), .int .i64 (if isMilliN (milQ (byWhich ps n t) scale t) then 0 else 1)]) ∧ Below w.heap.size w w' := by
  have hP : Pairs w (.slice (some ⟨b, off, none⟩) n cap) ps := .inr ⟨b, off, cap, by rw [hz], fun h => by subst h; simp at hz; omega, hlt, by omega, hcm, by rw [hz]; exact hc⟩
  have hP2 := (hP.below ((Below.refl w.heap.size w).alloc (Nat.le_refl _) (.cells #[.slice (some ⟨b, off, none⟩) n cap] 29)) (Nat.le_refl _)).below ((Below.refl _ _).alloc (Nat.le_refl _) (.cells #[.int .i64 t] 3)) (Nat.le_refl _)
  obtain ⟨D, hD⟩ : ∃ D, byWhich ps n t = D := ⟨_, rfl⟩
  obtain ⟨M, hM⟩ : ∃ M, milQ D scale t = M := ⟨_, rfl⟩
  rw [hD, hM]
  obtain ⟨V, hV⟩ : ∃ V, (if isMilliN M then M else 0) = V := ⟨_, rfl⟩
  obtain ⟨F, hF⟩ : ∃ F, (if isMilliN M then (0 : Int) else 1) = F := ⟨_, rfl⟩
  rw [hV, hF]
  have HVV := Lib.hid hV; have HFF := Lib.hid hF
  clear hV hF
  obtain ⟨c, hcnt⟩ : ∃ c, notLater ps n t = c := ⟨_, rfl⟩
  have hcn := notLater_le ps n t
  rw [hcnt] at hcn
  have hDv : isTimeN D.1 ∧ isMilliN D.2 := by rw [← hD]; exact hv _ (by rw [hcnt]; omega)
  have hDc : ps.getD (c - 1) (0, 0) = D := by rw [← hD, byWhich, hcnt]
  obtain ⟨dx, dy⟩ := D
  have HP2 := Lib.hid hP2; have HS := Lib.hid hs; have HT := Lib.hid ht; have HDV := Lib.hid hDv; have HSC := Lib.hid hsc; have HINC := Lib.hid hinc; have HC := Lib.hid hc; have HM := Lib.hid hM; have HCNT := Lib.hid hcnt; have HDC := Lib.hid hDc; have HZ := Lib.hid hz
  clear hP hP2 hs ht hDv hsc hinc hc hM hcnt hDc hz hD hv
  go_enter Try.func11, Try.ntmps11
  go_wp2_with fail
  refine (scaled_any _ ps _ _ HP2.out).mono ?_; rintro e w1 ⟨rfl, b1⟩
  rw [HS.out]
  have s1 := b1.size
  simp only [World.size_alloc] at s1
  have e1 : w1.cell? ⟨w.heap.size, 0, none⟩ = some (.slice (some ⟨b, off, none⟩) n cap) := by
    rw [b1.cell (p := ⟨w.heap.size, 0, none⟩) (by simp; omega), World.cell?_alloc_past _ _ _ (by simp)]; simp
  have e2 : w1.cell? ⟨w.heap.size + 1, 0, none⟩ = some (.int .i64 t) := by
    rw [b1.cell (p := ⟨w.heap.size + 1, 0, none⟩) (by simp), World.cell?_alloc_at _ _ _ _ (by simp)]; rfl
  have bel : Below w.heap.size w w1 := (((Below.refl _ _).alloc (Nat.le_refl _) _).alloc (by simp) _).trans (b1.mono (by simp; omega))
  have HC1 : Hid (∀ j, j < n → w1.cell? ⟨b, off + j * 2, none⟩ = some (.int .i64 (ps.getD j (0, 0)).1) ∧ w1.cell? ⟨b, off + j * 2 + 1, none⟩ = some (.int .i64 (ps.getD j (0, 0)).2)) := Lib.hid (fun j hj => by
    rw [bel.cell (p := ⟨b, off + j * 2, none⟩) hlt, bel.cell (p := ⟨b, off + j * 2 + 1, none⟩) hlt]; exact HC.out j hj)
  clear b1
  go_wp2_with fail
  refine (isTime_yes _ _ HT.out).mono ?_; rintro e w' ⟨rfl, rfl⟩
  go_wp2_with fail
  refine (search_any b off n cap ps _ _ t _ hn (by omega) (by omega) (by omega) e1 e2 (fun i hi => (HC1.out i hi).1) HINC.out).mono ?_
  rintro e w2 ⟨rfl, b2⟩
  rw [HCNT.out]
  have z0 : w.heap.size < w1.heap.size := by omega
  have z1 : w.heap.size + 1 < w1.heap.size := by omega
  have z2 : b < w1.heap.size := by omega
  have z3 : c - 1 < n := by omega
  have f1 : w2.cell? ⟨w.heap.size, 0, none⟩ = some (.slice (some ⟨b, off, none⟩) n cap) := by rw [b2.cell (p := ⟨w.heap.size, 0, none⟩) z0]; exact e1
  have f2 : w2.cell? ⟨w.heap.size + 1, 0, none⟩ = some (.int .i64 t) := by rw [b2.cell (p := ⟨w.heap.size + 1, 0, none⟩) z1]; exact e2
  have f3 : w2.cell? ⟨b, off + (c - 1) * 2, none⟩ = some (.int .i64 dx) := by
    rw [b2.cell (p := ⟨b, off + (c - 1) * 2, none⟩) z2, (HC1.out (c - 1) z3).1, HDC.out]
  have f4 : w2.cell? ⟨b, off + (c - 1) * 2 + 1, none⟩ = some (.int .i64 dy) := by
    rw [b2.cell (p := ⟨b, off + (c - 1) * 2 + 1, none⟩) z2, (HC1.out (c - 1) z3).2, HDC.out]
  have bel2 : Below w.heap.size w w2 := bel.trans (b2.mono bel.size)
  have s2 := b2.size
  have hwr : IntKind.i64.wrap ((c : Int) - 1) = (c : Int) - 1 := IntWalk.i64_in _ ⟨by omega, by omega⟩
  have hmx : max ((c : Int) - 1) 0 = ((c - 1 : Nat) : Int) := by omega
  have i0 : (0 : Int) ≤ ((c - 1 : Nat) : Int) := Int.natCast_nonneg _
  have i1 : ((c - 1 : Nat) : Int) < (n : Int) := by omega
  have hMd : dy + portQ (t - dx) 1000 scale 1 = M := HM.out
  have HMD := Lib.hid hMd
  have hcap63 : cap ≤ 9223372036854775807 := by unfold maxLen at hcm; omega
  clear e1 e2 bel b2 hMd
  go_upto_region 7 with fail
  go_cut [10] (fun s10 wx => s10 = .int .i64 M ∧ Below w2.heap.size w2 wx)
  case first =>
    go_region_held3 (fun w' => w'.cell? ⟨w.heap.size, 0, none⟩ = some (.slice (some ⟨b, off, none⟩) n cap) ∧ w'.cell? ⟨w.heap.size + 1, 0, none⟩ = some (.int .i64 t) ∧ w'.cell? ⟨b, off + (c - 1) * 2, none⟩ = some (.int .i64 dx) ∧ w'.cell? ⟨b, off + (c - 1) * 2 + 1, none⟩ = some (.int .i64 dy))
      (first | go_keep | (refine ⟨?_, ?_, ?_, ?_⟩ <;> (rw [b3.cell (by simp; omega)]; simp [*])))
      (first
        | (go_at_call 25; refine (milliAt_any _ _ _ _ _ HDV.out.1 HDV.out.2 HSC.out HT.out).mono ?_; rintro e w3 ⟨rfl, b3⟩))
    all_goals
      go_wp2_with fail
      go_meet
      rw [HMD.out]
      exact ⟨rfl, by repeat (first | exact b3 | exact ((Below.refl _ _).drew).trans b3 | exact (Below.refl _ _).trans b3 | apply below_drewN | apply Below.drew)⟩
  case rest =>
    obtain ⟨rfl, bc⟩ := hcut
    have bel3 : Below w.heap.size w wc := bel2.trans (bc.mono bel2.size)
    clear f1 f2 f3 f4 bel2 bc hwr hmx
    by_cases hm : isMilliN M
    · have r1 := HVV.out; have r2 := HFF.out
      rw [if_pos hm] at r1 r2
      have R1 := Lib.hid r1; have R2 := Lib.hid r2
      clear r1 r2
      obtain ⟨q0, q1⟩ := hm
      go_wp2_with fail
      refine (within_yes _ _ _ _ (by omega) (by omega)).mono ?_; rintro e w' ⟨rfl, rfl⟩
      go_wp2_with fail
      go_ret2
      exact ⟨ret2_ii R1.out R2.out, bel3⟩
    · have r1 := HVV.out; have r2 := HFF.out
      rw [if_neg hm] at r1 r2
      have R1 := Lib.hid r1; have R2 := Lib.hid r2
      clear r1 r2
      have hm' : M < 0 ∨ 253402300799999 < M := by unfold isMilliN at hm; omega
      have HMM := Lib.hid hm'
      clear hm hm'
      go_wp2_with fail
      refine (within_no _ _ _ _ HMM.out).mono ?_; rintro e w' ⟨rfl, rfl⟩
      go_wp2_with fail
      go_ret2
      exact ⟨ret2_ii R1.out R2.out, bel3⟩

end Go.Proofs.Ytnjmjdbilblieab
