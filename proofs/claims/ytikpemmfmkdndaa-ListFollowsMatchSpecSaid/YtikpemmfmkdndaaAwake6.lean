/- The law's awake (chapter 6); Length (program). -/
import Derived.Test.YtikpemmfmkdndaaAt
namespace Go.Proofs.Ytikpemmfmkdndaa
set_option linter.unusedVariables false
set_option linter.unusedSimpArgs false
open Go.RowKit Go.Shelf Go.Deep

set_option maxRecDepth 100000 in
set_option maxHeartbeats 8000000 in
theorem Length_walk (tg fi bk : Int) (a : Option Addr) (n cap : Nat) (en : Bool) (es : List Ent) (Us : Nat → Value) (w : World) (hE : EntsU w (.slice a n cap) es Us) (hn : es.length = n) (hwf : ∀ y ∈ es, EntWf y) :
    Calls Try.prog 26 #[.agg #[.int .i64 tg, .int .i64 fi, .int .i64 bk, .slice a n cap, .bool en]] w fun e w' => e = .returned (.tuple #[.int .i64 (if lstF ⟨tg, fi, bk, es, en⟩ = 0 then lenTo es n else 0), .int .i64 (lstF ⟨tg, fi, bk, es, en⟩)]) ∧ Below w.heap.size w w' := by
  have FX := LBox.new w tg fi bk (.slice a n cap) en 24
  have b1 : Below w.heap.size w (w.alloc (.cells #[.int .i64 tg, .int .i64 fi, .int .i64 bk, .slice a n cap, .bool en] 24)) := (Below.refl _ w).alloc (Nat.le_refl _) _
  have HC : Hid (∀ W, Below w.heap.size w W → Calls Try.prog 39 #[.agg #[.int .i64 tg, .int .i64 fi, .int .i64 bk, .slice a n cap, .bool en]] W fun r w' => r = .returned (.int .i64 (lstF ⟨tg, fi, bk, es, en⟩)) ∧ Below W.heap.size W w') := Lib.hid (fun W hb => chkL_walk tg fi bk _ en es Us W (hE.below hb (Nat.le_refl _)) hwf)
  have HLN : Hid (lstF ⟨tg, fi, bk, es, en⟩ = 0 → ∀ W, Below w.heap.size w W → Calls Try.prog 45 #[.slice a n cap] W fun e w' => e = .returned (.int .i64 (lenTo es n)) ∧ Below W.heap.size W w') := Lib.hid (fun h0 W hb => lengthOf_any a n cap es Us W (hE.below hb (Nat.le_refl _)) (by have := ((lstF_zero _).1 h0).lim; rw [← hn]; exact this))
  obtain ⟨LF, hLF⟩ : ∃ LF, lstF ⟨tg, fi, bk, es, en⟩ = LF := ⟨_, rfl⟩
  obtain ⟨LN, hLN⟩ : ∃ LN, lenTo es n = LN := ⟨_, rfl⟩
  rw [hLF] at HC
  rw [hLF, hLN] at HLN
  rw [hLF, hLN]
  obtain ⟨RL, hRL⟩ : ∃ RL, (if LF = 0 then LN else 0) = RL := ⟨_, rfl⟩
  rw [hRL]
  have HR1 : Hid (LF = 0 → RL = LN) := Lib.hid (fun h => by rw [← hRL, if_pos h])
  have HR2 : Hid (LF ≠ 0 → RL = 0) := Lib.hid (fun h => by rw [← hRL, if_neg h])
  clear hE hn hwf hLF hLN hRL
  go_enter Try.func26, Try.ntmps26
  go_upto_region 1 with fail
  generalize w.alloc (.cells #[.int .i64 tg, .int .i64 fi, .int .i64 bk, .slice a n cap, .bool en] 24) = W at *
  have k0 := FX.c0; have k1 := FX.c1; have k2 := FX.c2; have k3 := FX.c3; have k4 := FX.c4; have kl := FX.lt
  go_wp2_with fail
  refine (HC.out _ b1).mono ?_; rintro e w1 ⟨rfl, b2⟩
  have FX := FX.below b2 FX.lt
  have b1 := b1.trans (b2.mono b1.size)
  clear k0 k1 k2 k3 k4 kl b2 HC
  by_cases hz : LF = 0
  rotate_left
  · have hne : (LF == 0) = false := by simp; exact hz
    have hne2 : (LF != 0) = true := by simp; exact hz
    have e1 := HR2.out hz
    subst e1
    clear hz
    go_wp2_with fail
    go_ret2
    exact ⟨rfl, b1⟩
  · have HLW := Lib.hid (HLN.out hz)
    have e1 := HR1.out hz
    subst hz e1
    have k3 := FX.c3; have kl := FX.lt
    go_wp2_with fail
    refine (HLW.out _ b1).mono ?_; rintro e w3 ⟨rfl, b3⟩
    go_wp2_with fail
    go_ret2
    exact ⟨rfl, b1.trans (b3.mono b1.size)⟩
/-- The entry of the law's awake. -/
def entW : Ent := ⟨⟨#[97]⟩, 7, false, -1, ⟨#[]⟩, false, []⟩
theorem entW_wf : ∀ y ∈ [entW], EntWf y := by
  intro y hy
  obtain rfl : y = entW := by simpa using hy
  exact ⟨by decide, by decide, by decide, by decide, by intro z hz; simp [entW] at hz⟩
theorem lstW_ok : lstF ⟨4, 0, 0, [entW], false⟩ = 0 := by decide +kernel
theorem entW_in (w : World) (t : TypeId) : EntsU (w.alloc (.cells #[.string ⟨#[97]⟩, .int .i64 7, .bool false, .int .i64 (-1), .string ⟨#[]⟩, .bool false, .slice none 0 0] t)) (.slice (some ⟨w.heap.size, 0, none⟩) 1 1) [entW] (fun _ => .slice none 0 0) := by
  constructor
  · refine .inr ⟨w.heap.size, 0, 1, rfl, by decide, by simp, by decide, by decide, fun j hj c hc => ?_⟩
    have hj0 : j = 0 := by simp at hj; omega
    subst hj0
    rw [World.cell?_alloc_at _ _ _ _ (by simp <;> omega)]
    have : c = 0 ∨ c = 1 ∨ c = 2 ∨ c = 3 ∨ c = 4 ∨ c = 5 ∨ c = 6 := by omega
    rcases this with rfl | rfl | rfl | rfl | rfl | rfl | rfl <;> rfl
  · intro j hj
    have hj0 : j = 0 := by simp at hj; omega
    subst hj0
    exact .inl ⟨none, 0, rfl, rfl⟩
theorem lenW : lenTo [entW] 1 = 7 := by decide +kernel
set_option maxRecDepth 100000 in
set_option maxHeartbeats 8000000 in
theorem awake6_any (w : World) :
    Calls Try.prog 16 #[] w fun e w' => e = .returned (.bool true) ∧ Below w.heap.size w w' := by
  have b1 : Below w.heap.size w (w.alloc (.cells #[.string ⟨#[97]⟩, .int .i64 7, .bool false, .int .i64 (-1), .string ⟨#[]⟩, .bool false, .slice none 0 0] 32)) := (Below.refl _ w).alloc (Nat.le_refl _) _
  have HEN := Lib.hid (entW_in w 32)
  have HL : Hid (∀ W, EntsU W (.slice (some ⟨w.heap.size, 0, none⟩) 1 1) [entW] (fun _ => .slice none 0 0) → Calls Try.prog 26 #[.agg #[.int .i64 4, .int .i64 0, .int .i64 0, .slice (some ⟨w.heap.size, 0, none⟩) 1 1, .bool false]] W fun e w' => e = .returned (.tuple #[.int .i64 7, .int .i64 0]) ∧ Below W.heap.size W w') := Lib.hid (fun W h => by
    have := Length_walk 4 0 0 (some ⟨w.heap.size, 0, none⟩) 1 1 false [entW] (fun _ => .slice none 0 0) W h rfl entW_wf
    rw [lstW_ok, if_pos rfl, lenW] at this
    exact this)
  go_enter Try.func16, Try.ntmps16
  go_wp2_with fail
  refine (HL.out _ HEN.out).mono ?_; rintro e w1 ⟨rfl, b2⟩
  go_wp2_with fail
  go_ret
  exact ⟨rfl, b1.trans (b2.mono b1.size)⟩

end Go.Proofs.Ytikpemmfmkdndaa
