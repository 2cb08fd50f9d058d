/- ListAtsMatchSpec: whatever the input, the law returns true: the walk. -/
import Derived.Test.YtikpemmfmkdndaaRAt
import Derived.Test.YtikpemmfmkdndaaAwake6
namespace Go.Proofs.Ytikpemmfmkdndaa
set_option linter.unusedVariables false
set_option linter.unusedSimpArgs false
open Go.RowKit Go.Shelf Go.Deep

theorem natlit_beq (a : Int) : (a == a) = true := by simp
set_option maxRecDepth 100000 in
set_option maxHeartbeats 8000000 in
theorem atslaw (tg fi bk : Int) (a : Option Addr) (n cap : Nat) (en : Bool) (es : List Ent) (Us : Nat → Value) (m b : Int) (w : World) (hE : EntsU w (.slice a n cap) es Us) (hn : es.length = n) (hwf : ∀ y ∈ es, EntWf y) (hm : m ≤ 9223372036854775807) :
    Calls Try.prog 3 #[.agg #[.int .i64 tg, .int .i64 fi, .int .i64 bk, .slice a n cap, .bool en], .int .i64 m, .int .i64 b] w fun e w' => e = .returned (.bool true) ∧ Below w.heap.size w w' := by
  have FX := LBox.new w tg fi bk (.slice a n cap) en 24
  have b1 : Below w.heap.size w (w.alloc (.cells #[.int .i64 tg, .int .i64 fi, .int .i64 bk, .slice a n cap, .bool en] 24)) := (Below.refl _ w).alloc (Nat.le_refl _) _
  have H1 : Hid (∀ W, Below w.heap.size w W → Calls Try.prog 12 #[.agg #[.int .i64 tg, .int .i64 fi, .int .i64 bk, .slice a n cap, .bool en], .int .i64 m] W fun e w' => e = .returned (.tuple #[.int .i64 (atP ⟨tg, fi, bk, es, en⟩ m), .int .i64 (atR ⟨tg, fi, bk, es, en⟩ m), .int .i64 (atF ⟨tg, fi, bk, es, en⟩ m)]) ∧ Below W.heap.size W w') := Lib.hid (fun W hb => At_walk tg fi bk a n cap en es Us m W (hE.below hb (Nat.le_refl _)) hn hwf hm)
  have H2 : Hid (∀ W, Below w.heap.size w W → Calls Try.prog 13 #[.agg #[.int .i64 tg, .int .i64 fi, .int .i64 bk, .slice a n cap, .bool en], .int .i64 m] W fun e w' => e = .returned (.tuple #[.int .i64 (atP ⟨tg, fi, bk, es, en⟩ m), .int .i64 (atR ⟨tg, fi, bk, es, en⟩ m), .int .i64 (atF ⟨tg, fi, bk, es, en⟩ m)]) ∧ Below W.heap.size W w') := Lib.hid (fun W hb => rAt_walk tg fi bk a n cap en es Us m W (hE.below hb (Nat.le_refl _)) hn hwf)
  have H3 : Hid (∀ W, Below w.heap.size w W → Calls Try.prog 14 #[.agg #[.int .i64 tg, .int .i64 fi, .int .i64 bk, .slice a n cap, .bool en], .int .i64 b] W fun e w' => e = .returned (.tuple #[.int .i64 (saP ⟨tg, fi, bk, es, en⟩ b), .int .i64 (saR ⟨tg, fi, bk, es, en⟩ b), .int .i64 (saF ⟨tg, fi, bk, es, en⟩ b)]) ∧ Below W.heap.size W w') := Lib.hid (fun W hb => StartAt_walk tg fi bk a n cap en es Us b W (hE.below hb (Nat.le_refl _)) hn hwf)
  have H4 : Hid (∀ W, Below w.heap.size w W → Calls Try.prog 15 #[.agg #[.int .i64 tg, .int .i64 fi, .int .i64 bk, .slice a n cap, .bool en], .int .i64 b] W fun e w' => e = .returned (.tuple #[.int .i64 (saP ⟨tg, fi, bk, es, en⟩ b), .int .i64 (saR ⟨tg, fi, bk, es, en⟩ b), .int .i64 (saF ⟨tg, fi, bk, es, en⟩ b)]) ∧ Below W.heap.size W w') := Lib.hid (fun W hb => rStartAt_walk tg fi bk a n cap en es Us b W (hE.below hb (Nat.le_refl _)) hn hwf)
  obtain ⟨AF, hAF⟩ : ∃ AF, atF ⟨tg, fi, bk, es, en⟩ m = AF := ⟨_, rfl⟩
  obtain ⟨AP, hAP⟩ : ∃ AP, atP ⟨tg, fi, bk, es, en⟩ m = AP := ⟨_, rfl⟩
  obtain ⟨AR, hAR⟩ : ∃ AR, atR ⟨tg, fi, bk, es, en⟩ m = AR := ⟨_, rfl⟩
  obtain ⟨SF, hSF⟩ : ∃ SF, saF ⟨tg, fi, bk, es, en⟩ b = SF := ⟨_, rfl⟩
  obtain ⟨SP, hSP⟩ : ∃ SP, saP ⟨tg, fi, bk, es, en⟩ b = SP := ⟨_, rfl⟩
  obtain ⟨SR, hSR⟩ : ∃ SR, saR ⟨tg, fi, bk, es, en⟩ b = SR := ⟨_, rfl⟩
  rw [hAF, hAP, hAR] at H1 H2
  rw [hSF, hSP, hSR] at H3 H4
  have z1 := natlit_beq AF; have z2 := natlit_beq AP; have z3 := natlit_beq AR; have z4 := natlit_beq SF; have z5 := natlit_beq SP; have z6 := natlit_beq SR
  clear hE hn hwf hm hAF hAP hAR hSF hSP hSR
  go_enter Try.func3, Try.ntmps3
  go_upto_region 1 with fail
  generalize w.alloc (.cells #[.int .i64 tg, .int .i64 fi, .int .i64 bk, .slice a n cap, .bool en] 24) = W at *
  have k0 := FX.c0; have k1 := FX.c1; have k2 := FX.c2; have k3 := FX.c3; have k4 := FX.c4; have kl := FX.lt
  go_wp2_with fail
  refine (H1.out _ b1).mono ?_; rintro e w1 ⟨rfl, b2⟩
  have FX := FX.below b2 FX.lt
  have b1 := b1.trans (b2.mono b1.size)
  clear k0 k1 k2 k3 k4 kl b2 H1
  have k0 := FX.c0; have k1 := FX.c1; have k2 := FX.c2; have k3 := FX.c3; have k4 := FX.c4; have kl := FX.lt
  go_wp2_with fail
  refine (H2.out _ b1).mono ?_; rintro e w2 ⟨rfl, b2⟩
  have FX := FX.below b2 FX.lt
  have b1 := b1.trans (b2.mono b1.size)
  clear k0 k1 k2 k3 k4 kl b2 H2
  have k0 := FX.c0; have k1 := FX.c1; have k2 := FX.c2; have k3 := FX.c3; have k4 := FX.c4; have kl := FX.lt
  go_wp2_with fail
  refine (H3.out _ b1).mono ?_; rintro e w3 ⟨rfl, b2⟩
  have FX := FX.below b2 FX.lt
  have b1 := b1.trans (b2.mono b1.size)
  clear k0 k1 k2 k3 k4 kl b2 H3
  have k0 := FX.c0; have k1 := FX.c1; have k2 := FX.c2; have k3 := FX.c3; have k4 := FX.c4; have kl := FX.lt
  go_wp2_with fail
  refine (H4.out _ b1).mono ?_; rintro e w4 ⟨rfl, b2⟩
  have FX := FX.below b2 FX.lt
  have b1 := b1.trans (b2.mono b1.size)
  clear k0 k1 k2 k3 k4 kl b2 H4
  go_wp2_with fail
  refine (awake6_any _).mono ?_; rintro e w5 ⟨rfl, b5⟩
  go_wp2_with fail
  go_ret
  exact ⟨rfl, b1.trans (b5.mono b1.size)⟩

end Go.Proofs.Ytikpemmfmkdndaa
