/- The reference's common: the greatest common divisor. -/
import Derived.Test.YtppaklifacadpaaGreatDoorDivide
import Derived.Deep.LoopGhost
namespace Go.Proofs.YtppaklifacadpaaGreatDoor
set_option linter.unusedVariables false
set_option linter.unusedSimpArgs false
open Go.RowKit

theorem gcd_step (a b : Int) (ha : 0 ≤ a) (hb : 0 ≤ b) : Int.gcd b (a % b) = Int.gcd a b := by
  obtain ⟨m, rfl⟩ := Int.eq_ofNat_of_zero_le ha
  obtain ⟨n, rfl⟩ := Int.eq_ofNat_of_zero_le hb
  rw [← Int.natCast_emod]
  show Nat.gcd n (m % n) = Nat.gcd m n
  rw [Nat.gcd_comm n (m % n), ← Nat.gcd_rec, Nat.gcd_comm]

set_option maxHeartbeats 2000000 in
theorem common_any (u v : Value) (xs bs : List Int) (w : World) (hu : Lim w u xs) (hv : Lim w v bs) (cx : Canon xs) (cb : Canon bs) (hn : xs.length ≤ 500) (hm : bs.length ≤ 500) :
    Calls Tryz.prog 52 #[u, v] w fun e w' => (∃ r, e = .returned r ∧ ∃ zs, Lim w' r zs ∧ Canon zs ∧ lval zs = (Int.gcd (lval xs) (lval bs) : Int) ∧ zs.length ≤ 500) ∧ Below w.heap.size w w' := by
  obtain ⟨G, hG⟩ : ∃ G, Int.gcd (lval xs) (lval bs) = G := ⟨_, rfl⟩
  rw [hG]
  have HU := Lib.hid hu; have HV := Lib.hid hv; have CX := Lib.hid cx; have CB := Lib.hid cb; have HN := Lib.hid hn; have HM := Lib.hid hm; have HG := Lib.hid hG
  clear hu hv cx cb hn hm hG
  go_enter Tryz.func52, Tryz.ntmps52
  go_wp2_with fail
  go_loopg [0, 1] ((lval bs).toNat) (fun k p q wr => ∃ ys bs : List Int, Hid (Lim wr p ys) ∧ Hid (Lim wr q bs) ∧ Hid (Canon ys) ∧ Hid (Canon bs) ∧ Hid (ys.length ≤ 500) ∧ Hid (bs.length ≤ 500) ∧ Hid (Int.gcd (lval ys) (lval bs) = G) ∧ Hid ((lval bs).toNat = k) ∧ Below w.heap.size w wr)
  case atStart => exact ⟨xs, bs, HU, HV, CX, CB, HN, HM, HG, Lib.hid rfl, Below.refl _ _⟩
  case round =>
    obtain ⟨ys, cs, HA, HC, CA, CC, LA, LC, HGG, HK, hbel⟩ := hrel
    obtain ⟨a2, c2, e2, l2, m2⟩ := HC.out.parts
    obtain ⟨n, hn⟩ : ∃ n, cs.length = n := ⟨_, rfl⟩
    rw [hn] at e2 l2
    have HN2 := Lib.hid hn
    clear hn
    unfold maxLen at l2
    subst e2
    by_cases h0 : n < 1
    · have hn0 : n = 0 := by omega
      subst hn0
      have hnil : cs = [] := List.length_eq_zero_iff.1 HN2.out
      have hg : lval ys = (G : Int) := by
        have h1 := HGG.out
        rw [hnil] at h1
        have h2 := (lval_bd ys CA.out.1).1
        have h3 : Int.gcd (lval ys) (lval []) = (lval ys).natAbs := by simp [lval]
        rw [h3] at h1
        omega
      have HGA := Lib.hid hg
      clear hg hnil
      go_wp2_with fail
      go_ret
      exact ⟨⟨_, rfl, ys, HA.out, CA.out, HGA.out, LA.out⟩, hbel⟩
    · have hne : cs ≠ [] := fun hx => by have := HN2.out; rw [hx] at this; simp at this; omega
      have hpos := (canon_pos cs CC.out).2 hne
      have HP := Lib.hid hpos
      have HB := Lib.hid hbel
      clear hne hpos hbel
      go_wp2_with fail
      refine (divide_any _ _ ys cs _ HA.out HC.out CA.out.1 CC.out HP.out LA.out LC.out).mono ?_
      rintro e w2 ⟨⟨r, s, rfl, qs, rs, g1, g2, g3, g4, g5, g6, g7, g8⟩, b2⟩
      have HC2 := Lib.hid (HC.out.below b2 (Nat.le_refl _))
      have G2 := Lib.hid g2; have G4 := Lib.hid g4; have G6 := Lib.hid g6; have G8 := Lib.hid g8; have B2 := Lib.hid b2
      clear g1 g2 g3 g4 g5 g6 g7 g8 b2
      go_wp2_with fail
      have hm := Int.emod_lt_of_pos (lval ys) HP.out
      have hm0 := Int.emod_nonneg (lval ys) (show lval cs ≠ 0 by have := HP.out; omega)
      go_roundg ((lval rs).toNat)
      case measure => rw [← HK.out, G6.out]; have := HP.out; omega
      case rel =>
        refine ⟨cs, rs, HC2, G2, CC, G4, LC, Lib.hid (by have := G8.out; have := LC.out; omega), Lib.hid ?_, Lib.hid rfl, HB.out.trans (B2.out.mono HB.out.size)⟩
        rw [G6.out, gcd_step _ _ (lval_bd ys CA.out.1).1 (by have := HP.out; omega)]
        exact HGG.out

end Go.Proofs.YtppaklifacadpaaGreatDoor
