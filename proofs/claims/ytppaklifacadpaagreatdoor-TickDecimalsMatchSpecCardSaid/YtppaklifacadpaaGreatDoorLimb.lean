/- The reference's rows of limbs: trim and compare. -/
import Derived.Test.YtppaklifacadpaaGreatDoorDiv
import Derived.Test.YtppaklifacadpaaGreatDoorLval
import Derived.Laws.OwnMore
import Derived.Lib.Hide
namespace Go.Proofs.YtppaklifacadpaaGreatDoor
set_option linter.unusedVariables false
set_option linter.unusedSimpArgs false
open Go.RowKit

/-- The slice value v reads as the numbers zs. -/
def Lim (w : World) (v : Value) (zs : List Int) : Prop :=
  (∃ a cap, v = .slice a 0 cap ∧ cap ≤ maxLen ∧ zs = []) ∨
  ∃ b off cap, v = .slice (some ⟨b, off, none⟩) zs.length cap ∧ zs ≠ [] ∧ b < w.heap.size ∧ zs.length ≤ cap ∧ cap ≤ maxLen ∧ ∀ j, j < zs.length → w.cell? ⟨b, off + j, none⟩ = some (.int .i64 (zs.getD j 0))

theorem Lim.nil (w : World) : Lim w (.slice none 0 0) [] := .inl ⟨none, 0, rfl, by unfold maxLen; omega, rfl⟩
theorem Lim.below {B : Nat} {w w' : World} {v : Value} {zs : List Int} (h : Lim w v zs) (hb : Below B w w') (hB : w.heap.size ≤ B) : Lim w' v zs := by
  rcases h with h | ⟨b, off, cap, hv, hne, hlt, hl, hm, hc⟩
  · exact .inl h
  · refine .inr ⟨b, off, cap, hv, hne, Nat.lt_of_lt_of_le hlt hb.size, hl, hm, fun j hj => ?_⟩
    rw [hb.cell (p := ⟨b, off + j, none⟩) (by show b < B; omega)]
    exact hc j hj
theorem Lim.parts {w : World} {v : Value} {zs : List Int} (h : Lim w v zs) : ∃ a cap, v = .slice a zs.length cap ∧ zs.length ≤ maxLen ∧ cap ≤ maxLen := by
  rcases h with ⟨a, c, rfl, hc, rfl⟩ | ⟨b, o, c, rfl, -, -, hl, hm, -⟩
  · exact ⟨a, c, rfl, by simp [maxLen], hc⟩
  · exact ⟨_, c, rfl, by omega, hm⟩
theorem Lim.ofOwn {w : World} {base : Nat} {e : TypeId} {v : Value} {zs : List Int} (h : w.ownsRow base e 1 v zs.length (zs.map (Value.int .i64))) : Lim w v zs := by
  have hlt := h.lt
  by_cases hz : zs = []
  · subst hz
    rcases h.2 with ⟨rfl, _⟩ | ⟨g, cap, cur, rfl, _, _, _, hm, _⟩
    · exact .nil w
    · exact .inl ⟨_, _, rfl, hm, rfl⟩
  · have hl : 0 < zs.length := List.length_pos_iff.2 hz
    rcases h.2 with ⟨_, h0⟩ | ⟨g, cap, cur, rfl, hb, hg, hnc, hcm, hcs, htake⟩
    · omega
    · refine .inr ⟨g, 0, cap, rfl, hz, (hlt g rfl).2, hnc, hcm, fun j hj => ?_⟩
      rw [Nat.zero_add, World.ownsRow.cellAt h j (by omega)]
      simp [List.getD_eq_getElem?_getD, hj]

set_option maxHeartbeats 1000000 in
theorem trim_walk (b off n cap : Nat) (zs : List Int) (w : World) (hz : zs.length = n) (hcl : n ≤ cap) (hcm : cap ≤ maxLen)
    (hc : ∀ j, j < n → w.cell? ⟨b, off + j, none⟩ = some (.int .i64 (zs.getD j 0))) :
    Calls Tryz.prog 54 #[.slice (some ⟨b, off, none⟩) n cap] w fun e w' => e = .returned (.slice (some ⟨b, off, none⟩) (trimN zs n) cap) ∧ w = w' := by
  have HC := Lib.hid hc
  have hcap63 : cap ≤ 9223372036854775807 := by unfold maxLen at hcm; omega
  clear hc
  go_enter Tryz.func54, Tryz.ntmps54
  go_wp2_with fail
  go_loopw [3] (fun i wr => ∃ k : Nat, k ≤ n ∧ i = .int .i64 k ∧ w = wr ∧ Hid (trimN zs n = trimN zs k)) (fun i _ => (intOf i).toNat)
  case atStart => exact ⟨n, Nat.le_refl _, rfl, rfl, Lib.hid rfl⟩
  case round =>
    obtain ⟨k, hk, rfl, rfl, HT⟩ := hrel
    by_cases hk0 : k < 1
    · have hgd : decide (0 < k) = false := by simp; omega
      have hk00 : k = 0 := by omega
      subst hk00
      go_wp2_with fail
      go_ret
      rw [HT.out]
      exact ⟨rfl, rfl⟩
    · obtain ⟨j, rfl⟩ : ∃ j, k = j + 1 := ⟨k - 1, by omega⟩
      obtain ⟨x, hx⟩ : ∃ x, zs.getD j 0 = x := ⟨_, rfl⟩
      have hcell := HC.out j (by omega)
      rw [hx] at hcell
      have HX := Lib.hid hx
      clear hx
      by_cases h0 : x = 0
      · subst h0
        go_wp2_with fail
        go_roundw
        case rel => exact ⟨j, by omega, by go_num, trivial, Lib.hid (by rw [HT.out, trimN, if_pos HX.out])⟩
        case measure => simp [intOf]
      · have hb : (x == 0) = false := by simp [h0]
        go_wp2_with fail
        go_ret
        rw [HT.out, trimN, if_neg (by rw [HX.out]; exact h0)]
        exact ⟨rfl, rfl⟩

theorem trim_none (a : Option Addr) (cap : Nat) (w : World) (hcm : cap ≤ maxLen) :
    Calls Tryz.prog 54 #[.slice a 0 cap] w fun e w' => e = .returned (.slice a 0 cap) ∧ w = w' := by
  have hcap63 : cap ≤ 9223372036854775807 := by unfold maxLen at hcm; omega
  go_enter Tryz.func54, Tryz.ntmps54
  go_wp2_with fail
  go_loopw [3] (fun i wr => i = .int .i64 0 ∧ w = wr) (fun i _ => 0)
  case atStart => exact ⟨rfl, rfl⟩
  case round =>
    obtain ⟨rfl, rfl⟩ := hrel
    go_wp2_with fail
    go_ret
    exact ⟨rfl, rfl⟩

theorem trim_any (v : Value) (zs : List Int) (w : World) (h : Lim w v zs) :
    Calls Tryz.prog 54 #[v] w fun e w' => (∃ u, e = .returned u ∧ Lim w u (trimL zs)) ∧ w = w' := by
  rcases h with ⟨a, c, rfl, hcm, rfl⟩ | ⟨b, o, c, rfl, hne, hlt, hl, hm, hc⟩
  · refine (trim_none a c w hcm).mono ?_
    rintro e w' ⟨rfl, rfl⟩
    exact ⟨⟨_, rfl, .inl ⟨a, c, rfl, hcm, rfl⟩⟩, rfl⟩
  · refine (trim_walk b o _ c zs w rfl hl hm hc).mono ?_
    rintro e w' ⟨rfl, rfl⟩
    have hle := trimN_le zs zs.length
    refine ⟨⟨_, rfl, ?_⟩, rfl⟩
    by_cases h0 : trimN zs zs.length = 0
    · exact .inl ⟨_, c, by rw [h0], hm, by rw [trimL, h0]; rfl⟩
    · refine .inr ⟨b, o, c, by rw [trimL_len], fun hx => h0 (by rw [← trimL_len, hx]; rfl), hlt, by rw [trimL_len]; omega, hm, fun j hj => ?_⟩
      rw [trimL_len] at hj
      rw [trimL, lget_take _ _ _ hj]
      exact hc j (by omega)

end Go.Proofs.YtppaklifacadpaaGreatDoor
