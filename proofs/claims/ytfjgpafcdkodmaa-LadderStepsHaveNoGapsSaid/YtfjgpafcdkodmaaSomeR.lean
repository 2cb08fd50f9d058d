/- The reference's Some; the empty and the whole of renditions of the call's own. -/
import Derived.Test.YtfjgpafcdkodmaaStepPlain3
import Derived.Test.YtfjgpafcdkodmaaMore
import Derived.Laws.OwnMore
namespace Go.Proofs.Ytfjgpafcdkodmaa
set_option linter.unusedVariables false
set_option linter.unusedSimpArgs false
open Go.RowKit Go.Shelf Go.Deep

theorem Rungs.ofOwn {w : World} {base : Nat} {e : TypeId} {v : Value} {rs : List Rung} (h : w.ownsRow base e 4 v rs.length (rcells rs)) : Rungs w v rs := by
  by_cases hz : rs = []
  · subst hz
    rcases h.2 with ⟨rfl, _⟩ | ⟨g, cap, cur, rfl, _⟩
    · exact .nil w
    · exact .inl ⟨_, _, rfl, rfl⟩
  · have hl : 0 < rs.length := List.length_pos_iff.2 hz
    have hlt := h.lt
    rcases h.2 with ⟨_, h0⟩ | ⟨g, cap, cur, rfl, hb, hg, hnc, hcm, hcs, htake⟩
    · omega
    · refine .inr ⟨g, 0, cap, rfl, hl, (hlt g rfl).2, hnc, hcm, fun j hj c hc => ?_⟩
      rw [Nat.zero_add, World.ownsRow.cellAt h (j * 4 + c) (by omega)]
      exact rcells_at rs j hj c hc
theorem rown_form {w : World} {base : Nat} {e : TypeId} {size : Nat} {v : Value} {n : Nat} {xs : List Value} (h : w.ownsRow base e size v n xs) : ∃ a c, v = .slice a n c := by
  rcases h.2 with ⟨rfl, h0⟩ | ⟨g, cap, cur, rfl, _⟩
  · exact ⟨none, 0, by rw [h0]⟩
  · exact ⟨_, _, rfl⟩
theorem rcells_snoc (rs : List Rung) (r : Rung) : rcells (rs ++ [r]) = rcells rs ++ [.string r.nm, .int .i64 r.ra, .int .i64 r.he, .int .i64 r.qu] := by simp [rcells]
theorem someR_take (rs : List Rung) (xs : List Nat) (k : Nat) (h : k < xs.length) : someR rs (xs.take (k + 1)) = someR rs (xs.take k) ++ [rs.getD (xs.getD k 0) rung0] := by
  unfold someR
  have : xs.getD k 0 = xs[k] := by rw [List.getD_eq_getElem?_getD, List.getElem?_eq_getElem h]; rfl
  rw [List.take_succ_eq_append_getElem h, List.map_append, this]
  rfl
set_option maxRecDepth 100000 in
set_option maxHeartbeats 8000000 in
theorem some_walk (b off n cap g o m cp : Nat) (rs : List Rung) (xs : List Nat) (w : World) (hz : rs.length = n) (hn : n ≤ 100) (hm : xs.length = m) (hm5 : m ≤ 100) (hlt : b < w.heap.size) (hS : Rungs w (.slice (some ⟨b, off, none⟩) n cap) rs) (hg : g < w.heap.size)
    (hc : ∀ j, j < m → w.cell? ⟨g, o + j, none⟩ = some (.int .i64 (xs.getD j 0 : Nat))) (hx : ∀ j, j < m → xs.getD j 0 < n) :
    Calls Try.prog 42 #[.slice (some ⟨b, off, none⟩) n cap, .slice (some ⟨g, o, none⟩) m cp] w fun e w' => (∃ y, e = .returned y ∧ Rungs w' y (someR rs xs)) ∧ Below w.heap.size w w' := by
  obtain ⟨i0, hi, hi0, hi1, hi2⟩ := info_parts Try.infoRung
  have HC := Lib.hid (fun j (hj : j < n) => hS.cells j (by omega))
  have HX := Lib.hid hx; have HG := Lib.hid hc; have HM := Lib.hid hm
  clear hS hz hc hx hm
  go_enter Try.func42, Try.ntmps42
  go_wp2_with fail
  go_loopw [5, 10] (fun v5 v10 wr => ∃ (k : Nat) (L : List Rung), k ≤ m ∧ v10 = .int .i64 (k : Int) ∧ wr.ownsRow w.heap.size 37 4 v5 L.length (rcells L) ∧ Hid (L = someR rs (xs.take k)) ∧ L.length ≤ k ∧ Below w.heap.size w wr) (fun _ v10 _ => m - (intOf v10).toNat)
  case atStart => exact ⟨0, [], by omega, rfl, World.ownsRow_nil w _ _ _, Lib.hid (by rw [List.take_zero]; rfl), Nat.le_refl _, Below.refl _ _⟩
  case round =>
    obtain ⟨k, L, hk, rfl, hown, HL, hll, hbel⟩ := hrel
    by_cases hlt2 : k < m
    · obtain ⟨c, hcx⟩ : ∃ c, xs.getD k 0 = c := ⟨_, rfl⟩
      have hcn := HX.out k hlt2
      have s1 : wr.cell? ⟨g, o + k, none⟩ = some (.int .i64 (c : Int)) := by rw [hbel.cell (p := ⟨g, o + k, none⟩) hg, HG.out k hlt2, hcx]
      rw [hcx] at hcn
      obtain ⟨r, hr⟩ : ∃ r, rs.getD c rung0 = r := ⟨_, rfl⟩
      obtain ⟨c0, c1, c2, c3⟩ := HC.out c hcn
      rw [hr] at c0 c1 c2 c3
      rw [← hbel.cell (p := ⟨b, off + c * 4, none⟩) hlt] at c0
      rw [← hbel.cell (p := ⟨b, off + c * 4 + 1, none⟩) hlt] at c1
      rw [← hbel.cell (p := ⟨b, off + c * 4 + 2, none⟩) hlt] at c2
      rw [← hbel.cell (p := ⟨b, off + c * 4 + 3, none⟩) hlt] at c3
      have HLN : Hid (L ++ [r] = someR rs (xs.take (k + 1))) := Lib.hid (by rw [someR_take rs xs k (by rw [HM.out]; exact hlt2), ← HL.out, hcx, hr])
      have hsz := hbel.size
      have hblt : b < wr.heap.size := by omega
      have hglt : g < wr.heap.size := by omega
      have cI : (c : Int) < (n : Int) := by omega
      have cD : decide ((c : Int) < (n : Int)) = true := decide_eq_true cI
      have kI : (k : Int) < (m : Int) := by omega
      have wk1 : IntKind.i64.wrap ((k : Int) + 1) = (k : Int) + 1 := IntWalk.i64_in _ ⟨by omega, by omega⟩
      obtain ⟨a3, c3', rfl⟩ := rown_form hown
      clear hcx hr
      go_wp2_with (at_builtin; refine wpList_append_own _ rfl _ _ 22 rfl w.heap.size 37 i0 (.agg #[.string ⟨#[]⟩, .int .i64 0, .int .i64 0, .int .i64 0]) 4 40 Try.underlying22 hi hi0 hi1 hi2 rfl (by decide) _ _ _ rfl (hown.alloc _) ⟨wr.heap.size, 0, none⟩ 1 1 [.string r.nm, .int .i64 r.ra, .int .i64 r.he, .int .i64 r.qu] rfl rfl ?k1 ?k2 ?k3 ?k4 ?k5 ?_)
      case k1 =>
        have := World.news_of_block (cs := #[.string r.nm, .int .i64 r.ra, .int .i64 r.he, .int .i64 r.qu]) (t := 37) (fr := (0, 0)) (heap_alloc_new wr (.cells #[.string r.nm, .int .i64 r.ra, .int .i64 r.he, .int .i64 r.qu] 37))
        simpa using this
      case k2 => simp [Value.oneCell']
      case k3 => unfold maxLen; omega
      case k4 => omega
      case k5 => first | omega | (simp; omega)
      intro v' w4 hown4 hgrow4 _
      have hb4 : Below w.heap.size w w4 := ((hbel.alloc hsz _).grown hgrow4 (by simp; omega) (fun q hq => (hown.lt q hq).1))
      rw [← rcells_snoc] at hown4
      clear hgrow4 hown
      go_wp2_with fail
      go_roundw
      case rel => exact ⟨k + 1, L ++ [r], by omega, by go_num, by rw [List.length_append]; exact hown4, HLN, by rw [List.length_append]; simp; omega, hb4⟩
      case measure => simp [intOf]; omega
    · have e1 : L = someR rs xs := by rw [HL.out, List.take_of_length_le (by rw [HM.out]; omega)]
      subst e1
      have kD : decide ((k : Int) < (m : Int)) = false := by simp; omega
      go_wp2_with fail
      go_ret
      exact ⟨⟨_, rfl, Rungs.ofOwn hown⟩, hbel⟩
/-- Some renditions of several, by their numbers. -/
theorem some_any (u v : Value) (rs : List Rung) (xs : List Nat) (w : World) (hu : Rungs w u rs) (hv : Nums w v (xs.map (fun n : Nat => (n : Int)))) (h0 : 0 < xs.length) (hm : xs.length ≤ 100) (hn : rs.length ≤ 100) (hx : ∀ j, j < xs.length → xs.getD j 0 < rs.length) :
    Calls Try.prog 42 #[u, v] w fun e w' => (∃ y, e = .returned y ∧ Rungs w' y (someR rs xs)) ∧ Below w.heap.size w w' := by
  have h1 := hx 0 h0
  obtain ⟨b, off, cap, rfl, hb, -, -⟩ := hu.spot (by omega)
  have hl : (xs.map (fun n : Nat => (n : Int))).length = xs.length := by simp
  rcases hv with ⟨_, _, _, hz⟩ | ⟨g, o, cp, rfl, hne, hg, hcm, hc⟩
  · rw [hz] at hl; simp at hl; omega
  · rw [hl]
    rw [hl] at hc
    exact some_walk b off rs.length cap g o xs.length cp rs xs w rfl hn rfl hm hb hu hg (fun j hj => by
      have h2 := hc j hj
      rw [h2]
      have : (xs.map (fun n : Nat => (n : Int))).getD j 0 = ((xs.getD j 0 : Nat) : Int) := by
        rw [List.getD_eq_getElem?_getD, List.getElem?_map, List.getD_eq_getElem?_getD, List.getElem?_eq_getElem hj]; rfl
      rw [this]) hx

end Go.Proofs.Ytfjgpafcdkodmaa
