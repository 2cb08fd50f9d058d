/- moved, right of the reference of package sample. -/
import Derived.Test.YtgpiagdldcnijabRChk
import Derived.Test.YtgpiagdldcnijabTimed
namespace Go.Proofs.Ytgpiagdldcnijab
set_option linter.unusedVariables false
set_option linter.unusedSimpArgs false
open Go.RowKit Go.Deep

/-- Samples whose Times are a number greater. -/
def movS (y : Smp) (by' : Int) : Smp := { y with t := y.t + by' }
def movL (ss : List Smp) (by' : Int) : List Smp := ss.map fun y => movS y by'
theorem movL_len (ss : List Smp) (b : Int) : (movL ss b).length = ss.length := by simp [movL]
theorem movL_get (ss : List Smp) (b : Int) (i : Nat) (h : i < ss.length) : (movL ss b).getD i smp0 = movS (ss.getD i smp0) b := by simp [movL, List.getD_eq_getElem?_getD, h]
theorem take_snocS (L : List Smp) (k : Nat) (h : k < L.length) : L.take k ++ [L.getD k smp0] = L.take (k + 1) := by
  rw [List.take_succ_eq_append_getElem h]
  simp [List.getD_eq_getElem?_getD, h]

set_option maxRecDepth 100000 in
set_option maxHeartbeats 4000000 in
theorem rmoved_walk (b off n cap : Nat) (ss : List Smp) (by' : Int) (w : World) (hz : ss.length = n) (hn0 : 0 < n) (hlt : b < w.heap.size) (g : Good ss) (hS : Smps w (.slice (some ⟨b, off, none⟩) n cap) ss) (y0 : -4000000000000000 ≤ by') (y1 : by' ≤ 4000000000000000) :
    Calls Try.prog 93 #[.slice (some ⟨b, off, none⟩) n cap, .int .i64 by'] w fun e w' => (∃ u, e = .returned u ∧ w'.ownsRow w.heap.size 50 5 u n (scells (movL ss by'))) ∧ Below w.heap.size w w' := by
  obtain ⟨i0, hi, hi0, hi1, hi2⟩ := info_parts Try.infoSample
  have hn := g.len
  rw [hz] at hn
  have HC : Hid (∀ j, j < n → w.cell? ⟨b, off + j * 5, none⟩ = some (.int .i64 (ss.getD j smp0).t) ∧ w.cell? ⟨b, off + j * 5 + 1, none⟩ = some (.int .i64 (ss.getD j smp0).s) ∧ w.cell? ⟨b, off + j * 5 + 2, none⟩ = some (.int .i64 (ss.getD j smp0).h) ∧ w.cell? ⟨b, off + j * 5 + 3, none⟩ = some (.int .i64 (ss.getD j smp0).z) ∧ w.cell? ⟨b, off + j * 5 + 4, none⟩ = some (.bool (ss.getD j smp0).k)) := Lib.hid (fun j hj => hS.cells j (by omega))
  have HZ := Lib.hid hz
  have HG := Lib.hid g
  clear hz g hS
  go_enter Try.func93, Try.ntmps93
  go_wp2_with fail
  go_loopw [5, 6] (fun u v wr => ∃ k : Nat, k ≤ n ∧ v = .int .i64 k ∧ wr.ownsRow w.heap.size 50 5 u k (scells ((movL ss by').take k)) ∧ Below w.heap.size w wr) (fun _ v _ => n - (intOf v).toNat)
  case atStart => exact ⟨0, Nat.zero_le _, rfl, World.ownsRow_nil _ _ _ _, Below.refl _ _⟩
  case round =>
    obtain ⟨k, hk, rfl, hown, hbel⟩ := hrel
    by_cases hlt2 : k < n
    · obtain ⟨y, hy⟩ : ∃ y, ss.getD k smp0 = y := ⟨_, rfl⟩
      obtain ⟨c0, c1, c2, c3, c4⟩ := HC.out k hlt2
      have ok := (HG.out.ok k (by rw [HZ.out]; exact hlt2)).1
      have hget := movL_get ss by' k (by rw [HZ.out]; exact hlt2)
      rw [hy] at c0 c1 c2 c3 c4 ok hget
      have d0 : wr.cell? ⟨b, off + k * 5, none⟩ = some (.int .i64 y.t) := by rw [hbel.cell (p := ⟨b, off + k * 5, none⟩) hlt]; exact c0
      have d1 : wr.cell? ⟨b, off + k * 5 + 1, none⟩ = some (.int .i64 y.s) := by rw [hbel.cell (p := ⟨b, off + k * 5 + 1, none⟩) hlt]; exact c1
      have d2 : wr.cell? ⟨b, off + k * 5 + 2, none⟩ = some (.int .i64 y.h) := by rw [hbel.cell (p := ⟨b, off + k * 5 + 2, none⟩) hlt]; exact c2
      have d3 : wr.cell? ⟨b, off + k * 5 + 3, none⟩ = some (.int .i64 y.z) := by rw [hbel.cell (p := ⟨b, off + k * 5 + 3, none⟩) hlt]; exact c3
      have d4 : wr.cell? ⟨b, off + k * 5 + 4, none⟩ = some (.bool y.k) := by rw [hbel.cell (p := ⟨b, off + k * 5 + 4, none⟩) hlt]; exact c4
      clear hy c0 c1 c2 c3 c4
      obtain ⟨t, s, h, z, kk⟩ := y
      simp only at d0 d1 d2 d3 d4 ok
      obtain ⟨o0, o1⟩ := ok
      have hsz := hbel.size
      have hblt : b < wr.heap.size := by omega
      have HGET := Lib.hid hget
      clear hget
      go_wp2_with (at_builtin; refine wpList_append_own _ rfl _ _ 33 rfl w.heap.size 50 i0 (.agg #[.int .i64 0, .int .i64 0, .int .i64 0, .int .i64 0, .bool false]) 5 40 Try.underlying33 hi hi0 hi1 hi2 rfl (by decide) _ _ _ rfl ((hown.alloc _).alloc _) ⟨wr.heap.size + 1, 0, none⟩ 1 1 [.int .i64 (t + by'), .int .i64 s, .int .i64 h, .int .i64 z, .bool kk] rfl rfl ?k1 ?k2 ?k3 ?k4 ?k5 ?_)
      case k1 =>
        have := World.news_of_block (cs := #[.int .i64 (t + by'), .int .i64 s, .int .i64 h, .int .i64 z, .bool kk]) (t := 50) (fr := (0, 0)) (heap_alloc_new (wr.alloc (.cells #[.int .i64 (t + by'), .int .i64 s, .int .i64 h, .int .i64 z, .bool kk] 50)) (.cells #[.int .i64 (t + by'), .int .i64 s, .int .i64 h, .int .i64 z, .bool kk] 50))
        simpa using this
      case k2 => simp [Value.oneCell']
      case k3 => unfold maxLen; omega
      case k4 => omega
      case k5 => simp; omega
      intro v' w4 hown4 hgrow4 _
      have hb4 : Below w.heap.size w w4 := (((hbel.alloc hsz _).alloc (by simp; omega) _).grown hgrow4 (by simp; omega) (fun q hq => (hown.lt q hq).1))
      have hsn : scells ((movL ss by').take k) ++ [.int .i64 (t + by'), .int .i64 s, .int .i64 h, .int .i64 z, .bool kk] = scells ((movL ss by').take (k + 1)) := by
        rw [← take_snocS _ _ (by rw [movL_len, HZ.out]; exact hlt2), scells_append, HGET.out]
        rfl
      rw [hsn] at hown4
      clear hgrow4 hown hsn
      go_wp2_with fail
      go_roundw
      case rel => exact ⟨k + 1, by omega, by go_num, hown4, hb4⟩
      case measure => simp [intOf]; omega
    · have hkn : k = n := by omega
      subst hkn
      have e : (movL ss by').take k = movL ss by' := List.take_of_length_le (by rw [movL_len, HZ.out]; exact Nat.le_refl _)
      rw [e] at hown
      have HO := Lib.hid hown
      clear hown e
      go_wp2_with fail
      go_ret
      exact ⟨⟨_, rfl, HO.out⟩, hbel⟩

end Go.Proofs.Ytgpiagdldcnijab
