/- tick.Unwrap and the reference's Unwrap: both return the same numbers, or the same fault. -/
import Derived.Test.YtnjmjdbilblieaaWrap
namespace Go.Proofs.Ytnjmjdbilblieaa
set_option linter.unusedVariables false
set_option linter.unusedSimpArgs false
open Go.RowKit

/-- The number of a counter, behind the numbers so far. -/
def unwrapNext (B : Nat) (ts : List Int) (c : Int) : Int :=
  if ts.length = 0 then c else ts.getD (ts.length - 1) 0 - 2 ^ (B - 1) + (c - ts.getD (ts.length - 1) 0 + 2 ^ (B - 1)) % 2 ^ B

/-- The numbers of the first k counters. -/
def unwrapTo (B : Nat) (zs : List Int) : Nat → Option (List Int)
  | 0 => some []
  | k + 1 => match unwrapTo B zs k with
    | none => none
    | some ts => if (0 ≤ zs.getD k 0 ∧ zs.getD k 0 < 2 ^ B) ∧ isTimeN (unwrapNext B ts (zs.getD k 0)) then some (ts ++ [unwrapNext B ts (zs.getD k 0)]) else none

theorem unwrapTo_len (B : Nat) (zs : List Int) : ∀ (k : Nat) (ts : List Int), unwrapTo B zs k = some ts → ts.length = k
  | 0, ts, h => by simp [unwrapTo] at h; subst h; rfl
  | k + 1, ts, h => by
    unfold unwrapTo at h
    split at h
    · simp at h
    · split at h
      · simp only [Option.some.injEq] at h
        subst h
        have := unwrapTo_len B zs k _ (by assumption)
        simp [this]
      · simp at h

theorem unwrapTo_time (B : Nat) (zs : List Int) : ∀ (k : Nat) (ts : List Int), unwrapTo B zs k = some ts → ∀ t ∈ ts, isTimeN t
  | 0, ts, h => by simp [unwrapTo] at h; subst h; simp
  | k + 1, ts, h => by
    unfold unwrapTo at h
    split at h
    · simp at h
    · split at h
      · simp only [Option.some.injEq] at h
        subst h
        intro t ht
        rcases List.mem_append.1 ht with ht | ht
        · exact unwrapTo_time B zs k _ (by assumption) t ht
        · simp only [List.mem_singleton] at ht
          subst ht
          next hc => exact hc.2
      · simp at h

theorem unwrapTo_none (B : Nat) (zs : List Int) (k : Nat) (h : unwrapTo B zs k = none) : ∀ d, unwrapTo B zs (k + d) = none
  | 0 => h
  | d + 1 => by
    rw [show k + (d + 1) = (k + d) + 1 by omega, unwrapTo, unwrapTo_none B zs k h d]

def unwrapF (zs : List Int) (bits : Int) : Int := if ckF zs.length bits ≠ 0 then ckF zs.length bits else if (unwrapTo bits.toNat zs zs.length).isSome then 0 else 1
def unwrapL (zs : List Int) (bits : Int) : List Int := if unwrapF zs bits = 0 then (unwrapTo bits.toNat zs zs.length).getD [] else []

/-- What goes wrong at round k. -/
theorem unwrap_bad (zs : List Int) (B n k : Nat) (ts : List Int) (hz : zs.length = n) (hck : ckF n B = 0) (hk : k < n) (hts : unwrapTo B zs k = some ts)
    (h : ¬ ((0 ≤ zs.getD k 0 ∧ zs.getD k 0 < 2 ^ B) ∧ isTimeN (unwrapNext B ts (zs.getD k 0)))) : unwrapF zs B = 1 ∧ unwrapL zs B = [] := by
  have e1 : unwrapTo B zs (k + 1) = none := by simp only [unwrapTo, hts, if_neg h]
  have e2 : unwrapTo B zs n = none := by
    have := unwrapTo_none B zs (k + 1) e1 (n - (k + 1))
    rwa [show k + 1 + (n - (k + 1)) = n by omega] at this
  have e3 : unwrapF zs B = 1 := by simp [unwrapF, hz, hck, e2]
  exact ⟨e3, by simp [unwrapL, e3]⟩

theorem unwrap_good (zs : List Int) (B n : Nat) (ts : List Int) (hz : zs.length = n) (hck : ckF n B = 0) (hts : unwrapTo B zs n = some ts) : unwrapF zs B = 0 ∧ unwrapL zs B = ts := by
  have e3 : unwrapF zs B = 0 := by simp [unwrapF, hz, hck, hts]
  exact ⟨e3, by simp [unwrapL, e3, hz, hts]⟩

theorem unwrap_step (zs : List Int) (B k : Nat) (ts : List Int) (hts : unwrapTo B zs k = some ts) (h : (0 ≤ zs.getD k 0 ∧ zs.getD k 0 < 2 ^ B) ∧ isTimeN (unwrapNext B ts (zs.getD k 0))) :
    unwrapTo B zs (k + 1) = some (ts ++ [unwrapNext B ts (zs.getD k 0)]) := by
  simp only [unwrapTo, hts, if_pos h]

/-- The row after the numbers so far. -/
def filled (ts : List Int) (n : Nat) : List Value := (ts ++ List.replicate (n - ts.length) 0).map (Value.int .i64)

theorem filled_zero (n : Nat) : filled [] n = List.replicate n (.int .i64 0) := by simp [filled]
theorem filled_all (ts : List Int) : filled ts ts.length = ts.map (Value.int .i64) := by simp [filled]
theorem filled_at (ts : List Int) (n : Nat) (h : ts.length < n) : (filled ts n)[ts.length]? = some (.int .i64 0) := by
  unfold filled
  rw [List.map_append, List.getElem?_append_right (by simp)]
  rw [List.length_map, Nat.sub_self, show n - ts.length = (n - (ts.length + 1)) + 1 by omega, List.replicate_succ]
  rfl
theorem filled_old (ts : List Int) (n j : Nat) (h : j < ts.length) : (filled ts n)[j]? = some (.int .i64 (ts.getD j 0)) := by
  unfold filled
  rw [List.map_append, List.getElem?_append_left (by simpa using h)]
  simp [List.getD_eq_getElem?_getD, h]
theorem filled_set (ts : List Int) (n : Nat) (x : Int) (h : ts.length < n) : (filled ts n).set ts.length (.int .i64 x) = filled (ts ++ [x]) n := by
  unfold filled
  rw [List.map_append, List.set_append_right _ _ (by simp), List.length_map, Nat.sub_self, show n - ts.length = (n - (ts.length + 1)) + 1 by omega, List.replicate_succ]
  simp
theorem filled_twice (ts : List Int) (n : Nat) (u x : Value) : ((filled ts n).set ts.length u).set ts.length x = (filled ts n).set ts.length x := by simp

set_option maxHeartbeats 2000000 in
theorem unwrap_walk (b off n cap : Nat) (zs : List Int) (B : Nat) (w : World) (hz : zs.length = n) (hn0 : 0 < n) (hn : n ≤ 5000) (hb2 : 2 ≤ B) (hb48 : B ≤ 48) (hlt : b < w.heap.size)
    (hc : ∀ j, j < n → w.cell? ⟨b, off + j, none⟩ = some (.int .i64 (zs.getD j 0))) :
    Calls Try.prog 13 #[.slice (some ⟨b, off, none⟩) n cap, .int .i64 B] w fun e w' => (∃ u, e = .returned (.tuple #[u, .int .i64 (unwrapF zs B)]) ∧ Nums w' u (unwrapL zs B)) ∧ Below w.heap.size w w' := by
  obtain ⟨i0, hi, hi0, hi1, hi2⟩ := info_parts Try.infoInt
  obtain ⟨p0, p1⟩ := pow_bd B hb2 hb48
  have q0 : (2 : Int) ^ B = 2 * 2 ^ (B - 1) := by
    have : B = (B - 1) + 1 := by omega
    rw [this, Int.pow_succ, show B - 1 + 1 - 1 = B - 1 by omega]; omega
  have Q0 := Lib.hid q0
  have hh : (2 : Int) ≤ 2 ^ (B - 1) ∧ (2 : Int) ^ (B - 1) ≤ 140737488355328 := by omega
  obtain ⟨h0, h1⟩ := hh
  clear q0
  have ck : ckF n B = 0 := by unfold ckF; rw [if_neg (by omega), if_neg (by omega)]
  have CK := Lib.hid ck; clear ck
  have HZ := Lib.hid hz; clear hz
  have HC := Lib.hid hc; clear hc
  go_enter Try.func13, Try.ntmps13
  go_wp2_with fail
  refine (check_any _ _ _ _ _ (by unfold maxLen; omega)).mono ?_; rintro e w' ⟨rfl, rfl⟩
  rw [CK.out]
  go_wp2_with (at_make; refine wpList_make_full _ rfl _ _ 27 rfl w.heap.size 3 i0 (.int .i64 0) 1 Try.underlying27 hi hi0 hi1 _ _ _ _ n rfl rfl rfl rfl ?c1 ?c2 ?c3 ?_)
  case c1 => rw [hi2]; omega
  case c2 => unfold maxLen; omega
  case c3 => exact Nat.le_refl _
  intro w1 hown hgrow
  have hbel : Below w.heap.size w w1 := (Below.refl _ _).grown hgrow (Nat.le_refl _) (by simp)
  have hown0 : w1.ownsRow w.heap.size 3 1 (.slice (some ⟨w.heap.size, 0, none⟩) n n) n (filled [] n) := by
    rw [filled_zero]
    have := toList_madeCells_one (.int .i64 0) n
    rw [this] at hown
    exact hown
  clear hown hgrow
  go_wp2
  go_loopw [30] (fun i wr => ∃ (k : Nat) (ts : List Int), k ≤ n ∧ i = .int .i64 k ∧ wr.ownsRow w.heap.size 3 1 (.slice (some ⟨w.heap.size, 0, none⟩) n n) n (filled ts n) ∧ Below w.heap.size w wr ∧ Hid (unwrapTo B zs k = some ts)) (fun i _ => n - (intOf i).toNat)
  case atStart => exact ⟨0, [], Nat.zero_le _, rfl, hown0, hbel, Lib.hid rfl⟩
  case round =>
    clear hown0 hbel
    obtain ⟨k, ts, hk, rfl, hown, hbel, HT⟩ := hrel
    have hl := unwrapTo_len B zs k ts HT.out
    have HL := Lib.hid hl
    by_cases hlt2 : k < n
    · obtain ⟨c, hz⟩ : ∃ z, zs.getD k 0 = z := ⟨_, rfl⟩
      have HZK := Lib.hid hz
      have hcell : wr.cell? ⟨b, off + k, none⟩ = some (.int .i64 c) := by
        rw [hbel.cell (p := ⟨b, off + k, none⟩) hlt, HC.out k hlt2, hz]
      have hrow : wr.cell? ⟨w.heap.size, k, none⟩ = some (.int .i64 0) := by
        rw [World.ownsRow.cellAt hown k (by omega), ← hl, filled_at ts n (by omega)]
      have hfz := World.ownsRow.frozenAt hown k
      have HB := Lib.hid (unwrap_bad zs B n k ts HZ.out CK.out hlt2 HT.out)
      have HS := Lib.hid (unwrap_step zs B k ts HT.out)
      by_cases hcr : 0 ≤ c ∧ c < 2 ^ B
      · by_cases hk0 : k = 0
        · have hk1 : k < 1 := by omega
          have hnx : unwrapNext B ts c = c := by simp [unwrapNext, hl, hk0]
          have ht : isTimeN c := ⟨by omega, by omega⟩
          have HST := Lib.hid ((World.ownsRow.stored hown k (.int .i64 c)).1)
          have HNX := Lib.hid hnx
          have T := Lib.hid ht
          have CR := Lib.hid hcr
          obtain ⟨c0, c1⟩ := hcr
          clear hl hz hnx ht hk0
          go_wp2_with (first | (go_at_call 36; refine (within_yes _ _ _ _ (by omega) (by omega)).mono ?_; rintro e w' ⟨rfl, rfl⟩) | (go_at_call 29; refine (isTime_yes _ _ T.out).mono ?_; rintro e w' ⟨rfl, rfl⟩))
          go_roundw
          case rel =>
            refine ⟨k + 1, _, by omega, by go_num, ?_, hbel.setCell (Nat.le_refl _) _, Lib.hid (HS.out (by rw [HZK.out, HNX.out]; exact ⟨CR.out, T.out⟩))⟩
            rw [HZK.out, HNX.out, ← filled_set _ _ _ (by have := HL.out; omega), HL.out]
            exact HST.out
          case measure => simp [intOf]; omega
        · obtain ⟨j, rfl⟩ : ∃ j, k = j + 1 := ⟨k - 1, by omega⟩
          obtain ⟨p, hp⟩ : ∃ p, ts.getD j 0 = p := ⟨_, rfl⟩
          have htp : isTimeN p := by
            have := unwrapTo_time B zs _ ts HT.out p (by rw [← hp, getD_eq_get _ _ (by omega)]; exact List.getElem_mem _)
            exact this
          have hnx : unwrapNext B ts c = p - 2 ^ (B - 1) + (c - p + 2 ^ (B - 1)) % 2 ^ B := by simp only [unwrapNext, hl, Nat.add_sub_cancel, hp, if_neg (Nat.succ_ne_zero j)]
          have m0 := Int.emod_nonneg (c - p + 2 ^ (B - 1)) (show (2 : Int) ^ B ≠ 0 by omega)
          have m1 := Int.emod_lt_of_pos (c - p + 2 ^ (B - 1)) (show (0 : Int) < 2 ^ B by omega)
          have hmask := and_mask (c - p + 2 ^ (B - 1)) B hb48 (by unfold isTimeN at htp; omega) (by unfold isTimeN at htp; omega)
          have hprev : (wr.setCell ⟨w.heap.size, j + 1, none⟩ (.int .i64 c)).cell? ⟨w.heap.size, j, none⟩ = some (.int .i64 p) := by
            rw [World.cell?_setCell_other _ _ _ _ (by simp), World.ownsRow.cellAt hown j (by omega), filled_old ts n j (by omega), hp]
          have st1 := (World.ownsRow.stored hown (j + 1) (.int .i64 c)).1
          have HST := Lib.hid (fun u => (World.ownsRow.stored st1 (j + 1) u).1)
          obtain ⟨x, hx⟩ : ∃ x, (c - p + 2 ^ (B - 1)) % 2 ^ B = x := ⟨_, rfl⟩
          rw [hx] at hmask hnx m0 m1
          have HNX := Lib.hid hnx
          have CR := Lib.hid hcr
          obtain ⟨c0, c1⟩ := hcr
          obtain ⟨p2, p3⟩ := htp
          clear hl hz hnx hk0 st1 hx hp
          by_cases ht : isTimeN (p - 2 ^ (B - 1) + x)
          · have T := Lib.hid ht
            clear ht
            go_wp2_with fail
            refine (within_yes _ _ _ _ (by omega) (by omega)).mono ?_; rintro e w' ⟨rfl, rfl⟩
            go_wp2_with fail
            refine (isTime_yes _ _ T.out).mono ?_; rintro e w' ⟨rfl, rfl⟩
            go_wp2
            go_roundw
            case rel =>
              refine ⟨j + 1 + 1, _, by omega, by go_num, ?_, (hbel.setCell (Nat.le_refl _) _).setCell (Nat.le_refl _) _, Lib.hid (HS.out (by rw [HZK.out, HNX.out]; exact ⟨CR.out, T.out⟩))⟩
              rw [HZK.out, HNX.out, ← filled_set _ _ _ (by have := HL.out; omega), HL.out]
              have := HST.out (.int .i64 (p - 2 ^ (B - 1) + x))
              rw [← HL.out] at this ⊢
              rwa [filled_twice] at this
            case measure => simp [intOf]; omega
          · obtain ⟨f1, f2⟩ := HB.out (by rw [HZK.out, HNX.out]; exact fun h => ht h.2)
            have F1 := Lib.hid f1
            have F2 := Lib.hid f2
            have T := Lib.hid ht
            clear ht f1 f2
            go_wp2_with fail
            refine (within_yes _ _ _ _ (by omega) (by omega)).mono ?_; rintro e w' ⟨rfl, rfl⟩
            go_wp2_with fail
            refine (isTime_no _ _ T.out).mono ?_; rintro e w' ⟨rfl, rfl⟩
            go_wp2
            go_ret2
            exact ⟨⟨_, ret2_vi rfl F1.out.symm, by rw [F2.out]; exact .nil _⟩, (hbel.setCell (Nat.le_refl _) _).setCell (Nat.le_refl _) _⟩
      · obtain ⟨f1, f2⟩ := HB.out (by rw [HZK.out]; exact fun h => hcr h.1)
        have F1 := Lib.hid f1
        have F2 := Lib.hid f2
        have hcr' : c < 0 ∨ 2 ^ B - 1 < c := by omega
        have CR := Lib.hid hcr'
        clear f1 f2 hcr hcr' hl hz
        go_wp2_with fail
        refine (within_no _ _ _ _ CR.out).mono ?_; rintro e w' ⟨rfl, rfl⟩
        go_wp2
        go_ret2
        exact ⟨⟨_, ret2_vi rfl F1.out.symm, by rw [F2.out]; exact .nil _⟩, hbel⟩
    · have hkn : k = n := by omega
      obtain ⟨f1, f2⟩ := unwrap_good zs B n ts HZ.out CK.out (by rw [← hkn]; exact HT.out)
      have F1 := Lib.hid f1
      have F2 := Lib.hid f2
      have HKN := Lib.hid hkn
      clear f1 f2 hkn hl
      go_wp2
      go_ret2
      refine ⟨⟨_, ret2_vi rfl F1.out.symm, ?_⟩, hbel⟩
      rw [F2.out]
      have e2 : ts.length = n := by rw [HL.out, HKN.out]
      rw [← e2, filled_all] at hown
      rw [← e2]
      exact Nums.ofOwn (base := w.heap.size) (e := 3) hown

set_option maxHeartbeats 400000 in
theorem unwrap_empty (a : Option Addr) (cap : Nat) (B : Nat) (w : World) (hb2 : 2 ≤ B) (hb48 : B ≤ 48) :
    Calls Try.prog 13 #[.slice a 0 cap, .int .i64 B] w fun e w' => (∃ u, e = .returned (.tuple #[u, .int .i64 0]) ∧ Nums w' u []) ∧ Below w.heap.size w w' := by
  obtain ⟨i0, hi, hi0, hi1, hi2⟩ := info_parts Try.infoInt
  obtain ⟨p0, p1⟩ := pow_bd B hb2 hb48
  have hh : (1 : Int) ≤ 2 ^ (B - 1) ∧ (2 : Int) ^ (B - 1) ≤ 281474976710656 := by
    have q0 : (2 : Int) ^ B = 2 * 2 ^ (B - 1) := by
      have : B = (B - 1) + 1 := by omega
      rw [this, Int.pow_succ, show B - 1 + 1 - 1 = B - 1 by omega]; omega
    omega
  obtain ⟨h0, h1⟩ := hh
  have ck : ckF 0 B = 0 := by unfold ckF; rw [if_neg (by omega), if_neg (by omega)]
  have CK := Lib.hid ck; clear ck
  go_enter Try.func13, Try.ntmps13
  go_wp2_with fail
  refine (check_any _ _ _ _ _ (by unfold maxLen; omega)).mono ?_; rintro e w' ⟨rfl, rfl⟩
  rw [CK.out]
  go_wp2_with (at_make; refine wpList_make_full _ rfl _ _ 27 rfl w.heap.size 3 i0 (.int .i64 0) 1 Try.underlying27 hi hi0 hi1 _ _ _ _ 0 rfl rfl rfl rfl ?c1 ?c2 ?c3 ?_)
  case c1 => rw [hi2]; omega
  case c2 => unfold maxLen; omega
  case c3 => exact Nat.le_refl _
  intro w1 hown hgrow
  have hbel : Below w.heap.size w w1 := (Below.refl _ _).grown hgrow (Nat.le_refl _) (by simp)
  clear hown hgrow
  go_wp2
  refine wp_loop_rounds 1 ?_
  rw [rounds_succ]
  go_wp2
  go_ret2
  exact ⟨⟨_, ret2_vi rfl rfl, .inl ⟨_, _, rfl, rfl⟩⟩, hbel⟩

set_option maxHeartbeats 400000 in
theorem unwrap_err (a : Option Addr) (n cap : Nat) (bits : Int) (w : World) (hn : n ≤ maxLen) (h : ckF n bits ≠ 0) :
    Calls Try.prog 13 #[.slice a n cap, .int .i64 bits] w fun e w' => (∃ u, e = .returned (.tuple #[u, .int .i64 (ckF n bits)]) ∧ Nums w' u []) ∧ Below w.heap.size w w' := by
  obtain ⟨f, hf⟩ : ∃ f, ckF n bits = f := ⟨_, rfl⟩
  rw [hf] at h
  have HF := Lib.hid hf
  clear hf
  have hb : (f == 0) = false := by simp [h]
  go_enter Try.func13, Try.ntmps13
  go_wp2_with fail
  refine (check_any _ _ _ _ _ hn).mono ?_; rintro e w' ⟨rfl, rfl⟩
  rw [HF.out]
  go_wp2
  go_ret2
  exact ⟨⟨_, ret2_vi rfl HF.out.symm, .nil _⟩, Below.refl _ _⟩

theorem unwrap_plain (zs : List Int) (bits : Int) : (ckF zs.length bits ≠ 0 → unwrapF zs bits = ckF zs.length bits ∧ unwrapL zs bits = []) ∧ (ckF zs.length bits = 0 → zs = [] → unwrapF zs bits = 0 ∧ unwrapL zs bits = []) := by
  constructor
  · intro h
    have e1 : unwrapF zs bits = ckF zs.length bits := by simp [unwrapF, h]
    exact ⟨e1, by rw [unwrapL, if_neg (by rw [e1]; exact h)]⟩
  · intro h hz
    subst hz
    have e1 : unwrapF [] bits = 0 := by unfold unwrapF; rw [h]; simp [unwrapTo]
    exact ⟨e1, by simp [unwrapL, unwrapTo]⟩

/-- tick.Unwrap, whatever the input. -/
theorem unwrap_any (v : Value) (zs : List Int) (bits : Int) (w : World) (h : Nums w v zs) :
    Calls Try.prog 13 #[v, .int .i64 bits] w fun e w' => (∃ u, e = .returned (.tuple #[u, .int .i64 (unwrapF zs bits)]) ∧ Nums w' u (unwrapL zs bits)) ∧ Below w.heap.size w w' := by
  obtain ⟨pl1, pl2⟩ := unwrap_plain zs bits
  by_cases hf : ckF zs.length bits = 0
  · obtain ⟨⟨B, rfl, hb2, hb48⟩, h5⟩ := ckF_zero hf
    rcases h with ⟨a, c, rfl, rfl⟩ | ⟨b, o, c, rfl, hne, hlt, hm, hc⟩
    · rw [(pl2 hf rfl).1, (pl2 hf rfl).2]
      exact unwrap_empty a c B w hb2 hb48
    · exact unwrap_walk b o _ c zs B w rfl (List.length_pos_iff.2 hne) h5 hb2 hb48 hlt hc
  · rw [(pl1 hf).1, (pl1 hf).2]
    obtain ⟨a, c, rfl, hm⟩ := h.parts
    exact unwrap_err a _ c bits w hm hf

set_option maxHeartbeats 400000 in
theorem runwrap_err (a : Option Addr) (n cap : Nat) (bits : Int) (w : World) (hn : n ≤ maxLen) (h : ckF n bits ≠ 0) :
    Calls Try.prog 14 #[.slice a n cap, .int .i64 bits] w fun e w' => (∃ u, e = .returned (.tuple #[u, .int .i64 (ckF n bits)]) ∧ Nums w' u []) ∧ Below w.heap.size w w' := by
  unfold maxLen at hn
  by_cases h1 : bits < 2
  · have hf : ckF n bits = 1 := by simp [ckF, h1]
    have HF := Lib.hid hf; clear hf h
    go_enter Try.func14, Try.ntmps14
    go_wp2
    go_ret2
    exact ⟨⟨_, ret2_vi rfl HF.out.symm, .nil _⟩, Below.refl _ _⟩
  · by_cases h2 : 48 < bits
    · have hf : ckF n bits = 1 := by simp [ckF, h2]
      have HF := Lib.hid hf; clear hf h
      go_enter Try.func14, Try.ntmps14
      go_wp2
      go_ret2
      exact ⟨⟨_, ret2_vi rfl HF.out.symm, .nil _⟩, Below.refl _ _⟩
    · have hf : 5000 < n ∧ ckF n bits = 2 := by
        unfold ckF at h ⊢
        rw [if_neg (by omega)] at h ⊢
        split at h
        · rw [if_pos (by assumption)]; exact ⟨by assumption, rfl⟩
        · omega
      obtain ⟨h5, hf⟩ := hf
      have HF := Lib.hid hf; clear hf h
      go_enter Try.func14, Try.ntmps14
      go_wp2
      go_ret2
      exact ⟨⟨_, ret2_vi rfl HF.out.symm, .nil _⟩, Below.refl _ _⟩

theorem modulo_to (n m : Int) (w : World) (hm : 0 < m) (hm2 : m ≤ 1000000000000000) (h0 : -4000000000000000000 ≤ n) (h1 : n ≤ 4000000000000000000) :
    Calls Try.prog 35 #[.int .i64 n, .int .i64 m] w fun e w' => e = .returned (.int .i64 (n % m)) ∧ w = w' :=
  (modulo_any n m w hm hm2 h0 h1).mono fun _ _ ⟨he, hw⟩ => ⟨he, hw.symm⟩

theorem half_bd (B : Nat) (hb2 : 2 ≤ B) (hb48 : B ≤ 48) : (2 : Int) ≤ 2 ^ (B - 1) ∧ (2 : Int) ^ (B - 1) ≤ 140737488355328 := by
  obtain ⟨p0, p1⟩ := pow_bd B hb2 hb48
  have q0 : (2 : Int) ^ B = 2 * 2 ^ (B - 1) := by
    have : B = (B - 1) + 1 := by omega
    rw [this, Int.pow_succ, show B - 1 + 1 - 1 = B - 1 by omega]; omega
  omega

set_option maxHeartbeats 400000 in
theorem runwrap_empty (a : Option Addr) (cap : Nat) (B : Nat) (w : World) (hb2 : 2 ≤ B) (hb48 : B ≤ 48) :
    Calls Try.prog 14 #[.slice a 0 cap, .int .i64 B] w fun e w' => (∃ u, e = .returned (.tuple #[u, .int .i64 0]) ∧ Nums w' u []) ∧ Below w.heap.size w w' := by
  obtain ⟨p0, p1⟩ := pow_bd B hb2 hb48
  obtain ⟨h0, h1⟩ := half_bd B hb2 hb48
  go_enter Try.func14, Try.ntmps14
  go_wp2_with fail
  go_quiet (fail)
  go_wp2_with fail
  refine wp_loop_rounds 1 ?_
  rw [rounds_succ]
  go_wp2
  go_ret2
  exact ⟨⟨_, ret2_vi rfl rfl, .nil _⟩, below_drewN (Below.refl _ _) _⟩

set_option maxHeartbeats 2000000 in
theorem runwrap_walk (b off n cap : Nat) (zs : List Int) (B : Nat) (w : World) (hz : zs.length = n) (hn0 : 0 < n) (hn : n ≤ 5000) (hb2 : 2 ≤ B) (hb48 : B ≤ 48) (hlt : b < w.heap.size)
    (hc : ∀ j, j < n → w.cell? ⟨b, off + j, none⟩ = some (.int .i64 (zs.getD j 0))) :
    Calls Try.prog 14 #[.slice (some ⟨b, off, none⟩) n cap, .int .i64 B] w fun e w' => (∃ u, e = .returned (.tuple #[u, .int .i64 (unwrapF zs B)]) ∧ Nums w' u (unwrapL zs B)) ∧ Below w.heap.size w w' := by
  obtain ⟨i0, hi, hi0, hi1, hi2⟩ := info_parts Try.infoInt
  obtain ⟨p0, p1⟩ := pow_bd B hb2 hb48
  obtain ⟨h0, h1⟩ := half_bd B hb2 hb48
  have ck : ckF n B = 0 := by unfold ckF; rw [if_neg (by omega), if_neg (by omega)]
  have CK := Lib.hid ck; clear ck
  have HZ := Lib.hid hz; clear hz
  have HC := Lib.hid hc; clear hc
  go_enter Try.func14, Try.ntmps14
  go_wp2_with fail
  go_quiet (fail)
  go_wp2_with fail
  go_loopw [6, 9] (fun v i wr => ∃ (k : Nat) (ts : List Int), k ≤ n ∧ i = .int .i64 k ∧ wr.ownsRow w.heap.size 3 1 v k (ts.map (Value.int .i64)) ∧ Below w.heap.size w wr ∧ Hid (unwrapTo B zs k = some ts)) (fun _ i _ => n - (intOf i).toNat)
  case atStart => exact ⟨0, [], Nat.zero_le _, rfl, World.ownsRow_nil _ _ _ _, below_drewN (Below.refl _ _) _, Lib.hid rfl⟩
  case round =>
    obtain ⟨k, ts, hk, rfl, hown, hbel, HT⟩ := hrel
    have hl := unwrapTo_len B zs k ts HT.out
    have HL := Lib.hid hl
    by_cases hlt2 : k < n
    · obtain ⟨c, hz⟩ : ∃ z, zs.getD k 0 = z := ⟨_, rfl⟩
      have HZK := Lib.hid hz
      have hcell : wr.cell? ⟨b, off + k, none⟩ = some (.int .i64 c) := by
        rw [hbel.cell (p := ⟨b, off + k, none⟩) hlt, HC.out k hlt2, hz]
      have HB := Lib.hid (unwrap_bad zs B n k ts HZ.out CK.out hlt2 HT.out)
      have HS := Lib.hid (unwrap_step zs B k ts HT.out)
      have hsz := hbel.size
      by_cases hcr : 0 ≤ c ∧ c < 2 ^ B
      · by_cases hk0 : k = 0
        · have hk1 : k < 1 := by omega
          have hnx : unwrapNext B ts c = c := by simp [unwrapNext, hl, hk0]
          have ht : isTimeN c := ⟨by omega, by omega⟩
          have HNX := Lib.hid hnx
          have T := Lib.hid ht
          have CR := Lib.hid hcr
          obtain ⟨c0, c1⟩ := hcr
          clear hl hz hnx ht hk0
          go_wp2_with (first | (go_at_call 34; refine (refTime_yes _ _ T.out).mono ?_; rintro e w' ⟨rfl, rfl⟩) | (at_builtin; refine wpList_append_own _ rfl _ _ 27 rfl w.heap.size 3 i0 (.int .i64 0) 1 8 Try.underlying27 hi hi0 hi1 hi2 rfl (by decide) _ _ _ rfl (hown.alloc _) ⟨wr.heap.size, 0, none⟩ 1 1 [.int .i64 c] rfl rfl ?c1 ?c2 ?c3 ?c4 ?c5 ?_))
          case c1 => exact cell_one_new _ _ _
          case c2 => simp [Value.oneCell']
          case c3 => unfold maxLen; omega
          case c4 => omega
          case c5 => simp; omega
          intro v' w1 hown1 hgrow _
          have hb2 : Below w.heap.size w w1 := ((hbel.alloc (by omega) _).grown hgrow (by simp; omega) (fun q hq => (hown.lt q hq).1))
          clear hgrow hown hcell
          go_wp2
          go_roundw
          case rel =>
            refine ⟨k + 1, _, by omega, by go_num, ?_, hb2, Lib.hid (HS.out (by rw [HZK.out, HNX.out]; exact ⟨CR.out, T.out⟩))⟩
            rw [HZK.out, HNX.out]
            simpa using hown1
          case measure => simp [intOf]; omega
        · obtain ⟨j, rfl⟩ : ∃ j, k = j + 1 := ⟨k - 1, by omega⟩
          obtain ⟨p, hp⟩ : ∃ p, ts.getD j 0 = p := ⟨_, rfl⟩
          have htp : isTimeN p := by
            have := unwrapTo_time B zs _ ts HT.out p (by rw [← hp, getD_eq_get _ _ (by omega)]; exact List.getElem_mem _)
            exact this
          have hnx : unwrapNext B ts c = p - 2 ^ (B - 1) + (c - p + 2 ^ (B - 1)) % 2 ^ B := by simp only [unwrapNext, hl, Nat.add_sub_cancel, hp, if_neg (Nat.succ_ne_zero j)]
          have m0 := Int.emod_nonneg (c - p + 2 ^ (B - 1)) (show (2 : Int) ^ B ≠ 0 by omega)
          have m1 := Int.emod_lt_of_pos (c - p + 2 ^ (B - 1)) (show (0 : Int) < 2 ^ B by omega)
          obtain ⟨g, cap2, hform, -, -⟩ := World.ownsRow.form hown (by omega)
          rw [hform] at hown ⊢
          have hprev : wr.cell? ⟨g, j, none⟩ = some (.int .i64 p) := by
            rw [World.ownsRow.cellAt hown j (by omega), List.getElem?_map, List.getElem?_eq_getElem (by omega), ← hp, getD_eq_get _ _ (by omega)]
            rfl
          obtain ⟨x, hx⟩ : ∃ x, (c - p + 2 ^ (B - 1)) % 2 ^ B = x := ⟨_, rfl⟩
          rw [hx] at hnx m0 m1
          have HX := Lib.hid hx
          have HNX := Lib.hid hnx
          have CR := Lib.hid hcr
          obtain ⟨c0, c1⟩ := hcr
          obtain ⟨p2, p3⟩ := htp
          clear hl hz hnx hk0 hx hp hform
          by_cases ht : isTimeN (p - 2 ^ (B - 1) + x)
          · have T := Lib.hid ht
            clear ht
            go_wp2_with fail
            refine (modulo_to _ _ _ (by omega) (by omega) (by omega) (by omega)).mono ?_; rintro e w' ⟨rfl, rfl⟩
            rw [show c - (p - 2 ^ (B - 1)) = c - p + 2 ^ (B - 1) by omega, HX.out]
            go_wp2_with fail
            refine (refTime_yes _ _ T.out).mono ?_; rintro e w' ⟨rfl, rfl⟩
            go_wp2_with (at_builtin; refine wpList_append_own _ rfl _ _ 27 rfl w.heap.size 3 i0 (.int .i64 0) 1 8 Try.underlying27 hi hi0 hi1 hi2 rfl (by decide) _ _ _ rfl (hown.alloc _) ⟨wr.heap.size, 0, none⟩ 1 1 [.int .i64 (p - 2 ^ (B - 1) + x)] rfl rfl ?c1 ?c2 ?c3 ?c4 ?c5 ?_)
            case c1 => exact cell_one_new _ _ _
            case c2 => simp [Value.oneCell']
            case c3 => unfold maxLen; omega
            case c4 => omega
            case c5 => simp; omega
            intro v' w1 hown1 hgrow _
            have hb2 : Below w.heap.size w w1 := ((hbel.alloc (by omega) _).grown hgrow (by simp; omega) (fun q hq => (hown.lt q hq).1))
            clear hgrow hown hcell
            go_wp2
            go_roundw
            case rel =>
              refine ⟨j + 1 + 1, _, by omega, by go_num, ?_, hb2, Lib.hid (HS.out (by rw [HZK.out, HNX.out]; exact ⟨CR.out, T.out⟩))⟩
              rw [HZK.out, HNX.out]
              simpa using hown1
            case measure => simp [intOf]; omega
          · obtain ⟨f1, f2⟩ := HB.out (by rw [HZK.out, HNX.out]; exact fun h => ht h.2)
            have F1 := Lib.hid f1
            have F2 := Lib.hid f2
            have T := Lib.hid ht
            clear ht f1 f2
            go_wp2_with fail
            refine (modulo_to _ _ _ (by omega) (by omega) (by omega) (by omega)).mono ?_; rintro e w' ⟨rfl, rfl⟩
            rw [show c - (p - 2 ^ (B - 1)) = c - p + 2 ^ (B - 1) by omega, HX.out]
            go_wp2_with fail
            refine (refTime_no _ _ T.out).mono ?_; rintro e w' ⟨rfl, rfl⟩
            go_wp2
            go_ret2
            exact ⟨⟨_, ret2_vi rfl F1.out.symm, by rw [F2.out]; exact .nil _⟩, hbel⟩
      · obtain ⟨f1, f2⟩ := HB.out (by rw [HZK.out]; exact fun h => hcr h.1)
        have F1 := Lib.hid f1
        have F2 := Lib.hid f2
        clear f1 f2 hl hz
        by_cases hc0 : c < 0
        · clear hcr
          go_wp2
          go_ret2
          exact ⟨⟨_, ret2_vi rfl F1.out.symm, by rw [F2.out]; exact .nil _⟩, hbel⟩
        · have hc1 : 2 ^ B ≤ c := by omega
          clear hcr
          go_wp2
          go_ret2
          exact ⟨⟨_, ret2_vi rfl F1.out.symm, by rw [F2.out]; exact .nil _⟩, hbel⟩
    · have hkn : k = n := by omega
      obtain ⟨f1, f2⟩ := unwrap_good zs B n ts HZ.out CK.out (by rw [← hkn]; exact HT.out)
      have F1 := Lib.hid f1
      have F2 := Lib.hid f2
      have HKN := Lib.hid hkn
      clear f1 f2 hkn hl
      go_wp2
      go_ret2
      refine ⟨⟨_, ret2_vi rfl F1.out.symm, ?_⟩, hbel⟩
      rw [F2.out]
      rw [← HL.out] at hown
      exact Nums.ofOwn (base := w.heap.size) (e := 3) hown

/-- The reference's Unwrap, whatever the input. -/
theorem runwrap_any (v : Value) (zs : List Int) (bits : Int) (w : World) (h : Nums w v zs) :
    Calls Try.prog 14 #[v, .int .i64 bits] w fun e w' => (∃ u, e = .returned (.tuple #[u, .int .i64 (unwrapF zs bits)]) ∧ Nums w' u (unwrapL zs bits)) ∧ Below w.heap.size w w' := by
  obtain ⟨pl1, pl2⟩ := unwrap_plain zs bits
  by_cases hf : ckF zs.length bits = 0
  · obtain ⟨⟨B, rfl, hb2, hb48⟩, h5⟩ := ckF_zero hf
    rcases h with ⟨a, c, rfl, rfl⟩ | ⟨b, o, c, rfl, hne, hlt, hm, hc⟩
    · rw [(pl2 hf rfl).1, (pl2 hf rfl).2]
      exact runwrap_empty a c B w hb2 hb48
    · exact runwrap_walk b o _ c zs B w rfl (List.length_pos_iff.2 hne) h5 hb2 hb48 hlt hc
  · rw [(pl1 hf).1, (pl1 hf).2]
    obtain ⟨a, c, rfl, hm⟩ := h.parts
    exact runwrap_err a _ c bits w hm hf

end Go.Proofs.Ytnjmjdbilblieaa
