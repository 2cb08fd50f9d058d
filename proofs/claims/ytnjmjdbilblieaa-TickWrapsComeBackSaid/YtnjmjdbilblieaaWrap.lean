/- tick.Wrap and the reference's Wrap: both return the same numbers, or the same fault. -/
import Derived.Test.YtnjmjdbilblieaaInts
import Derived.Deep.RegionHeld3
import Derived.Deep.AppendLies
namespace Go.Proofs.Ytnjmjdbilblieaa
set_option linter.unusedVariables false
set_option linter.unusedSimpArgs false
open Go.RowKit

theorem Try.infoInt : (Try.prog.info? 3).map (fun i => (i.zero, i.size, i.bytes)) = some (some (.int .i64 0), 1, 8) := by kernel_rfl

/-- The fault of a list of counters, before its numbers are looked at. -/
def ckF (n : Nat) (bits : Int) : Int := if bits < 2 ∨ 48 < bits then 1 else if 5000 < n then 2 else 0

set_option maxHeartbeats 400000 in
theorem check_any (a : Option Addr) (n c : Nat) (bits : Int) (w : World) (hn : n ≤ maxLen) :
    Calls Try.prog 33 #[.slice a n c, .int .i64 bits] w fun e w' => e = .returned (.int .i64 (ckF n bits)) ∧ w = w' := by
  unfold maxLen at hn
  by_cases hb : bits < 2 ∨ 48 < bits
  · have e0 : ckF n bits = 1 := by simp only [ckF, if_pos hb]
    have E0 := Lib.hid e0; clear e0
    go_enter Try.func33, Try.ntmps33
    go_wp2_with fail
    refine (within_no _ _ _ _ (by omega)).mono ?_; rintro e w' ⟨rfl, rfl⟩
    go_wp2_with fail
    go_ret
    exact ⟨ret_int E0.out.symm, rfl⟩
  · by_cases h5 : 5000 < n
    · have e0 : ckF n bits = 2 := by simp only [ckF, if_neg hb, if_pos h5]
      have E0 := Lib.hid e0; clear e0
      go_enter Try.func33, Try.ntmps33
      go_wp2_with fail
      refine (within_yes _ _ _ _ (by omega) (by omega)).mono ?_; rintro e w' ⟨rfl, rfl⟩
      go_wp2_with fail
      go_ret
      exact ⟨ret_int E0.out.symm, rfl⟩
    · have e0 : ckF n bits = 0 := by simp only [ckF, if_neg hb, if_neg h5]
      have E0 := Lib.hid e0; clear e0
      go_enter Try.func33, Try.ntmps33
      go_wp2_with fail
      refine (within_yes _ _ _ _ (by omega) (by omega)).mono ?_; rintro e w' ⟨rfl, rfl⟩
      go_wp2_with fail
      go_ret
      exact ⟨ret_int E0.out.symm, rfl⟩

/-- A number's lowest bits. -/
theorem and_mask (x : Int) (b : Nat) (hb : b ≤ 48) (h0 : -9223372036854775808 ≤ x) (h1 : x ≤ 9223372036854775807) : bits .and .i64 x (2 ^ b - 1) = x % 2 ^ b := by
  have hp : (0 : Int) < 2 ^ b := Int.pow_pos (by omega)
  have hp2 : (2 : Int) ^ b * 2 ^ (64 - b) = 18446744073709551616 := by
    rw [← Int.pow_add, show b + (64 - b) = 64 by omega]; rfl
  have hp3 : (2 : Int) ^ b ≤ 281474976710656 := by
    have h : (2 : Int) ^ b * 2 ^ (48 - b) = 281474976710656 := by rw [← Int.pow_add, show b + (48 - b) = 48 by omega]; rfl
    have h2 : (0 : Int) < 2 ^ (48 - b) := Int.pow_pos (by omega)
    have := Int.mul_le_mul_of_nonneg_left (show (1 : Int) ≤ 2 ^ (48 - b) by omega) (show (0 : Int) ≤ 2 ^ b by omega)
    omega
  have e1 : ((2 ^ b - 1 : Nat) : Int) = (2 : Int) ^ b - 1 := by
    have : 1 ≤ 2 ^ b := Nat.one_le_two_pow
    rw [Int.natCast_sub this]; simp
  have n1 : 2 ^ b - 1 < 18446744073709551616 := by omega
  show IntKind.i64.wrap ((BitVec.ofInt 64 x &&& BitVec.ofInt 64 (2 ^ b - 1)).toNat : Int) = _
  rw [← e1, BitVec.toNat_and, ofInt_u64 _ n1, Nat.and_two_pow_sub_one_eq_mod, BitVec.toNat_ofInt]
  have e2 : (((x % ((2 ^ 64 : Nat) : Int)).toNat % 2 ^ b : Nat) : Int) = x % 2 ^ b := by
    rw [Int.natCast_emod, Int.toNat_of_nonneg (Int.emod_nonneg _ (by omega))]
    have e3 : ((2 ^ 64 : Nat) : Int) = 2 ^ b * 2 ^ (64 - b) := by rw [hp2]; rfl
    have e4 : ((2 ^ b : Nat) : Int) = 2 ^ b := by simp
    rw [e3, e4, Int.emod_emod_of_dvd _ (Int.dvd_mul_right _ _)]
  rw [e2, IntKind.wrap_i64]
  have := Int.emod_nonneg x (show (2 : Int) ^ b ≠ 0 by omega)
  have := Int.emod_lt_of_pos x hp
  omega

theorem pow_bd (b : Nat) (h2 : 2 ≤ b) (hb : b ≤ 48) : (4 : Int) ≤ 2 ^ b ∧ (2 : Int) ^ b ≤ 281474976710656 := by
  constructor
  · have h : (2 : Int) ^ (b - 2) * 2 ^ 2 = 2 ^ b := by rw [← Int.pow_add, show b - 2 + 2 = b by omega]
    have h2 : (0 : Int) < 2 ^ (b - 2) := Int.pow_pos (by omega)
    omega
  · have h : (2 : Int) ^ b * 2 ^ (48 - b) = 281474976710656 := by rw [← Int.pow_add, show b + (48 - b) = 48 by omega]; rfl
    have h2 : (0 : Int) < 2 ^ (48 - b) := Int.pow_pos (by omega)
    have h3 : (0 : Int) < 2 ^ b := Int.pow_pos (by omega)
    have := Int.mul_le_mul_of_nonneg_left (show (1 : Int) ≤ 2 ^ (48 - b) by omega) (show (0 : Int) ≤ 2 ^ b by omega)
    omega

/-- Wrap's fault and numbers. -/
def wrapF (zs : List Int) (bits : Int) : Int := if ckF zs.length bits ≠ 0 then ckF zs.length bits else if ∀ z ∈ zs, isTimeN z then 0 else 1
def wrapL (zs : List Int) (bits : Int) : List Int := if wrapF zs bits = 0 then zs.map (· % 2 ^ bits.toNat) else []

/-- What is in the new row after k rounds. -/
def wrapTo (zs : List Int) (b k : Nat) : List Int := (zs.take k).map (· % 2 ^ b) ++ List.replicate (zs.length - k) 0

theorem wrapTo_succ (zs : List Int) (b k : Nat) (h : k < zs.length) : (wrapTo zs b k).set k (zs.getD k 0 % 2 ^ b) = wrapTo zs b (k + 1) := by
  unfold wrapTo
  rw [List.set_append_right _ _ (by simp; omega)]
  have e1 : zs.length - k = (zs.length - (k + 1)) + 1 := by omega
  rw [List.length_map, List.length_take, show k - min k zs.length = 0 by omega, e1, List.replicate_succ, List.set_cons_zero, List.take_succ_eq_append_getElem h, List.map_append, getD_eq_get _ _ h]
  simp

theorem wrapTo_at (zs : List Int) (b k : Nat) (h : k < zs.length) : ((wrapTo zs b k).map (Value.int .i64))[k]? = some (.int .i64 0) := by
  unfold wrapTo
  rw [List.map_append, List.getElem?_append_right (by simp; omega), List.length_map, List.length_map, List.length_take, show k - min k zs.length = 0 by omega, show zs.length - k = (zs.length - (k + 1)) + 1 by omega, List.replicate_succ]
  rfl

theorem wrapTo_zero (zs : List Int) (b : Nat) : wrapTo zs b 0 = List.replicate zs.length 0 := by simp [wrapTo]
theorem wrapTo_all (zs : List Int) (b : Nat) : wrapTo zs b zs.length = zs.map (· % 2 ^ b) := by simp [wrapTo]
theorem wrapTo_len (zs : List Int) (b k : Nat) (h : k ≤ zs.length) : (wrapTo zs b k).length = zs.length := by simp [wrapTo]; omega

set_option maxHeartbeats 1000000 in
theorem wrap_walk (b off n cap : Nat) (zs : List Int) (B : Nat) (w : World) (hz : zs.length = n) (hn0 : 0 < n) (hn : n ≤ 5000) (hb2 : 2 ≤ B) (hb48 : B ≤ 48) (hlt : b < w.heap.size)
    (hc : ∀ j, j < n → w.cell? ⟨b, off + j, none⟩ = some (.int .i64 (zs.getD j 0))) :
    Calls Try.prog 11 #[.slice (some ⟨b, off, none⟩) n cap, .int .i64 B] w fun e w' => (∃ u, e = .returned (.tuple #[u, .int .i64 (wrapF zs B)]) ∧ Nums w' u (wrapL zs B)) ∧ Below w.heap.size w w' := by
  obtain ⟨i0, hi, hi0, hi1, hi2⟩ := info_parts Try.infoInt
  obtain ⟨p0, p1⟩ := pow_bd B hb2 hb48
  have ck : ckF n B = 0 := by unfold ckF; rw [if_neg (by omega), if_neg (by omega)]
  have CK := Lib.hid ck; clear ck
  have HZ := Lib.hid hz; clear hz
  have HC := Lib.hid hc; clear hc
  go_enter Try.func11, Try.ntmps11
  go_wp2_with fail
  refine (check_any _ _ _ _ _ (by unfold maxLen; omega)).mono ?_; rintro e w' ⟨rfl, rfl⟩
  rw [CK.out]
  go_wp2_with (at_make; refine wpList_make_full _ rfl _ _ 27 rfl w.heap.size 3 i0 (.int .i64 0) 1 Try.underlying27 hi hi0 hi1 _ _ _ _ n rfl rfl rfl rfl ?c1 ?c2 ?c3 ?_)
  case c1 => rw [hi2]; omega
  case c2 => unfold maxLen; omega
  case c3 => exact Nat.le_refl _
  intro w1 hown hgrow
  have hbel : Below w.heap.size w w1 := (Below.refl _ _).grown hgrow (Nat.le_refl _) (by simp)
  have hown0 : w1.ownsRow w.heap.size 3 1 (.slice (some ⟨w.heap.size, 0, none⟩) n n) n ((wrapTo zs B 0).map (Value.int .i64)) := by
    rw [wrapTo_zero, HZ.out]
    have := toList_madeCells_one (.int .i64 0) n
    rw [this] at hown
    simpa using hown
  clear hown hgrow
  go_wp2
  go_loopw [25] (fun i wr => ∃ k : Nat, k ≤ n ∧ i = .int .i64 k ∧ wr.ownsRow w.heap.size 3 1 (.slice (some ⟨w.heap.size, 0, none⟩) n n) n ((wrapTo zs B k).map (Value.int .i64)) ∧ Below w.heap.size w wr ∧ Hid (∀ j, j < k → isTimeN (zs.getD j 0))) (fun i _ => n - (intOf i).toNat)
  case atStart => exact ⟨0, Nat.zero_le _, rfl, hown0, hbel, Lib.hid (fun j hj => by omega)⟩
  case round =>
    clear hown0 hbel
    obtain ⟨k, hk, rfl, hown, hbel, HT⟩ := hrel
    obtain ⟨z, hz⟩ : ∃ z, zs.getD k 0 = z := ⟨_, rfl⟩
    have HZK := Lib.hid hz
    by_cases hlt2 : k < n
    · have hcell : wr.cell? ⟨b, off + k, none⟩ = some (.int .i64 z) := by
        rw [hbel.cell (p := ⟨b, off + k, none⟩) hlt, HC.out k hlt2, hz]
      have hrow : wr.cell? ⟨w.heap.size, k, none⟩ = some (.int .i64 0) := by
        rw [World.ownsRow.cellAt hown k (by omega)]
        rw [wrapTo_at zs B k (by have := HZ.out; omega)]
      have hfz := World.ownsRow.frozenAt hown k
      have hst := fun u => World.ownsRow.stored hown k u
      have HST := Lib.hid hst
      clear hz hst
      by_cases ht : isTimeN z
      · have T := Lib.hid ht
        obtain ⟨t0, t1⟩ := ht
        go_wp2_with (go_at_call 29; refine (isTime_yes _ _ T.out).mono ?_; rintro e w' ⟨rfl, rfl⟩)
        rw [and_mask z B hb48 (by omega) (by omega)]
        go_roundw
        case rel =>
          refine ⟨k + 1, by omega, by go_num, ?_, hbel.setCell (Nat.le_refl _) _, Lib.hid (fun j hj => ?_)⟩
          · have := (HST.out (.int .i64 (z % 2 ^ B))).1
            rw [← wrapTo_succ zs B k (by have := HZ.out; omega), List.map_set, HZK.out]
            exact this
          · by_cases hjk : j = k
            · subst hjk; rw [HZK.out]; exact T.out
            · exact HT.out j (by omega)
        case measure => simp [intOf]; omega
      · have hF : wrapF zs B = 1 := by
          unfold wrapF
          rw [HZ.out, CK.out, if_neg (by simp), if_neg]
          intro h
          refine ht ?_
          rw [← HZK.out, getD_eq_get _ _ (by have := HZ.out; omega)]
          exact h _ (List.getElem_mem _)
        have HF := Lib.hid hF
        have T := Lib.hid ht
        clear hF ht
        go_wp2_with (go_at_call 29; refine (isTime_no _ _ T.out).mono ?_; rintro e w' ⟨rfl, rfl⟩)
        go_ret2
        exact ⟨⟨_, ret2_vi rfl HF.out.symm, by rw [wrapL, HF.out]; exact .nil _⟩, hbel⟩
    · have hkn : k = n := by omega
      have hF : wrapF zs B = 0 := by
        unfold wrapF
        rw [HZ.out, CK.out, if_neg (by simp), if_pos]
        intro x hx
        obtain ⟨j, hj, rfl⟩ := List.getElem_of_mem hx
        rw [← getD_eq_get _ _ hj]
        exact HT.out j (by have := HZ.out; omega)
      have HF := Lib.hid hF
      have HKN := Lib.hid hkn
      clear hF hkn hz
      go_wp2
      go_ret2
      refine ⟨⟨_, ret2_vi rfl HF.out.symm, ?_⟩, hbel⟩
      have e1 : wrapL zs B = wrapTo zs B k := by rw [wrapL, if_pos HF.out, HKN.out, ← HZ.out, wrapTo_all]; simp
      rw [e1]
      have e2 : (wrapTo zs B k).length = n := by rw [wrapTo_len _ _ _ (by have := HZ.out; omega)]; exact HZ.out
      exact Nums.ofOwn (base := w.heap.size) (e := 3) (by rw [e2]; exact hown)

set_option maxHeartbeats 400000 in
theorem wrap_empty (a : Option Addr) (cap : Nat) (B : Nat) (w : World) (hb2 : 2 ≤ B) (hb48 : B ≤ 48) :
    Calls Try.prog 11 #[.slice a 0 cap, .int .i64 B] w fun e w' => (∃ u, e = .returned (.tuple #[u, .int .i64 0]) ∧ Nums w' u []) ∧ Below w.heap.size w w' := by
  obtain ⟨i0, hi, hi0, hi1, hi2⟩ := info_parts Try.infoInt
  obtain ⟨p0, p1⟩ := pow_bd B hb2 hb48
  have ck : ckF 0 B = 0 := by unfold ckF; rw [if_neg (by omega), if_neg (by omega)]
  have CK := Lib.hid ck; clear ck
  go_enter Try.func11, Try.ntmps11
  go_wp2_with fail
  refine (check_any _ _ _ _ _ (by unfold maxLen; omega)).mono ?_; rintro e w' ⟨rfl, rfl⟩
  rw [CK.out]
  go_wp2_with (at_make; refine wpList_make_full _ rfl _ _ 27 rfl w.heap.size 3 i0 (.int .i64 0) 1 Try.underlying27 hi hi0 hi1 _ _ _ _ 0 rfl rfl rfl rfl ?c1 ?c2 ?c3 ?_)
  case c1 => rw [hi2]; omega
  case c2 => unfold maxLen; omega
  case c3 => exact Nat.le_refl _
  intro w1 hown hgrow
  have hbel : Below w.heap.size w w1 := (Below.refl _ _).grown hgrow (Nat.le_refl _) (by simp)
  clear hown hgrow
  go_wp2
  refine wp_loop_rounds 1 ?_
  rw [rounds_succ]
  go_wp2
  go_ret2
  exact ⟨⟨_, ret2_vi rfl rfl, .inl ⟨_, _, rfl, rfl⟩⟩, hbel⟩

set_option maxHeartbeats 400000 in
theorem wrap_err (a : Option Addr) (n cap : Nat) (bits : Int) (w : World) (hn : n ≤ maxLen) (h : ckF n bits ≠ 0) :
    Calls Try.prog 11 #[.slice a n cap, .int .i64 bits] w fun e w' => (∃ u, e = .returned (.tuple #[u, .int .i64 (ckF n bits)]) ∧ Nums w' u []) ∧ Below w.heap.size w w' := by
  obtain ⟨f, hf⟩ : ∃ f, ckF n bits = f := ⟨_, rfl⟩
  rw [hf] at h
  have HF := Lib.hid hf
  clear hf
  have hb : (f == 0) = false := by simp [h]
  go_enter Try.func11, Try.ntmps11
  go_wp2_with fail
  refine (check_any _ _ _ _ _ hn).mono ?_; rintro e w' ⟨rfl, rfl⟩
  rw [HF.out]
  go_wp2
  go_ret2
  exact ⟨⟨_, ret2_vi rfl HF.out.symm, .nil _⟩, Below.refl _ _⟩

theorem ckF_zero {n : Nat} {bits : Int} (h : ckF n bits = 0) : (∃ B : Nat, bits = B ∧ 2 ≤ B ∧ B ≤ 48) ∧ n ≤ 5000 := by
  unfold ckF at h
  split at h
  · omega
  · split at h
    · omega
    · exact ⟨⟨bits.toNat, by omega, by omega, by omega⟩, by omega⟩

theorem Nums.parts {w : World} {v : Value} {zs : List Int} (h : Nums w v zs) : ∃ a cap, v = .slice a zs.length cap ∧ zs.length ≤ maxLen := by
  rcases h with ⟨a, c, rfl, rfl⟩ | ⟨b, o, c, rfl, -, -, hm, -⟩
  · exact ⟨a, c, rfl, by simp [maxLen]⟩
  · exact ⟨_, c, rfl, hm⟩

/-- tick.Wrap, whatever the input. -/
theorem wrap_any (v : Value) (zs : List Int) (bits : Int) (w : World) (h : Nums w v zs) :
    Calls Try.prog 11 #[v, .int .i64 bits] w fun e w' => (∃ u, e = .returned (.tuple #[u, .int .i64 (wrapF zs bits)]) ∧ Nums w' u (wrapL zs bits)) ∧ Below w.heap.size w w' := by
  by_cases hf : ckF zs.length bits = 0
  · obtain ⟨⟨B, rfl, hb2, hb48⟩, h5⟩ := ckF_zero hf
    rcases h with ⟨a, c, rfl, rfl⟩ | ⟨b, o, c, rfl, hne, hlt, hm, hc⟩
    · have e1 : wrapF [] (B : Int) = 0 := by
        have e : ckF (([] : List Int).length) B = 0 := hf
        unfold wrapF; rw [e, if_neg (by simp), if_pos (by simp)]
      have e2 : wrapL [] (B : Int) = [] := by simp [wrapL]
      rw [e1, e2]
      exact wrap_empty a c B w hb2 hb48
    · exact wrap_walk b o _ c zs B w rfl (List.length_pos_iff.2 hne) h5 hb2 hb48 hlt hc
  · have e1 : wrapF zs bits = ckF zs.length bits := by simp [wrapF, hf]
    have e2 : wrapL zs bits = [] := by rw [wrapL, if_neg (by rw [e1]; exact hf)]
    rw [e1, e2]
    obtain ⟨a, c, rfl, hm⟩ := h.parts
    exact wrap_err a _ c bits w hm hf

/-! ### The reference -/
theorem refTime_yes (n : Int) (w : World) (h : isTimeN n) :
    Calls Try.prog 34 #[.int .i64 n] w fun e w' => e = .returned (.bool true) ∧ w = w' := by
  obtain ⟨h1, h2⟩ := h
  go_enter Try.func34, Try.ntmps34
  go_wp2
  go_ret
  exact ⟨rfl, rfl⟩

theorem refTime_no (n : Int) (w : World) (h : ¬ isTimeN n) :
    Calls Try.prog 34 #[.int .i64 n] w fun e w' => e = .returned (.bool false) ∧ w = w' := by
  have h' : n < -1000000000000000 ∨ 1000000000000000 < n := by unfold isTimeN at h; omega
  clear h
  by_cases h1 : n < -1000000000000000
  · clear h'
    go_enter Try.func34, Try.ntmps34
    go_wp2
    go_ret
    exact ⟨rfl, rfl⟩
  · have h2 : decide (n ≤ 1000000000000000) = false := by simp; omega
    clear h'
    go_enter Try.func34, Try.ntmps34
    go_wp2
    go_ret
    exact ⟨rfl, rfl⟩

theorem tmod_neg (n m : Int) (hn : n < 0) (hm : 0 < m) : -m < n.tmod m ∧ n.tmod m ≤ 0 ∧ n.tmod m % m = n % m := by
  have e : n.tmod m = -((-n) % m) := by
    rw [← Int.tmod_eq_emod_of_nonneg (show 0 ≤ -n by omega), Int.neg_tmod, Int.neg_neg]
  have r0 := Int.emod_nonneg (-n) (show m ≠ 0 by omega)
  have r1 := Int.emod_lt_of_pos (-n) hm
  have d := Int.mul_ediv_add_emod (-n) m
  rw [e]
  refine ⟨by omega, by omega, ?_⟩
  have : n = -((-n) % m) + m * (-((-n) / m)) := by rw [Int.mul_neg]; omega
  conv => rhs; rw [this]
  rw [Int.add_mul_emod_self_left]

set_option maxHeartbeats 400000 in
theorem modulo_any (n m : Int) (w : World) (hm : 0 < m) (hm2 : m ≤ 1000000000000000) (h0 : -4000000000000000000 ≤ n) (h1 : n ≤ 4000000000000000000) :
    Calls Try.prog 35 #[.int .i64 n, .int .i64 m] w fun e w' => e = .returned (.int .i64 (n % m)) ∧ w' = w := by
  have e1 : (m == 0) = false := by simp; omega
  by_cases hn : 0 ≤ n
  · have r0 := Int.emod_nonneg n (show m ≠ 0 by omega)
    have r1 := Int.emod_lt_of_pos n hm
    go_enter Try.func35, Try.ntmps35
    go_wp2
    go_ret
    exact ⟨ret_int (by simp), rfl⟩
  · obtain ⟨t0, t1, k⟩ := tmod_neg n m (by omega) hm
    have K := Lib.hid k
    clear k
    go_enter Try.func35, Try.ntmps35
    go_wp2
    go_ret
    exact ⟨ret_int K.out, rfl⟩

set_option maxHeartbeats 1000000 in
theorem rwrap_walk (b off n cap : Nat) (zs : List Int) (B : Nat) (w : World) (hz : zs.length = n) (hn0 : 0 < n) (hn : n ≤ 5000) (hb2 : 2 ≤ B) (hb48 : B ≤ 48) (hlt : b < w.heap.size)
    (hc : ∀ j, j < n → w.cell? ⟨b, off + j, none⟩ = some (.int .i64 (zs.getD j 0))) :
    Calls Try.prog 12 #[.slice (some ⟨b, off, none⟩) n cap, .int .i64 B] w fun e w' => (∃ u, e = .returned (.tuple #[u, .int .i64 (wrapF zs B)]) ∧ Nums w' u (wrapL zs B)) ∧ Below w.heap.size w w' := by
  obtain ⟨i0, hi, hi0, hi1, hi2⟩ := info_parts Try.infoInt
  obtain ⟨p0, p1⟩ := pow_bd B hb2 hb48
  have ck : ckF n B = 0 := by unfold ckF; rw [if_neg (by omega), if_neg (by omega)]
  have CK := Lib.hid ck; clear ck
  have HZ := Lib.hid hz; clear hz
  have HC := Lib.hid hc; clear hc
  go_enter Try.func12, Try.ntmps12
  go_wp2_with fail
  go_loopw [6, 7] (fun v i wr => ∃ k : Nat, k ≤ n ∧ i = .int .i64 k ∧ wr.ownsRow w.heap.size 3 1 v k (((zs.take k).map (· % 2 ^ B)).map (Value.int .i64)) ∧ Below w.heap.size w wr ∧ Hid (∀ j, j < k → isTimeN (zs.getD j 0))) (fun _ i _ => n - (intOf i).toNat)
  case atStart => exact ⟨0, Nat.zero_le _, rfl, World.ownsRow_nil _ _ _ _, Below.refl _ _, Lib.hid (fun j hj => by omega)⟩
  case round =>
    obtain ⟨k, hk, rfl, hown, hbel, HT⟩ := hrel
    obtain ⟨z, hz⟩ : ∃ z, zs.getD k 0 = z := ⟨_, rfl⟩
    have HZK := Lib.hid hz
    by_cases hlt2 : k < n
    · have hcell : wr.cell? ⟨b, off + k, none⟩ = some (.int .i64 z) := by
        rw [hbel.cell (p := ⟨b, off + k, none⟩) hlt, HC.out k hlt2, hz]
      have hsz := hbel.size
      clear hz
      by_cases ht : isTimeN z
      · have T := Lib.hid ht
        obtain ⟨t0, t1⟩ := ht
        go_wp2_with (go_at_call 34; refine (refTime_yes _ _ T.out).mono ?_; rintro e w' ⟨rfl, rfl⟩)
        have hv : u6.ownBlock ≠ some b := by
          intro h
          have := hown.lt b h
          omega
        have hxl : ((zs.take k).map (· % 2 ^ B)).length = k := by simp; have := HZ.out; omega
        have HXL := Lib.hid hxl
        have k0 : (0 : Int) ≤ (k : Int) := Int.natCast_nonneg _
        have k1 : (k : Int) < (n : Int) := by omega
        have hzm : 0 ≤ z % 2 ^ B ∧ z % 2 ^ B < 2 ^ B := ⟨Int.emod_nonneg _ (by omega), Int.emod_lt_of_pos _ (by omega)⟩
        have hwr : IntKind.i64.wrap (2 ^ B) = 2 ^ B := IntWalk.i64_in _ ⟨by omega, by omega⟩
        clear hxl
        go_region_held3 (fun w' => w'.cell? ⟨b, off + k, none⟩ = some (.int .i64 z))
          (first | go_keep | (rw [hgrow.cell_far _ (by simp; omega) (Ne.symm hv)]; assumption))
          (first
            | (go_at_call 35; refine (modulo_any _ _ _ (by omega) (by omega) (by omega) (by omega)).mono ?_; rintro e w' ⟨rfl, rfl⟩)
            | (refine step_append_lies _ (by rfl) _ _ _ (by rfl) w.heap.size 3 i0 _ 1 8 Try.underlying27 hi hi0 hi1 hi2 rfl (by omega) u6 k _ (by rfl) ((hown.alloc _).drew) ⟨wr.heap.size, 0, none⟩ 1 1 [.int .i64 (z % 2 ^ B)] (by rfl) (by rfl) (World.news_of_block (cs := #[.int .i64 (z % 2 ^ B)]) (t := 3) (fr := (0, 0)) (heap_alloc_new wr _)) (by simp [Value.oneCell']) (by omega) (by unfold maxLen; omega) (by omega) (by simp; omega) (wr.heap.size + 1) (by simp) ?_; intro gg cap' w1 hown1 hgrow hat hlt))
        clear hwr
        have hb2 : Below w.heap.size w w1 := (((hbel.alloc (by omega) _).drew).grown hgrow (by simp; omega) (fun q hq => (hown.lt q hq).1))
        clear hgrow hat hlt hown hcell
        go_wp2
        go_roundw
        case rel =>
          refine ⟨k + 1, by omega, by go_num, ?_, hb2, Lib.hid (fun j hj => ?_)⟩
          · rw [List.take_succ_eq_append_getElem (by have := HZ.out; omega), ← getD_eq_get _ _ (by have := HZ.out; omega), HZK.out]
            simpa using hown1
          · by_cases hjk : j = k
            · subst hjk; rw [HZK.out]; exact T.out
            · exact HT.out j (by omega)
        case measure => simp [intOf]; omega
      · have hF : wrapF zs B = 1 := by
          unfold wrapF
          rw [HZ.out, CK.out, if_neg (by simp), if_neg]
          intro h
          refine ht ?_
          rw [← HZK.out, getD_eq_get _ _ (by have := HZ.out; omega)]
          exact h _ (List.getElem_mem _)
        have HF := Lib.hid hF
        have T := Lib.hid ht
        clear hF ht
        go_wp2_with (go_at_call 34; refine (refTime_no _ _ T.out).mono ?_; rintro e w' ⟨rfl, rfl⟩)
        go_ret2
        exact ⟨⟨_, ret2_vi rfl HF.out.symm, by rw [wrapL, HF.out]; exact .nil _⟩, hbel⟩
    · have hkn : k = n := by omega
      have hF : wrapF zs B = 0 := by
        unfold wrapF
        rw [HZ.out, CK.out, if_neg (by simp), if_pos]
        intro x hx
        obtain ⟨j, hj, rfl⟩ := List.getElem_of_mem hx
        rw [← getD_eq_get _ _ hj]
        exact HT.out j (by have := HZ.out; omega)
      have HF := Lib.hid hF
      have HKN := Lib.hid hkn
      clear hF hkn hz
      go_wp2
      go_ret2
      refine ⟨⟨_, ret2_vi rfl HF.out.symm, ?_⟩, hbel⟩
      have e1 : wrapL zs B = (zs.take k).map (· % 2 ^ B) := by rw [wrapL, if_pos HF.out, HKN.out, ← HZ.out, List.take_length]; simp
      rw [e1]
      have e2 : ((zs.take k).map (· % 2 ^ B)).length = k := by simp; have := HZ.out; omega
      exact Nums.ofOwn (base := w.heap.size) (e := 3) (by rw [e2]; exact hown)

set_option maxHeartbeats 400000 in
theorem rwrap_err (a : Option Addr) (n cap : Nat) (bits : Int) (w : World) (hn : n ≤ maxLen) (h : ckF n bits ≠ 0) :
    Calls Try.prog 12 #[.slice a n cap, .int .i64 bits] w fun e w' => (∃ u, e = .returned (.tuple #[u, .int .i64 (ckF n bits)]) ∧ Nums w' u []) ∧ Below w.heap.size w w' := by
  unfold maxLen at hn
  by_cases h1 : bits < 2
  · have hf : ckF n bits = 1 := by simp [ckF, h1]
    have HF := Lib.hid hf; clear hf h
    go_enter Try.func12, Try.ntmps12
    go_wp2
    go_ret2
    exact ⟨⟨_, ret2_vi rfl HF.out.symm, .nil _⟩, Below.refl _ _⟩
  · by_cases h2 : 48 < bits
    · have hf : ckF n bits = 1 := by simp [ckF, h2]
      have HF := Lib.hid hf; clear hf h
      go_enter Try.func12, Try.ntmps12
      go_wp2
      go_ret2
      exact ⟨⟨_, ret2_vi rfl HF.out.symm, .nil _⟩, Below.refl _ _⟩
    · have hf : 5000 < n ∧ ckF n bits = 2 := by
        unfold ckF at h ⊢
        rw [if_neg (by omega)] at h ⊢
        split at h
        · rw [if_pos (by assumption)]; exact ⟨by assumption, rfl⟩
        · omega
      obtain ⟨h5, hf⟩ := hf
      have HF := Lib.hid hf; clear hf h
      go_enter Try.func12, Try.ntmps12
      go_wp2
      go_ret2
      exact ⟨⟨_, ret2_vi rfl HF.out.symm, .nil _⟩, Below.refl _ _⟩

set_option maxHeartbeats 400000 in
theorem rwrap_empty (a : Option Addr) (cap : Nat) (B : Nat) (w : World) (hb2 : 2 ≤ B) (hb48 : B ≤ 48) :
    Calls Try.prog 12 #[.slice a 0 cap, .int .i64 B] w fun e w' => (∃ u, e = .returned (.tuple #[u, .int .i64 0]) ∧ Nums w' u []) ∧ Below w.heap.size w w' := by
  go_enter Try.func12, Try.ntmps12
  go_wp2_with fail
  refine wp_loop_rounds 1 ?_
  rw [rounds_succ]
  go_wp2
  go_ret2
  exact ⟨⟨_, ret2_vi rfl rfl, .nil _⟩, Below.refl _ _⟩

/-- The reference's Wrap, whatever the input. -/
theorem rwrap_any (v : Value) (zs : List Int) (bits : Int) (w : World) (h : Nums w v zs) :
    Calls Try.prog 12 #[v, .int .i64 bits] w fun e w' => (∃ u, e = .returned (.tuple #[u, .int .i64 (wrapF zs bits)]) ∧ Nums w' u (wrapL zs bits)) ∧ Below w.heap.size w w' := by
  by_cases hf : ckF zs.length bits = 0
  · obtain ⟨⟨B, rfl, hb2, hb48⟩, h5⟩ := ckF_zero hf
    rcases h with ⟨a, c, rfl, rfl⟩ | ⟨b, o, c, rfl, hne, hlt, hm, hc⟩
    · have e1 : wrapF [] (B : Int) = 0 := by
        have e : ckF (([] : List Int).length) B = 0 := hf
        unfold wrapF; rw [e, if_neg (by simp), if_pos (by simp)]
      have e2 : wrapL [] (B : Int) = [] := by simp [wrapL]
      rw [e1, e2]
      exact rwrap_empty a c B w hb2 hb48
    · exact rwrap_walk b o _ c zs B w rfl (List.length_pos_iff.2 hne) h5 hb2 hb48 hlt hc
  · have e1 : wrapF zs bits = ckF zs.length bits := by simp [wrapF, hf]
    have e2 : wrapL zs bits = [] := by rw [wrapL, if_neg (by rw [e1]; exact hf)]
    rw [e1, e2]
    obtain ⟨a, c, rfl, hm⟩ := h.parts
    exact rwrap_err a _ c bits w hm hf

end Go.Proofs.Ytnjmjdbilblieaa
