/- MarkSumsAreZero: whatever the input, the law returns true: the walk. -/
import Derived.Test.YtiphipgheadakaaSum
import Derived.Test.YtiphipgheadakaaShelf
import Derived.Deep.AppendLies
import Derived.Deep.SlicePairs
import Derived.Deep.RegionHeld3
namespace Go.Proofs.Ytiphipgheadakaa
set_option linter.unusedVariables false
set_option linter.unusedSimpArgs false
open Go.RowKit Go.Shelf Go.Deep

theorem isByts_four {xs : List Int} {S : Nat} (h : isByts xs) (hS : S < 4294967296) : isByts (xs ++ four S) := by
  intro j hj
  by_cases hlt : j < xs.length
  · have e : (xs ++ four S).getD j 0 = xs.getD j 0 := by rw [List.getD_eq_getElem?_getD, List.getElem?_append_left hlt, ← List.getD_eq_getElem?_getD]
    rw [e]; exact h j hlt
  · obtain ⟨i, rfl⟩ : ∃ i, j = xs.length + i := ⟨j - xs.length, by omega⟩
    rw [four_at]
    have hi : i < 4 := by rw [List.length_append] at hj; have : (four S).length = 4 := rfl; omega
    match i, hi with
    | 0, _ => show 0 ≤ ((S / 16777216 : Nat) : Int) ∧ ((S / 16777216 : Nat) : Int) < 256; omega
    | 1, _ => show 0 ≤ ((S / 65536 % 256 : Nat) : Int) ∧ ((S / 65536 % 256 : Nat) : Int) < 256; omega
    | 2, _ => show 0 ≤ ((S / 256 % 256 : Nat) : Int) ∧ ((S / 256 % 256 : Nat) : Int) < 256; omega
    | 3, _ => show 0 ≤ ((S % 256 : Nat) : Int) ∧ ((S % 256 : Nat) : Int) < 256; omega
theorem clone_any (a : Option Addr) (n cap : Nat) (xs : List Int) (w : World) (hB : Byts w (.slice a n cap) xs) (hn : xs.length = n) (hm : n ≤ 140737488351232) :
    Calls Try.prog 13 #[.slice a n cap] w fun e w' => ∃ v', e = .returned v' ∧ w'.ownsRow w.heap.size 5 1 v' n (xs.map (Value.int .u8)) ∧ Below w.heap.size w w' := by
  by_cases h0 : n = 0
  · subst h0
    cases a with
    | none =>
      refine (Try.bytes_Clone_nil 0 cap w).mono ?_
      rintro e w' ⟨rfl, rfl⟩
      refine ⟨_, rfl, ?_, Below.refl _ _⟩
      have : xs = [] := List.length_eq_zero_iff.1 hn
      subst this
      exact World.ownsRow_nil _ _ _ _
    | some p =>
      refine (Try.bytes_Clone_at p 0 cap xs w hn (by omega) (fun i hi => by omega)).mono ?_
      rintro e w' ⟨v, h1, h2, -, h3⟩
      exact ⟨v, h1, h2, h3⟩
  · obtain ⟨b, off, rfl, hbl, -, -, hc⟩ := hB.spot (by omega)
    refine (Try.bytes_Clone_at ⟨b, off, none⟩ n cap xs w hn (by omega) (fun i hi => by rw [Go.WideShapes.add_plain]; exact hc i hi)).mono ?_
    rintro e w' ⟨v, h1, h2, -, h3⟩
    exact ⟨v, h1, h2, h3⟩
set_option maxRecDepth 100000 in
set_option maxHeartbeats 8000000 in
theorem sumslaw (a : Option Addr) (n cap : Nat) (xs : List Int) (w : World) (hB : Byts w (.slice a n cap) xs) (hn : xs.length = n) (hm : n ≤ 140737488351232) (hby : isByts xs) :
    Calls Try.prog 3 #[.slice a n cap] w fun e w' => e = .returned (.bool true) ∧ Below w.heap.size w w' := by
  have HS : Hid (∀ W, Below w.heap.size w W → Calls Try.prog 12 #[.slice a n cap] W fun e w' => e = .returned (.int .i64 ((sumTo xs n : Nat) : Int)) ∧ W = w') := Lib.hid (fun W hb => sum_any a n cap xs W (hB.below hb (Nat.le_refl _)) hn (by unfold maxLen; omega) hby)
  have HC : Hid (∀ W, Below w.heap.size w W → Calls Try.prog 13 #[.slice a n cap] W fun e w' => ∃ v', e = .returned v' ∧ w'.ownsRow W.heap.size 5 1 v' n (xs.map (Value.int .u8)) ∧ Below W.heap.size W w') := Lib.hid (fun W hb => clone_any a n cap xs W (hB.below hb (Nat.le_refl _)) hn hm)
  have HN := Lib.hid hn; have HY := Lib.hid hby
  have HZ := Lib.hid (sum_zero xs)
  have hSl := sumTo_lt xs n
  obtain ⟨S, hS⟩ : ∃ S, sumTo xs n = S := ⟨_, rfl⟩
  rw [hS] at hSl HS
  have hS0 : (0 : Int) ≤ (S : Int) := by omega
  have hS1 : (S : Int) < 4294967296 := by omega
  have b0 : Below w.heap.size w w := Below.refl _ w
  have HSS := Lib.hid hS
  obtain ⟨i0, hi, hi0, hi1, hi2⟩ := info_parts Try.infoByte8
  clear hB hn hby hS
  go_enter Try.func3, Try.ntmps3
  go_wp2_with fail
  refine (HS.out _ b0).mono ?_; rintro e w1 ⟨rfl, rfl⟩
  have d1 : decide ((4294967296 : Int) ≤ (S : Int)) = false := by simp; omega
  have d2 : decide ((S : Int) < 0) = false := by simp
  have d3 : decide (4294967296 ≤ S) = false := by simp; omega
  go_upto_region 3 with fail
  refine (HC.out _ b0).mono ?_; rintro e w2 ⟨v, rfl, hown, b2⟩
  have q0 : IntKind.u8.wrap ((S : Int) / 16777216) = ((S / 16777216 : Nat) : Int) := by rw [IntKind.wrap_u8']; omega
  have q1 : IntKind.u8.wrap ((S : Int) / 65536) = ((S / 65536 % 256 : Nat) : Int) := by rw [IntKind.wrap_u8']; omega
  have q2 : IntKind.u8.wrap ((S : Int) / 256) = ((S / 256 % 256 : Nat) : Int) := by rw [IntKind.wrap_u8']; omega
  have q3 : IntKind.u8.wrap (S : Int) = ((S % 256 : Nat) : Int) := by rw [IntKind.wrap_u8']; omega
  obtain ⟨A, hA⟩ : ∃ A, ((S / 16777216 : Nat) : Int) = A := ⟨_, rfl⟩
  obtain ⟨B, hB⟩ : ∃ B, ((S / 65536 % 256 : Nat) : Int) = B := ⟨_, rfl⟩
  obtain ⟨C, hC⟩ : ∃ C, ((S / 256 % 256 : Nat) : Int) = C := ⟨_, rfl⟩
  obtain ⟨D, hD⟩ : ∃ D, ((S % 256 : Nat) : Int) = D := ⟨_, rfl⟩
  rw [hA] at q0; rw [hB] at q1; rw [hC] at q2; rw [hD] at q3
  have HA := Lib.hid hA; have HB := Lib.hid hB; have HCC := Lib.hid hC; have HD := Lib.hid hD
  have HSl := Lib.hid hSl
  clear hA hB hC hD d1 d2 d3 hS0 hS1 hSl
  clear HS
  go_wp2_with (at_builtin; refine wpList_append_own _ rfl _ _ 22 rfl w.heap.size 5 i0 (.int .u8 0) 1 1 Try.underlying22 hi hi0 hi1 hi2 rfl (by decide) _ _ _ rfl (hown.alloc _) ⟨w2.heap.size, 0, none⟩ 4 4 [.int .u8 A, .int .u8 B, .int .u8 C, .int .u8 D] rfl rfl ?b1 ?b2 ?b3 ?b4 ?b5 ?_)
  case b1 =>
    have := World.news_of_block (cs := #[.int .u8 A, .int .u8 B, .int .u8 C, .int .u8 D]) (t := 5) (fr := (0, 0)) (heap_alloc_new w2 (.cells #[.int .u8 A, .int .u8 B, .int .u8 C, .int .u8 D] 5))
    simpa using this
  case b2 => simp [Value.oneCell']
  case b3 => unfold maxLen; omega
  case b4 => omega
  case b5 => have := b2.size; first | omega | (simp; omega)
  intro v' w4 hown1 hgrow _
  have hb2 : Below w.heap.size w w4 := ((b2.alloc b2.size _).grown hgrow (by have := b2.size; simp; omega) (fun q hq => (hown.lt q hq).1))
  have hl : xs.map (Value.int .u8) ++ [.int .u8 A, .int .u8 B, .int .u8 C, .int .u8 D] = (xs ++ four S).map (Value.int .u8) := by
    rw [← HA.out, ← HB.out, ← HCC.out, ← HD.out]; simp [four]
  rw [hl] at hown1
  have hlen : (xs ++ four S).length = n + 4 := by rw [List.length_append, HN.out]; rfl
  have hB4 : Byts w4 v' (xs ++ four S) := Byts.ofOwn (by rw [hlen]; exact hown1)
  obtain ⟨a4, c4, hv4, -⟩ := hB4.parts
  rw [hlen] at hv4
  have hz4 : sumTo (xs ++ four S) (n + 4) = 0 := by have := HZ.out; rw [HN.out, HSS.out] at this; exact this
  have hy4 : isByts (xs ++ four S) := isByts_four HY.out HSl.out
  have hm4 : n + 4 ≤ maxLen := by unfold maxLen; omega
  obtain ⟨n4, hn4⟩ : ∃ n4, n + 4 = n4 := ⟨_, rfl⟩
  rw [hn4] at hv4 hlen hz4 hm4
  subst hv4
  have HF : Hid (Calls Try.prog 12 #[.slice a4 n4 c4] w4 fun e w' => e = .returned (.int .i64 0) ∧ w4 = w') := Lib.hid (by
    have := sum_any a4 n4 c4 _ w4 hB4 hlen hm4 hy4
    rw [hz4] at this
    exact this)
  clear hown1 hgrow hl hlen hB4 hz4 hy4 hm4 hown q0 q1 q2 q3
  go_wp2_with fail
  refine HF.out.mono ?_; rintro e w5 ⟨rfl, rfl⟩
  go_wp2_with fail
  refine (awake7_any _).mono ?_; rintro e w6 ⟨rfl, b6⟩
  go_wp2_with fail
  go_ret
  exact ⟨rfl, hb2.trans (b6.mono hb2.size)⟩

end Go.Proofs.Ytiphipgheadakaa
