/- ReadDate of the reference. -/
import Derived.Test.YtppaklifacadpaaDoorDateAny
import Derived.Test.YtppaklifacadpaaDoorReadScan
import Derived.Test.YtppaklifacadpaaDoorLimbs
namespace Go.Proofs.YtppaklifacadpaaDoor
set_option linter.unusedVariables false
set_option linter.unusedSimpArgs false
open Go.RowKit

theorem rread_short (s : ByteArray) (w : World) (h : s.size ≠ 24) (hl : s.size ≤ 9223372036854775807) :
    Calls Tryd.prog 14 #[.string s] w fun e w' => e = .returned (.tuple #[.int .i64 0, .int .i64 10]) ∧ w = w' := by
  have h' : ((s.size : Int) == 24) = false := by simp; omega
  have h2 : ((s.size : Int) != 24) = true := by simp; omega
  go_enter Tryd.func14, Tryd.ntmps14
  go_wp2_with fail
  go_ret2
  exact ⟨rfl, rfl⟩

/-- What the tail of ReadDate answers. -/
def rdPost (w : World) (l : List UInt8) (e : Ending) (w' : World) : Prop :=
  ((∃ n, IsDate l n ∧ e = .returned (.tuple #[.int .i64 n, .int .i64 0])) ∨ ((¬ ∃ n, IsDate l n) ∧ e = .returned (.tuple #[.int .i64 0, .int .i64 10]))) ∧ Below w.heap.size w w'

theorem rdPost_no {w w' : World} {l : List UInt8} (h : ¬ ∃ n, IsDate l n) (hb : Below w.heap.size w w') : rdPost w l (.returned (.tuple #[.int .i64 0, .int .i64 10])) w' := ⟨.inr ⟨h, rfl⟩, hb⟩
theorem rdPost_yes {w w' : World} {l : List UInt8} {n : Int} (h : IsDate l n) (hb : Below w.heap.size w w') : rdPost w l (.returned (.tuple #[.int .i64 n, .int .i64 0])) w' := ⟨.inl ⟨n, h, rfl⟩, hb⟩

theorem isDate_form {l : List UInt8} {n : Int} (h : IsDate l n) : IsForm l := by
  obtain ⟨Y, M, D, h, m, s, u, c, y9, -, rfl⟩ := h
  exact (written c y9).1

/-- What a text with the form tells by its fields. -/
theorem isDate_iff {l : List UInt8} {Y M D h m s u : Int} (hf : IsForm l) (e1 : (dvalB (fld l 0 4) : Int) = Y) (e2 : (dvalB (fld l 5 7) : Int) = M) (e3 : (dvalB (fld l 8 10) : Int) = D) (e4 : (dvalB (fld l 11 13) : Int) = h) (e5 : (dvalB (fld l 14 16) : Int) = m) (e6 : (dvalB (fld l 17 19) : Int) = s) (e7 : (dvalB (fld l 20 23) : Int) = u) (n : Int) :
    IsDate l n ↔ (Civil Y M D h m s u ∧ dateN Y M D h m s u = n) := by
  have hfi := form_is hf
  constructor
  · rintro ⟨Y', M', D', h', m', s', u', c', y9', rfl, hl⟩
    have e := written c' y9'
    rw [← hl, e1, e2, e3, e4, e5, e6, e7] at e
    obtain ⟨-, rfl, rfl, rfl, rfl, rfl, rfl, rfl⟩ := e
    exact ⟨c', rfl⟩
  · rintro ⟨c, rfl⟩
    have hb : dvalB (fld l 0 4) < 10000 := by
      have h1 := dvalB_lt _ (fld_dig hf 0 4 dig04)
      rw [fld_len hf 0 4 (by omega) (by omega)] at h1
      simpa using h1
    rw [e1, e2, e3, e4, e5, e6, e7] at hfi
    exact ⟨Y, M, D, h, m, s, u, c, by omega, rfl, hfi.symm⟩
theorem field_bd {l : List UInt8} (hf : IsForm l) (a b : Nat) (hb : b ≤ 24) (hab : a ≤ b) (hd : ∀ j, j < 24 → a ≤ j → j < b → formL.getD j 0 = 48) {x : Int} (e : (dvalB (fld l a b) : Int) = x) : 0 ≤ x ∧ x < ((10 ^ (b - a) : Nat) : Int) := by
  have h1 := dvalB_lt _ (fld_dig hf a b hd)
  rw [fld_len hf a b hb hab] at h1
  omega

theorem rdays_dr (y m Z : Int) (w : World) (h1 : 0 ≤ y) (hz : mD y m = Z) :
    Calls Tryd.prog 50 #[.int .i64 y, .int .i64 m] w fun e w' => e = .returned (.int .i64 Z) ∧ ∃ k, w' = w.drewN k := by
  refine (rdays_any y m w h1).mono ?_
  rintro e w' ⟨rfl, rfl⟩
  exact ⟨by rw [hz], 0, rfl⟩

set_option maxRecDepth 100000 in
set_option maxHeartbeats 8000000 in
theorem rread_scan (s : ByteArray) (w : World) (hl : s.size = 24) :
    Calls Tryd.prog 14 #[.string s] w (rdPost w s.data.toList) := by
  obtain ⟨i0, hi, hi0, hi1, hi2⟩ := info_parts Tryd.infoLimb
  obtain ⟨l, hll⟩ : ∃ l, s.data.toList = l := ⟨_, rfl⟩
  have hsz : s.size = l.length := by rw [← hll, Array.length_toList]; rfl
  have hl24 : l.length = 24 := by omega
  rw [hll]
  have HL := Lib.hid hll; have HSZ := Lib.hid hsz; have HL24 := Lib.hid hl24
  clear hll hsz hl24
  go_enter Tryd.func14, Tryd.ntmps14
  go_wp2_with fail
  go_loopw [4, 6, 7] (fun vn vs vi wr => ∃ (k : Nat) (S : ByteArray), k ≤ 24 ∧ vi = .int .i64 k ∧ vs = .string S ∧ Hid (S.data.toList = fld l (stA k) k) ∧ Hid (S.size ≤ 24) ∧ wr.ownsRow w.heap.size 3 1 vn (numsA l k).length ((numsA l k).map (Value.int .i64)) ∧ Below w.heap.size w wr ∧ Hid (∀ j (h : j < l.length), j < k → fitB (formL.getD j 0).toNat l[j].toNat = true)) (fun _ _ vi _ => 24 - (intOf vi).toNat)
  case atStart => exact ⟨0, _, Nat.zero_le _, rfl, rfl, Lib.hid rfl, Lib.hid (by decide), World.ownsRow_nil _ _ _ _, Below.refl _ _, Lib.hid (fun j h hj => by omega)⟩
  case round =>
    obtain ⟨k, S, hk, rfl, rfl, HS, HSS, hown, hbel, HK⟩ := hrel
    have HBEL := Lib.hid hbel
    by_cases hlt : k < 24
    · have hks : k < s.size := by omega
      have hkl : k < l.length := by rw [HL24.out]; exact hlt
      have hb := byte_at s l HL.out k hks hkl
      obtain ⟨c, hc⟩ : ∃ c, s[k].toNat = c := ⟨_, rfl⟩
      obtain ⟨F, hF⟩ : ∃ F, ((⟨#[48, 48, 48, 48, 45, 48, 48, 45, 48, 48, 84, 48, 48, 58, 48, 48, 58, 48, 48, 46, 48, 48, 48, 90]⟩ : ByteArray)[k]'(by show k < 24; exact hlt)).toNat = F := ⟨_, rfl⟩
      have hc256 : c < 256 := by rw [← hc]; exact UInt8.toNat_lt _
      have hFe : (formL.getD k 0).toNat = F := by rw [← hF]; exact form_at k hlt
      rw [hc] at hb
      have hpiece : (s.extract k (k + 1)).data.toList = [l[k]] := by
        rw [ByteArray.data_extract, Array.toList_extract, HL.out]
        simp only [List.extract_eq_take_drop]
        rw [show k + 1 - k = 1 by omega, List.drop_eq_getElem_cons hkl]
        rfl
      have hps : (s.extract k (k + 1)).size = 1 := by rw [ByteArray.size_extract]; omega
      have HPC := Lib.hid hpiece; have HPS := Lib.hid hps; have HBB := Lib.hid hb; have HFE := Lib.hid hFe
      have hlen : (⟨#[48, 48, 48, 48, 45, 48, 48, 45, 48, 48, 84, 48, 48, 58, 48, 48, 58, 48, 48, 46, 48, 48, 48, 90]⟩ : ByteArray).size = 24 := rfl
      have hk1 : k + 1 ≤ s.size := by omega
      clear hpiece hps hb hFe
      by_cases h48 : F = 48
      · subst h48
        have hform : formL.getD k 0 = 48 := UInt8.toNat.inj HFE.out
        obtain ⟨g1, g2, -⟩ := scan_digit k hlt hform
        have hnd := nums_digit l k hlt hform
        by_cases hd : 48 ≤ c ∧ c ≤ 57
        · obtain ⟨d1, d2⟩ := hd
          have d1' : decide (c < 48) = false := by simp only [decide_eq_false_iff_not]; omega
          have d2' : decide (57 < c) = false := by simp only [decide_eq_false_iff_not]; omega
          have hnew : ∀ j (h : j < l.length), j < k + 1 → fitB (formL.getD j 0).toNat l[j].toNat = true := by
            intro j h hj
            by_cases hjk : j = k
            · subst hjk; rw [HFE.out, HBB.out]; simp [fitB]; omega
            · exact HK.out j h (by omega)
          have hcat : (S ++ s.extract k (k + 1)).data.toList = fld l (stA (k + 1)) (k + 1) := by
            rw [cat_list, HS.out, HPC.out, g1, fld_more l _ k g2 hkl]
          have hcs : (S ++ s.extract k (k + 1)).size ≤ 24 := by
            have h1 : (S ++ s.extract k (k + 1)).size = (fld l (stA (k + 1)) (k + 1)).length := by rw [← hcat, Array.length_toList]; rfl
            have := fld_size l (stA (k + 1)) (k + 1)
            omega
          have hs1 : (S.size : Int) ≤ 8388608 := by have := HSS.out; omega
          have hs2 : ((s.extract k (k + 1)).size : Int) ≤ 8388608 := by have := HPS.out; omega
          have HNEW := Lib.hid hnew; have HCAT := Lib.hid hcat; have HCS := Lib.hid hcs; have HND := Lib.hid hnd
          have hk3 : (k : Int) + 1 ≤ 24 := by omega
          clear hnew hcat hcs hnd g1 g2 hform
          go_wp2_with fail
          go_roundw
          case rel =>
            refine ⟨k + 1, _, by omega, by go_num, rfl, HCAT, HCS, ?_, HBEL.out, HNEW⟩
            rw [HND.out]
            exact hown
          case measure => simp [intOf]; omega
        · have hno : ¬ ∃ n, IsDate l n := by
            rintro ⟨n, hn⟩
            have h1 := (isDate_form hn).2 k hkl
            rw [HFE.out, HBB.out] at h1
            simp [fitB] at h1
            exact hd h1
          have HNO := Lib.hid hno
          clear hno
          by_cases d1 : c < 48
          · go_wp2_with fail
            go_ret2
            exact rdPost_no HNO.out HBEL.out
          · have d1' : decide (c < 48) = false := by simp only [decide_eq_false_iff_not]; exact d1
            have d2 : 57 < c := by omega
            clear hd
            go_wp2_with fail
            go_ret2
            exact rdPost_no HNO.out HBEL.out
      · have h48' : ((F : Int) == 48) = false := by simp; omega
        have h48n : ((F : Int) != 48) = true := by simp; omega
        have hform : formL.getD k 0 ≠ 48 := fun hx => h48 (by have := HFE.out; rw [hx] at this; exact this.symm)
        go_wp2_with fail
        go_quiet (fail)
        by_cases hcf : c = F
        · have hne : ((c : Int) != (F : Int)) = false := by rw [hcf]; simp
          have hnew : ∀ j (h : j < l.length), j < k + 1 → fitB (formL.getD j 0).toNat l[j].toNat = true := by
            intro j h hj
            by_cases hjk : j = k
            · subst hjk; rw [HFE.out, HBB.out, hcf]; simp [fitB, h48]
            · exact HK.out j h (by omega)
          have hdig : DigB S.data.toList := by rw [HS.out]; exact fld_dig_upto HL24.out HK.out _ (by omega) (scan_gap k hlt hform)
          obtain ⟨g1, g2, g3, -⟩ := scan_sep k hlt hform
          have hlenf : S.data.toList.length = k - stA k := by
            rw [HS.out]; unfold fld; rw [List.length_take, List.length_drop, HL24.out]; omega
          have hsS : S.size = S.data.toList.length := by rw [Array.length_toList]; rfl
          have hneS : S.data.toList ≠ [] := fun hx => by rw [hx] at hlenf; simp at hlenf; omega
          have hS4 : S.size ≤ 18 := by omega
          obtain ⟨V, hV⟩ : ∃ V, dvalB (fld l (stA k) k) = V := ⟨_, rfl⟩
          have hns := nums_sep l k hlt hform
          rw [hV] at hns
          have hlt7 := nums_len l (k + 1) (by omega)
          rw [hns, List.length_append, List.length_cons, List.length_nil] at hlt7
          have hfn : fld l (stA (k + 1)) (k + 1) = [] := by rw [g1]; exact fld_none l (k + 1)
          have HNEW := Lib.hid hnew; have HDIG := Lib.hid hdig; have HNES := Lib.hid hneS; have HS4 := Lib.hid hS4; have HV := Lib.hid hV; have HNS := Lib.hid hns; have HFN := Lib.hid hfn; have HOWN := Lib.hid hown; have HG1 := Lib.hid g1
          have hk3 : (k : Int) + 1 ≤ 24 := by omega
          rw [hne]
          clear hnew hdig hneS hS4 hV hns hfn hown hbel g1 g2 g3 hlenf hsS hcf hne hform h48 h48' h48n
          go_wp2_with fail
          refine (atoi_any _ HDIG.out HNES.out HS4.out _).mono ?_
          rintro e w2 ⟨rfl, b2⟩
          rw [HS.out, HV.out]
          have hownD : (wr.drewN nq).ownsRow w.heap.size 3 1 u4 (numsA l k).length ((numsA l k).map (Value.int .i64)) := HOWN.out
          have hown2 := ownsRow_below hownD b2
          have hbelD := below_drewN HBEL.out nq
          have hbel2 := hbelD.trans (b2.mono hbelD.size)
          have hwsz : w.heap.size ≤ w2.heap.size := hbel2.size
          have HOWN2 := Lib.hid (hown2.alloc (.cells #[.int .i64 (V : Int)] 3)); have HBEL2 := Lib.hid (hbel2.alloc hwsz (.cells #[.int .i64 (V : Int)] 3))
          clear b2 hownD hown2 hbelD hbel2
          go_wp2_with (at_builtin; refine wpList_append_own _ rfl _ _ 74 rfl w.heap.size 3 i0 (.int .i64 0) 1 8 Tryd.underlying74 hi hi0 hi1 hi2 rfl (by decide) _ _ _ rfl HOWN2.out ⟨w2.heap.size, 0, none⟩ 1 1 [.int .i64 (V : Int)] rfl rfl ?b1 ?b2 ?b3 ?b4 ?b5 ?_)
          case b1 => 
            have := World.news_of_block (cs := #[.int .i64 (V : Int)]) (t := 3) (fr := (0, 0)) (heap_alloc_new w2 (.cells #[.int .i64 (V : Int)] 3))
            simpa using this
          case b2 => simp [Value.oneCell']
          case b3 => unfold maxLen; omega
          case b4 => omega
          case b5 => first | omega | (simp; omega)
          intro v3 w3 hown3 hgrow3 _
          have hbel3 := HBEL2.out.grown hgrow3 (by simp; omega) (fun q hq => (HOWN2.out.lt q hq).1)
          have HOWN3 := Lib.hid hown3; have HBEL3 := Lib.hid hbel3
          clear hown3 hgrow3 hbel3
          go_wp2_with fail
          go_roundw
          case rel =>
            refine ⟨k + 1, _, by omega, by go_num, rfl, Lib.hid HFN.out.symm, Lib.hid (by decide), ?_, HBEL3.out, HNEW⟩
            have := HOWN3.out
            rw [HNS.out]
            simpa using this
          case measure => simp [intOf]; omega
        · have hne : ((c : Int) != (F : Int)) = true := by simp; omega
          have hno : ¬ ∃ n, IsDate l n := by
            rintro ⟨n, hn⟩
            have h1 := (isDate_form hn).2 k hkl
            rw [HFE.out, HBB.out] at h1
            simp [fitB, h48] at h1
            exact hcf h1.symm
          have HNO := Lib.hid hno
          rw [hne]
          clear hno hcf hne
          go_wp2_with fail
          go_ret2
          exact rdPost_no HNO.out (below_drewN HBEL.out _)
    · have hk24 : k = 24 := by omega
      subst hk24
      have hform : IsForm l := ⟨HL24.out, fun j h => HK.out j h (by have := HL24.out; omega)⟩
      obtain ⟨Y, e1⟩ : ∃ Y : Int, (dvalB (fld l 0 4) : Int) = Y := ⟨_, rfl⟩
      obtain ⟨M, e2⟩ : ∃ Y : Int, (dvalB (fld l 5 7) : Int) = Y := ⟨_, rfl⟩
      obtain ⟨D, e3⟩ : ∃ Y : Int, (dvalB (fld l 8 10) : Int) = Y := ⟨_, rfl⟩
      obtain ⟨h, e4⟩ : ∃ Y : Int, (dvalB (fld l 11 13) : Int) = Y := ⟨_, rfl⟩
      obtain ⟨m, e5⟩ : ∃ Y : Int, (dvalB (fld l 14 16) : Int) = Y := ⟨_, rfl⟩
      obtain ⟨z, e6⟩ : ∃ Y : Int, (dvalB (fld l 17 19) : Int) = Y := ⟨_, rfl⟩
      obtain ⟨u, e7⟩ : ∃ Y : Int, (dvalB (fld l 20 23) : Int) = Y := ⟨_, rfl⟩
      have hiff := isDate_iff hform e1 e2 e3 e4 e5 e6 e7
      obtain ⟨a1, b1⟩ := field_bd hform 0 4 (by omega) (by omega) dig04 e1
      obtain ⟨a2, b2⟩ := field_bd hform 5 7 (by omega) (by omega) dig57 e2
      obtain ⟨a3, b3⟩ := field_bd hform 8 10 (by omega) (by omega) dig810 e3
      obtain ⟨a4, b4⟩ := field_bd hform 11 13 (by omega) (by omega) dig1113 e4
      obtain ⟨a5, b5⟩ := field_bd hform 14 16 (by omega) (by omega) dig1416 e5
      obtain ⟨a6, b6⟩ := field_bd hform 17 19 (by omega) (by omega) dig1719 e6
      obtain ⟨a7, b7⟩ := field_bd hform 20 23 (by omega) (by omega) dig2023 e7
      simp only [Nat.reduceSub, Nat.reducePow, Int.cast_ofNat_Int] at b1 b2 b3 b4 b5 b6 b7
      have hlim := Lim.ofOwn hown
      rw [nums_all, e1, e2, e3, e4, e5, e6, e7] at hlim
      rcases hlim with ⟨aa, cc, -, -, hx⟩ | ⟨g, off, cap, rfl, -, hgl, hcl, hcm, hcell⟩
      · simp at hx
      have c0 := hcell 0 (by simp)
      have c1 := hcell 1 (by simp)
      have c2 := hcell 2 (by simp)
      have c3 := hcell 3 (by simp)
      have c4 := hcell 4 (by simp)
      have c5 := hcell 5 (by simp)
      have c6 := hcell 6 (by simp)
      simp only [List.getD_cons_zero, List.getD_cons_succ, Nat.add_zero] at c0 c1 c2 c3 c4 c5 c6
      simp only [List.length_cons, List.length_nil, Nat.zero_add, Nat.reduceAdd] at hcl ⊢
      have HIFF := Lib.hid hiff; have HFORM := Lib.hid hform
      have hnot : ¬ Civil Y M D h m z u → ¬ ∃ n, IsDate l n := fun hn => by
        rintro ⟨n, hx⟩
        exact hn ((HIFF.out n).1 hx).1
      have HNOT := Lib.hid hnot
      clear hiff hform e1 e2 e3 e4 e5 e6 e7 hown hbel hcell hnot
      obtain ⟨Z, hZ⟩ : ∃ Z, mD Y M = Z := ⟨_, rfl⟩
      have hZb := mD_bd Y M
      rw [hZ] at hZb
      obtain ⟨zb0, zb1⟩ := hZb
      have HZ := Lib.hid hZ
      clear hZ
      clear HS HSS HK hlt hk HL HSZ hi hi0 hi1 hi2
      by_cases k0 : Y < 1970
      · have hno := HNOT.out (fun c => by have := c.y; have := HZ.out; omega)
        have HNO := Lib.hid hno; clear hno
        have t0 : decide (Y < 1970) = true := by simp only [decide_eq_true_eq]; exact k0
        clear k0
        go_wp2_with fail
        go_quiet ((go_at_call 50; exact Calls.quiet_of (rdays_dr _ _ _ _ a1 HZ.out)))
        go_wp2_with fail
        go_ret2
        exact rdPost_no HNO.out (below_drewN HBEL.out _)
      have t0 : decide (Y < 1970) = false := by simp only [decide_eq_false_iff_not]; exact k0
      by_cases k1 : M < 1
      · have hno := HNOT.out (fun c => by have := c.m1; have := HZ.out; omega)
        have HNO := Lib.hid hno; clear hno
        have t1 : decide (M < 1) = true := by simp only [decide_eq_true_eq]; exact k1
        clear k1
        go_wp2_with fail
        go_quiet ((go_at_call 50; exact Calls.quiet_of (rdays_dr _ _ _ _ a1 HZ.out)))
        go_wp2_with fail
        go_ret2
        exact rdPost_no HNO.out (below_drewN HBEL.out _)
      have t1 : decide (M < 1) = false := by simp only [decide_eq_false_iff_not]; exact k1
      by_cases k2 : 12 < M
      · have hno := HNOT.out (fun c => by have := c.m2; have := HZ.out; omega)
        have HNO := Lib.hid hno; clear hno
        have t2 : decide (12 < M) = true := by simp only [decide_eq_true_eq]; exact k2
        clear k2
        go_wp2_with fail
        go_quiet ((go_at_call 50; exact Calls.quiet_of (rdays_dr _ _ _ _ a1 HZ.out)))
        go_wp2_with fail
        go_ret2
        exact rdPost_no HNO.out (below_drewN HBEL.out _)
      have t2 : decide (12 < M) = false := by simp only [decide_eq_false_iff_not]; exact k2
      by_cases k3 : D < 1
      · have hno := HNOT.out (fun c => by have := c.d1; have := HZ.out; omega)
        have HNO := Lib.hid hno; clear hno
        have t3 : decide (D < 1) = true := by simp only [decide_eq_true_eq]; exact k3
        clear k3
        go_wp2_with fail
        go_quiet ((go_at_call 50; exact Calls.quiet_of (rdays_dr _ _ _ _ a1 HZ.out)))
        go_wp2_with fail
        go_ret2
        exact rdPost_no HNO.out (below_drewN HBEL.out _)
      have t3 : decide (D < 1) = false := by simp only [decide_eq_false_iff_not]; exact k3
      by_cases k4 : Z < D
      · have hno := HNOT.out (fun c => by have := c.d2; have := HZ.out; omega)
        have HNO := Lib.hid hno; clear hno
        have t4 : decide (Z < D) = true := by simp only [decide_eq_true_eq]; exact k4
        clear k4
        go_wp2_with fail
        go_quiet ((go_at_call 50; exact Calls.quiet_of (rdays_dr _ _ _ _ a1 HZ.out)))
        go_wp2_with fail
        go_ret2
        exact rdPost_no HNO.out (below_drewN HBEL.out _)
      have t4 : decide (Z < D) = false := by simp only [decide_eq_false_iff_not]; exact k4
      by_cases k5 : 23 < h
      · have hno := HNOT.out (fun c => by have := c.h1; have := HZ.out; omega)
        have HNO := Lib.hid hno; clear hno
        have t5 : decide (23 < h) = true := by simp only [decide_eq_true_eq]; exact k5
        clear k5
        go_wp2_with fail
        go_quiet ((go_at_call 50; exact Calls.quiet_of (rdays_dr _ _ _ _ a1 HZ.out)))
        go_wp2_with fail
        go_ret2
        exact rdPost_no HNO.out (below_drewN HBEL.out _)
      have t5 : decide (23 < h) = false := by simp only [decide_eq_false_iff_not]; exact k5
      by_cases k6 : 59 < m
      · have hno := HNOT.out (fun c => by have := c.n1; have := HZ.out; omega)
        have HNO := Lib.hid hno; clear hno
        have t6 : decide (59 < m) = true := by simp only [decide_eq_true_eq]; exact k6
        clear k6
        go_wp2_with fail
        go_quiet ((go_at_call 50; exact Calls.quiet_of (rdays_dr _ _ _ _ a1 HZ.out)))
        go_wp2_with fail
        go_ret2
        exact rdPost_no HNO.out (below_drewN HBEL.out _)
      have t6 : decide (59 < m) = false := by simp only [decide_eq_false_iff_not]; exact k6
      by_cases k7 : 59 < z
      · have hno := HNOT.out (fun c => by have := c.s1; have := HZ.out; omega)
        have HNO := Lib.hid hno; clear hno
        have t7 : decide (59 < z) = true := by simp only [decide_eq_true_eq]; exact k7
        clear k7
        go_wp2_with fail
        go_quiet ((go_at_call 50; exact Calls.quiet_of (rdays_dr _ _ _ _ a1 HZ.out)))
        go_wp2_with fail
        go_ret2
        exact rdPost_no HNO.out (below_drewN HBEL.out _)
      have t7 : decide (59 < z) = false := by simp only [decide_eq_false_iff_not]; exact k7
      have hciv : Civil Y M D h m z u := ⟨by omega, by omega, by omega, by omega, by rw [HZ.out]; omega, by omega, by omega, by omega, by omega, by omega, by omega, by omega, by omega⟩
      have HDATE := Lib.hid ((HIFF.out _).2 ⟨hciv, rfl⟩)
      have ok1 : 1970 ≤ Y := by omega
      clear HNOT HIFF hciv
      go_wp2_with fail
      go_quiet ((go_at_call 50; exact Calls.quiet_of (rdays_dr _ _ _ _ a1 HZ.out)))
      go_wp2_with fail
      go_loopw [10, 11] (fun vd vy wx => ∃ (d y : Int), 1970 ≤ y ∧ y ≤ Y ∧ 0 ≤ d ∧ d ≤ 4000000 ∧ vd = .int .i64 d ∧ vy = .int .i64 y ∧ Hid (d = dB y + D - 1) ∧ wr.drewN nq = wx) (fun _ vy _ => (Y - intOf vy).toNat)
      case atStart => exact ⟨D - 1, 1970, by omega, ok1, by omega, by omega, by go_num, by go_num, Lib.hid (by rw [dB_1970]; omega), rfl⟩
      case round =>
        obtain ⟨d, y, y0, y1, dd0, dd1, rfl, rfl, HD, rfl⟩ := hrel
        have hup := dB_up y0
        have hmo := dB_mono y0
        rw [dB_1970] at hup hmo
        have hst := dB_step y
        rw [lB_step] at hst
        obtain ⟨L, hL⟩ : ∃ L, leapB y = L := ⟨_, rfl⟩
        rw [hL] at hst
        have HL2 := Lib.hid hL
        clear hL
        by_cases hyl : y < Y
        · have hyl' : decide (y < Y) = true := by simp only [decide_eq_true_eq]; exact hyl
          have hD := HD.out
          cases L
          · have hnew : d + 365 = dB (y + 1) + D - 1 := by simp at hst; omega
            have hb4 : d + 365 ≤ 4000000 := by omega
            have HNEW := Lib.hid hnew
            clear hnew hst hup hmo hD
            go_wp2_with fail
            refine (rleap_any y _ (by omega)).mono ?_; rintro e wl ⟨rfl, rfl⟩
            rw [HL2.out]
            go_wp2_with fail
            go_roundw
            case rel => exact ⟨d + 365, y + 1, by omega, by omega, by omega, hb4, by go_num, by go_num, HNEW, trivial⟩
            case measure => simp [intOf]; omega
          · have hnew : d + 366 = dB (y + 1) + D - 1 := by simp at hst; omega
            have hb4 : d + 366 ≤ 4000000 := by omega
            have HNEW := Lib.hid hnew
            clear hnew hst hup hmo hD
            go_wp2_with fail
            refine (rleap_any y _ (by omega)).mono ?_; rintro e wl ⟨rfl, rfl⟩
            rw [HL2.out]
            go_wp2_with fail
            go_roundw
            case rel => exact ⟨d + 366, y + 1, by omega, by omega, by omega, hb4, by go_num, by go_num, HNEW, trivial⟩
            case measure => simp [intOf]; omega
        · have hyY : y = Y := by omega
          subst hyY
          have hyl' : decide (y < y) = false := by simp
          have hb5 : dB y + D - 1 ≤ 3000000 := by omega
          rw [HD.out] at dd0 dd1 ⊢
          obtain ⟨B, hB⟩ : ∃ B, dB y = B := ⟨_, rfl⟩
          rw [hB] at dd0 dd1 hb5 ⊢
          have HB := Lib.hid hB
          clear hst hup hmo hyl HD hB
          go_wp2_with fail
          go_loopw [10, 12] (fun vd vm wx => ∃ (d : Int) (k : Nat), (k : Int) + 1 ≤ M ∧ 0 ≤ d ∧ d ≤ 3001000 ∧ vd = .int .i64 d ∧ vm = .int .i64 ((k : Int) + 1) ∧ Hid (d = B + mS y k + D - 1) ∧ wr.drewN nq = wx) (fun _ vm _ => (M - intOf vm).toNat)
          case atStart => exact ⟨B + D - 1, 0, by omega, by omega, by omega, by go_num, by go_num, Lib.hid (by simp [mS]), rfl⟩
          case round =>
            obtain ⟨d, k, hk, d0, d1, rfl, rfl, HD, rfl⟩ := hrel
            have hmb := mS_bd y (k + 1)
            have hms : mS y (k + 1) = mS y k + mD y ((k : Int) + 1) := rfl
            by_cases hkm : (k : Int) + 1 < M
            · have hkm' : decide ((k : Int) + 1 < M) = true := by simp only [decide_eq_true_eq]; exact hkm
              obtain ⟨X, hX⟩ : ∃ X, mD y ((k : Int) + 1) = X := ⟨_, rfl⟩
              have hxb := mD_bd y ((k : Int) + 1)
              rw [hX] at hms hxb
              have HX := Lib.hid hX
              have hD := HD.out
              have hnew : d + X = B + mS y (k + 1) + D - 1 := by omega
              have hb4 : d + X ≤ 3001000 := by omega
              obtain ⟨xb0, xb1⟩ := hxb
              have HNEW := Lib.hid hnew
              clear hX hnew hms hmb hD
              go_wp2_with fail
              refine (rdays_any y ((k : Int) + 1) _ (by omega)).mono ?_; rintro e wl ⟨rfl, rfl⟩
              rw [HX.out]
              go_wp2_with fail
              go_roundw
              case rel => exact ⟨d + X, k + 1, by omega, by omega, by omega, by go_num, by go_num, HNEW, trivial⟩
              case measure => simp [intOf]; omega
            · have hkM : M = (k : Int) + 1 := by omega
              have hkm' : decide ((k : Int) + 1 < M) = false := by simp only [decide_eq_false_iff_not]; exact hkm
              have hfin : dateN y M D h m z u = d * 86400000 + h * 3600000 + m * 60000 + z * 1000 + u := by
                unfold dateN
                rw [show (M - 1).toNat = k by omega, HB.out, HD.out]
              have hdd := HDATE.out
              rw [hfin] at hdd
              have HDD := Lib.hid hdd
              clear hfin hdd HDATE hms hmb hkm hkM
              go_wp2_with fail
              go_quiet (fail)
              go_wp2_with fail
              go_ret2
              exact rdPost_yes HDD.out (below_drewN (below_drewN HBEL.out _) _)

theorem rread_any (s : ByteArray) (w : World) (hs : s.size ≤ 9223372036854775807) :
    Calls Tryd.prog 14 #[.string s] w (rdPost w s.data.toList) := by
  by_cases h : s.size = 24
  · exact rread_scan s w h
  · refine (rread_short s w h hs).mono ?_
    rintro e w' ⟨rfl, rfl⟩
    refine rdPost_no ?_ (Below.refl _ _)
    rintro ⟨n, hn⟩
    have := isDate_len hn
    have hsz : s.size = s.data.toList.length := by rw [Array.length_toList]; rfl
    omega

theorem rread_good (s : ByteArray) (n : Int) (w : World) (hs : s.size ≤ 9223372036854775807) (h : IsDate s.data.toList n) :
    Calls Tryd.prog 14 #[.string s] w fun e w' => e = .returned (.tuple #[.int .i64 n, .int .i64 0]) ∧ Below w.heap.size w w' := by
  refine (rread_any s w hs).mono ?_
  rintro e w' ⟨⟨k, hk, rfl⟩ | ⟨hno, rfl⟩, hb⟩
  · rw [isDate_num h hk]; exact ⟨rfl, hb⟩
  · exact absurd ⟨n, h⟩ hno
theorem rread_bad (s : ByteArray) (w : World) (hs : s.size ≤ 9223372036854775807) (h : ¬ ∃ n, IsDate s.data.toList n) :
    Calls Tryd.prog 14 #[.string s] w fun e w' => e = .returned (.tuple #[.int .i64 0, .int .i64 10]) ∧ Below w.heap.size w w' := by
  refine (rread_any s w hs).mono ?_
  rintro e w' ⟨⟨k, hk, rfl⟩ | ⟨hno, rfl⟩, hb⟩
  · exact absurd ⟨k, hk⟩ h
  · exact ⟨rfl, hb⟩

theorem rdate_good (n : Int) (w : World) (htab : Tab w) (n0 : 0 ≤ n) (n1 : n ≤ 253402300799999) :
    Calls Tryd.prog 12 #[.int .i64 n] w fun e w' => (∃ S, e = .returned (.tuple #[.string S, .int .i64 0]) ∧ IsDate S.data.toList n) ∧ Below w.heap.size w w' := by
  obtain ⟨Y, hY, y9⟩ := moment_year n n0 n1
  refine (rdate_ok n Y _ _ _ _ w htab n0 n1 hY ⟨rfl, rfl, rfl, rfl⟩).mono ?_
  rintro e w' ⟨⟨S, rfl, hS⟩, hb⟩
  obtain ⟨c, hn⟩ := civil_of n0 hY rfl rfl rfl rfl
  exact ⟨⟨S, rfl, Y, _, _, _, _, _, _, c, y9, hn, hS⟩, hb⟩
theorem rdate_bad (n : Int) (w : World) (h : n < 0 ∨ 253402300799999 < n) :
    Calls Tryd.prog 12 #[.int .i64 n] w fun e w' => e = .returned (.tuple #[.string ⟨#[]⟩, .int .i64 1]) ∧ w = w' := by
  by_cases h0 : n < 0
  · have h0' : decide (n < 0) = true := by simp only [decide_eq_true_eq]; exact h0
    go_enter Tryd.func12, Tryd.ntmps12
    go_wp2_with fail
    go_ret2
    exact ⟨rfl, rfl⟩
  · have h0' : decide (n < 0) = false := by simp only [decide_eq_false_iff_not]; exact h0
    have h1 : 253402300799999 < n := by omega
    have h1' : decide (253402300799999 < n) = true := by simp only [decide_eq_true_eq]; exact h1
    go_enter Tryd.func12, Tryd.ntmps12
    go_wp2_with fail
    go_ret2
    exact ⟨rfl, rfl⟩

set_option maxRecDepth 100000 in
set_option maxHeartbeats 4000000 in
theorem datesLaw_any (a : Int) (t : ByteArray) (w : World) (htab : Tab w) (hs : t.size ≤ maxLen) :
    Calls Tryd.prog 4 #[.int .i64 a, .string t] w fun e w' => e = .returned (.bool true) ∧ Below w.heap.size w w' := by
  replace hs : t.size ≤ 9223372036854775807 := by unfold maxLen at hs; omega
  have HT := Lib.hid htab
  clear htab
  by_cases hA : 0 ≤ a ∧ a ≤ 253402300799999
  all_goals by_cases hT : ∃ n, IsDate t.data.toList n
  · obtain ⟨a0, a1⟩ := hA
    obtain ⟨n, hn⟩ := hT
    have TT := Lib.hid hn
    clear hn
    go_enter Tryd.func4, Tryd.ntmps4
    go_wp2_with fail
    refine (date_good a _ HT.out a0 a1).mono ?_; rintro e w1 ⟨⟨S, rfl, hS⟩, b⟩
    have HS := Lib.hid hS; have B1 := Lib.hid b; clear hS b
    go_wp2_with fail
    refine (rdate_good a _ (HT.out.below B1.out (Nat.le_refl _)) a0 a1).mono ?_; rintro e w2 ⟨⟨Z, rfl, hZ⟩, b⟩
    have B2 := Lib.hid (B1.out.trans (b.mono B1.out.size))
    obtain rfl : Z = S := same_text _ _ (isDate_text hZ HS.out)
    clear b hZ
    go_wp2_with fail
    refine (read_good t n _ TT.out).mono ?_; rintro e w3 ⟨rfl, q, hw⟩
    have B3 : Hid (Below w.heap.size w w3) := Lib.hid (by rw [hw]; exact below_drewN B2.out _)
    clear hw
    go_wp2_with fail
    refine (rread_good t n _ hs TT.out).mono ?_; rintro e w4 ⟨rfl, b⟩
    have B4 := Lib.hid (B3.out.trans (b.mono B3.out.size)); clear b
    go_wp2_with fail
    refine (awake_any _).mono ?_; rintro e w5 ⟨rfl, k5, rfl⟩
    go_wp2_with fail
    go_ret
    exact ⟨rfl, below_drewN B4.out _⟩
  · obtain ⟨a0, a1⟩ := hA
    have TT := Lib.hid hT
    clear hT
    go_enter Tryd.func4, Tryd.ntmps4
    go_wp2_with fail
    refine (date_good a _ HT.out a0 a1).mono ?_; rintro e w1 ⟨⟨S, rfl, hS⟩, b⟩
    have HS := Lib.hid hS; have B1 := Lib.hid b; clear hS b
    go_wp2_with fail
    refine (rdate_good a _ (HT.out.below B1.out (Nat.le_refl _)) a0 a1).mono ?_; rintro e w2 ⟨⟨Z, rfl, hZ⟩, b⟩
    have B2 := Lib.hid (B1.out.trans (b.mono B1.out.size))
    obtain rfl : Z = S := same_text _ _ (isDate_text hZ HS.out)
    clear b hZ
    go_wp2_with fail
    refine (read_bad t _ hs TT.out).mono ?_; rintro e w3 ⟨rfl, q, hw⟩
    have B3 : Hid (Below w.heap.size w w3) := Lib.hid (by rw [hw]; exact below_drewN B2.out _)
    clear hw
    go_wp2_with fail
    refine (rread_bad t _ hs TT.out).mono ?_; rintro e w4 ⟨rfl, b⟩
    have B4 := Lib.hid (B3.out.trans (b.mono B3.out.size)); clear b
    go_wp2_with fail
    refine (awake_any _).mono ?_; rintro e w5 ⟨rfl, k5, rfl⟩
    go_wp2_with fail
    go_ret
    exact ⟨rfl, below_drewN B4.out _⟩
  · obtain ⟨n, hn⟩ := hT
    have TT := Lib.hid hn
    have hA' : a < 0 ∨ 253402300799999 < a := by omega
    have HA := Lib.hid hA'
    clear hn hA hA'
    go_enter Tryd.func4, Tryd.ntmps4
    go_wp2_with fail
    refine (date_bad a _ HA.out).mono ?_; rintro e w1 ⟨rfl, rfl⟩
    have B2 : Hid (Below w.heap.size w w) := Lib.hid (Below.refl _ _)
    go_wp2_with fail
    refine (rdate_bad a _ HA.out).mono ?_; rintro e w1 ⟨rfl, rfl⟩
    go_wp2_with fail
    refine (read_good t n _ TT.out).mono ?_; rintro e w3 ⟨rfl, q, hw⟩
    have B3 : Hid (Below w.heap.size w w3) := Lib.hid (by rw [hw]; exact below_drewN B2.out _)
    clear hw
    go_wp2_with fail
    refine (rread_good t n _ hs TT.out).mono ?_; rintro e w4 ⟨rfl, b⟩
    have B4 := Lib.hid (B3.out.trans (b.mono B3.out.size)); clear b
    go_wp2_with fail
    refine (awake_any _).mono ?_; rintro e w5 ⟨rfl, k5, rfl⟩
    go_wp2_with fail
    go_ret
    exact ⟨rfl, below_drewN B4.out _⟩
  · have TT := Lib.hid hT
    have hA' : a < 0 ∨ 253402300799999 < a := by omega
    have HA := Lib.hid hA'
    clear hT hA hA'
    go_enter Tryd.func4, Tryd.ntmps4
    go_wp2_with fail
    refine (date_bad a _ HA.out).mono ?_; rintro e w1 ⟨rfl, rfl⟩
    have B2 : Hid (Below w.heap.size w w) := Lib.hid (Below.refl _ _)
    go_wp2_with fail
    refine (rdate_bad a _ HA.out).mono ?_; rintro e w1 ⟨rfl, rfl⟩
    go_wp2_with fail
    refine (read_bad t _ hs TT.out).mono ?_; rintro e w3 ⟨rfl, q, hw⟩
    have B3 : Hid (Below w.heap.size w w3) := Lib.hid (by rw [hw]; exact below_drewN B2.out _)
    clear hw
    go_wp2_with fail
    refine (rread_bad t _ hs TT.out).mono ?_; rintro e w4 ⟨rfl, b⟩
    have B4 := Lib.hid (B3.out.trans (b.mono B3.out.size)); clear b
    go_wp2_with fail
    refine (awake_any _).mono ?_; rintro e w5 ⟨rfl, k5, rfl⟩
    go_wp2_with fail
    go_ret
    exact ⟨rfl, below_drewN B4.out _⟩

end Go.Proofs.YtppaklifacadpaaDoor
