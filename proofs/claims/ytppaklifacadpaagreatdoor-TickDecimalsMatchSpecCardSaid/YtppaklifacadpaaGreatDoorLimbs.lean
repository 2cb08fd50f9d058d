/- The reference's limbs: a text of digits as a row of limbs. -/
import Derived.Test.YtppaklifacadpaaGreatDoorDval
import Derived.Test.YtppaklifacadpaaGreatDoorLimbMore
import Derived.Test.YtppaklifacadpaaGreatDoorFmt
import Derived.Deep.LoopGhost
import Derived.Lib.AtoiErrMem
namespace Go.Proofs.YtppaklifacadpaaGreatDoor
set_option linter.unusedVariables false
set_option linter.unusedSimpArgs false
open Go.RowKit

theorem atoi_any (s : ByteArray) (hd : DigB s.data.toList) (hne : s.data.toList ≠ []) (hl : s.size ≤ 18) (w : World) :
    Calls Tryz.prog 53 #[.string s] w fun e w' => e = .returned (.tuple #[.int .i64 (dvalB s.data.toList), .nilIface]) ∧ Below w.heap.size w w' := by
  refine (Tryz.strconv_Atoi s _ hl (atoi_dval _ hd hne) w).mono ?_
  rintro e w' ⟨rfl, t, rfl⟩
  exact ⟨rfl, Lib.bytesWorld_below _ _ _⟩

set_option maxRecDepth 100000 in
set_option maxHeartbeats 2000000 in
theorem limbs_any (s : ByteArray) (hd : DigB s.data.toList) (hl : s.size ≤ 100) (w : World) :
    Calls Tryz.prog 33 #[.string s] w fun e w' => (∃ r, e = .returned r ∧ ∃ zs, Lim w' r zs ∧ Canon zs ∧ lval zs = dvalB s.data.toList ∧ zs.length ≤ 30) ∧ Below w.heap.size w w' := by
  obtain ⟨i0, hi, hi0, hi1, hi2⟩ := info_parts Tryz.infoLimb
  obtain ⟨l, hll⟩ : ∃ l, s.data.toList = l := ⟨_, rfl⟩
  have hsz : s.size = l.length := by rw [← hll, Array.length_toList]; rfl
  rw [hll] at hd ⊢
  have HD := Lib.hid hd; have HL := Lib.hid hll
  have hlen : l.length ≤ 100 := by omega
  have HSTART := Lib.hid (limT_start l)
  clear hd hll
  go_enter Tryz.func33, Tryz.ntmps33
  go_wp2_with fail
  go_loopg [0, 3] (l.length) (fun m p v wr => ∃ (S : ByteArray) (zs : List Int), p = .string S ∧ Hid (S.size = m) ∧ Hid (S.data.toList = l.take m) ∧ wr.ownsRow w.heap.size 3 1 v zs.length (zs.map (Value.int .i64)) ∧ Below w.heap.size w wr ∧ Hid (LimT l m zs))
  case atStart => exact ⟨s, [], rfl, Lib.hid hsz, Lib.hid (by rw [List.take_length]; exact HL.out), World.ownsRow_nil _ _ _ _, Below.refl _ _, HSTART⟩
  case round =>
    obtain ⟨S, zs, rfl, hS, HS, hown, hbel, HT⟩ := hrel
    have hm : S.size ≤ 100 := by have := hS.out; have := HT.out.le; omega
    by_cases h0 : S.size < 1
    · have hg0 : gk = 0 := by have := hS.out; omega
      have ht0 := HT.out
      rw [hg0] at ht0
      have hv := limT_end ht0
      have hlim : Lim wr u3 zs := Lim.ofOwn hown
      have HV := Lib.hid hv; have HLIM := Lib.hid hlim; have HT0 := Lib.hid ht0
      have hz0 : S.size = 0 := by omega
      clear hv hlim ht0 hown hm h0
      go_wp2_with fail
      refine (trim_any _ zs _ HLIM.out).mono ?_
      rintro e w' ⟨⟨r, rfl, hr⟩, rfl⟩
      have HR := Lib.hid hr
      clear hr
      go_wp2_with fail
      go_ret
      refine ⟨⟨_, rfl, trimL zs, HR.out, trimL_canon _ HT0.out.digs, by rw [trimL_val]; exact HV.out, ?_⟩, hbel⟩
      have := trimL_le zs; have := HT0.out.len; omega
    · obtain ⟨k, hk⟩ : ∃ k, S.size - 4 = k := ⟨_, rfl⟩
      have hmx : max 0 ((S.size : Int) - 4) = (k : Int) := by omega
      have hgk : gk - 4 = k := by rw [← hS.out]; exact hk
      have hkle : k ≤ S.size := by omega
      obtain ⟨hst, hst2, hst3⟩ := limT_step HT.out HD.out (by have := hS.out; omega)
      rw [hgk] at hst hst2 hst3
      have hpl : (S.extract k S.size).data.toList = (l.take gk).drop k := by
        rw [ByteArray.data_extract, Array.toList_extract, HS.out]
        simp only [List.extract_eq_take_drop]
        rw [List.take_of_length_le]
        rw [List.length_drop, List.length_take]
        have := hS.out; omega
      have hpl2 : (S.extract 0 k).data.toList = l.take k := by
        rw [ByteArray.data_extract, Array.toList_extract, HS.out]
        simp only [List.extract_eq_take_drop]
        rw [List.drop_zero, List.take_take, Nat.sub_zero, Nat.min_eq_left (by have := hS.out; omega)]
      have hps : (S.extract k S.size).size = S.size - k := by simp [ByteArray.size_extract]
      have hps2 : (S.extract 0 k).size = k := by simp [ByteArray.size_extract]; omega
      have hdig : DigB (S.extract k S.size).data.toList := by rw [hpl]; exact (HD.out.take _).drop _
      have hnz : (S.extract k S.size).data.toList ≠ [] := by
        rw [hpl]; intro hx
        have := congrArg List.length hx
        rw [hst3] at this
        simp at this
        have := hS.out; omega
      obtain ⟨V, hV⟩ : ∃ V, dvalB ((l.take gk).drop k) = V := ⟨_, rfl⟩
      rw [hV] at hst hst2
      have HST := Lib.hid hst; have HST2 := Lib.hid hst2; have HPL := Lib.hid hpl; have HPL2 := Lib.hid hpl2; have HPS := Lib.hid hps; have HPS2 := Lib.hid hps2; have HDG := Lib.hid hdig; have HNZ := Lib.hid hnz; have HV := Lib.hid hV; have HGK := Lib.hid hgk; have HK := Lib.hid hk
      have HOWN := Lib.hid hown; have HBEL := Lib.hid hbel
      clear hst hst2 hst3 hpl hpl2 hps hps2 hdig hnz hV hgk hk hown hbel
      go_wp2_with fail
      refine (atoi_any _ HDG.out HNZ.out (by rw [HPS.out]; have := HK.out; omega) _).mono ?_
      rintro e w2 ⟨rfl, b2⟩
      rw [HPL.out, HV.out]
      have hown2 := ownsRow_below HOWN.out b2
      have hbel2 := HBEL.out.trans (b2.mono HBEL.out.size)
      have hwsz : w.heap.size ≤ w2.heap.size := hbel2.size
      have HOWN2 := Lib.hid (hown2.alloc (.cells #[.int .i64 (V : Int)] 3)); have HBEL2 := Lib.hid (hbel2.alloc hwsz (.cells #[.int .i64 (V : Int)] 3))
      clear b2 hown2 hbel2
      have hzl := HST.out.len
      rw [List.length_append, List.length_cons, List.length_nil] at hzl
      go_wp2_with (at_builtin; refine wpList_append_own _ rfl _ _ 35 rfl w.heap.size 3 i0 (.int .i64 0) 1 8 Tryz.underlying35 hi hi0 hi1 hi2 rfl (by decide) _ _ _ rfl HOWN2.out ⟨w2.heap.size, 0, none⟩ 1 1 [.int .i64 (V : Int)] rfl rfl ?b1 ?b2 ?b3 ?b4 ?b5 ?_)
      case b1 => 
        have := World.news_of_block (cs := #[.int .i64 (V : Int)]) (t := 3) (fr := (0, 0)) (heap_alloc_new w2 (.cells #[.int .i64 (V : Int)] 3))
        simpa using this
      case b2 => simp [Value.oneCell']
      case b3 => unfold maxLen; omega
      case b4 => omega
      case b5 => first | omega | (simp; omega)
      intro v3 w3 hown3 hgrow3 _
      have hbel3 := HBEL2.out.grown hgrow3 (by simp; omega) (fun q hq => (HOWN2.out.lt q hq).1)
      have HOWN3 := Lib.hid hown3; have HBEL3 := Lib.hid hbel3
      clear hown3 hgrow3 hbel3
      go_wp2_with fail
      go_roundg k
      case measure => have := hS.out; have := HK.out; omega
      case rel =>
        refine ⟨_, zs ++ [(V : Int)], rfl, Lib.hid HPS2.out, HPL2, ?_, HBEL3.out, HST⟩
        have := HOWN3.out
        simpa using this

end Go.Proofs.YtppaklifacadpaaGreatDoor
