/- cut.Ranges. -/
import Derived.Test.YtgbdmgmbdjajeaaTimes4
import Derived.Test.YtgbdmgmbdjajeaaPairs
import Derived.Deep.AppendLies
namespace Go.Proofs.Ytgbdmgmbdjajeaa
set_option linter.unusedVariables false
set_option linter.unusedSimpArgs false
open Go.RowKit Go.Deep

theorem Try.infoRange : (Try.prog.info? 38).map (fun i => (i.zero, i.size, i.bytes)) = some (some (.agg #[.int .i64 0, .int .i64 0]), 2, 16) := by kernel_rfl
set_option maxRecDepth 100000 in
set_option maxHeartbeats 4000000 in
theorem ranges_walk (b off n cap : Nat) (ls : List Seg) (start : Int) (w : World) (hz : ls.length = n) (hn0 : 0 < n) (hn : n ≤ 1000) (hlt : b < w.heap.size) (hi0 : 0 ≤ start ∧ start ≤ 1000000000000000) (hS0 : Segs w (.slice (some ⟨b, off, none⟩) n cap) ls) :
    Calls Try.prog 14 #[.slice (some ⟨b, off, none⟩) n cap, .int .i64 start] w fun e w' => (∃ u, e = .returned (.tuple #[u, .int .i64 (rngE start ls)]) ∧ Pairs w' u (if rngE start ls = 0 then rngL start ls else [])) ∧ Below w.heap.size w w' := by
  obtain ⟨i0, hi, hz0, hi1, hi2⟩ := info_parts Try.infoRange
  have HC := Lib.hid (fun j (hj : j < n) => hS0.cells j (by omega))
  have HZ := Lib.hid hz
  have hn9 : (n : Int) ≤ 1000 := by omega
  obtain ⟨st0, st1⟩ := hi0
  obtain ⟨E, hE⟩ : ∃ E, rngE start ls = E := ⟨_, rfl⟩
  have HE := Lib.hid hE
  rw [hE]
  obtain ⟨L, hL⟩ : ∃ L, (if E = 0 then rngL start ls else []) = L := ⟨_, rfl⟩
  have HL := Lib.hid hL
  rw [hL]
  clear hz hS0 hE hL
  go_enter Try.func14, Try.ntmps14
  go_wp2_with fail
  refine (bwithin_any _ _ _ _).mono ?_; rintro e w' ⟨rfl, rfl⟩
  rw [inB_yes st0 st1]
  go_wp2_with fail
  go_loopw [1, 6, 17] (fun v1 v6 v wr => ∃ (k : Nat) (q : Int), k ≤ n ∧ v = .int .i64 k ∧ v1 = .int .i64 q ∧ 0 ≤ q ∧ q ≤ 1000000000000000 ∧ wr.ownsRow w.heap.size 38 2 v6 k (pcells (rngTo start ls k)) ∧ Below w.heap.size w wr ∧ Hid (rngS start ls k = q ∧ rngE q (ls.drop k) = E)) (fun _ _ v _ => n - (intOf v).toNat)
  case atStart => exact ⟨0, start, by omega, rfl, rfl, st0, st1, World.ownsRow_nil _ _ _ _, Below.refl _ _, Lib.hid ⟨rfl, HE.out⟩⟩
  case round =>
    obtain ⟨k, q, hk, rfl, rfl, q0, q1, hown, hbel, HQ⟩ := hrel
    by_cases hlt2 : k < n
    · obtain ⟨s, hs⟩ : ∃ s, ls.getD k seg0 = s := ⟨_, rfl⟩
      obtain ⟨d0, d1, d2, d3, d4, d5, d6⟩ := HC.out k hlt2
      rw [hs] at d0 d1 d2 d3 d4 d5 d6
      rw [← hbel.cell (p := ⟨b, off + k * 7, none⟩) hlt] at d0
      rw [← hbel.cell (p := ⟨b, off + k * 7 + 1, none⟩) hlt] at d1
      rw [← hbel.cell (p := ⟨b, off + k * 7 + 2, none⟩) hlt] at d2
      rw [← hbel.cell (p := ⟨b, off + k * 7 + 3, none⟩) hlt] at d3
      rw [← hbel.cell (p := ⟨b, off + k * 7 + 4, none⟩) hlt] at d4
      rw [← hbel.cell (p := ⟨b, off + k * 7 + 5, none⟩) hlt] at d5
      rw [← hbel.cell (p := ⟨b, off + k * 7 + 6, none⟩) hlt] at d6
      have hdr := rngE_drop start ls k (by rw [HZ.out]; exact hlt2)
      rw [hs, HQ.out.1, HQ.out.2] at hdr
      have hsu : rngS start ls (k + 1) = q + s.by_ := by rw [rngS, hs, HQ.out.1]
      have HSU := Lib.hid hsu
      have HTO : Hid (rngTo start ls (k + 1) = rngTo start ls k ++ [(q, q + s.by_)]) := Lib.hid (by
        have : rngTo start ls (k + 1) = rngTo start ls k ++ [(rngS start ls k, rngS start ls (k + 1))] := by simp [rngTo, List.range_succ]
        rw [this, hsu, HQ.out.1])
      have HDR := Lib.hid hdr
      clear hs hdr hsu
      obtain ⟨no, fr, te, bg, ln, z, ld⟩ := s
      simp only at d0 d1 d2 d3 d4 d5 d6 HSU HTO HDR
      obtain ⟨c, hc⟩ : ∃ c, inB z 0 (1000000000000000 - q) = c := ⟨_, rfl⟩
      have HCC := Lib.hid hc
      have hwq : IntKind.i64.wrap (1000000000000000 - q) = 1000000000000000 - q := IntWalk.i64_in _ ⟨by omega, by omega⟩
      go_wp2_with fail
      refine (bwithin_any _ _ _ _).mono ?_; rintro e w' ⟨rfl, rfl⟩
      rw [HCC.out]
      cases c
      · have HE1 : Hid (E = 1) := Lib.hid (by have := HDR.out; rw [HCC.out] at this; simpa using this)
        have HL1 : Hid (L = []) := Lib.hid (by rw [← HL.out, HE1.out]; rfl)
        clear hc
        go_wp2_with fail
        go_ret2
        refine ⟨⟨_, ret2_vi rfl HE1.out.symm, ?_⟩, hbel.alloc hbel.size _⟩
        rw [HL1.out]
        exact .inl ⟨_, _, rfl, rfl⟩
      · have HE1 : Hid (E = rngE (rngS start ls (k + 1)) (ls.drop (k + 1))) := Lib.hid (by have := HDR.out; rw [HCC.out] at this; simpa using this)
        have hzz := inB_iff.1 hc
        obtain ⟨z0, z1⟩ := hzz
        clear hc
        have z2 : q + z ≤ 1000000000000000 := by omega
        have z3 : z ≤ 1000000000000000 := by omega
        clear hwq z1
        have hsz := hbel.size
        go_wp2_with (at_builtin; refine wpList_append_own _ rfl _ _ 34 rfl w.heap.size 38 i0 (.agg #[.int .i64 0, .int .i64 0]) 2 16 Try.underlying34 hi hz0 hi1 hi2 rfl (by decide) _ _ _ rfl ((hown.alloc _).alloc _) ⟨wr.heap.size + 1, 0, none⟩ 1 1 [.int .i64 q, .int .i64 (q + z)] rfl rfl ?b1 ?b2 ?b3 ?b4 ?b5 ?_)
        case b1 =>
          have := World.news_of_block (cs := #[.int .i64 q, .int .i64 (q + z)]) (t := 38) (fr := (0, 0)) (heap_alloc_new (wr.alloc (.cells #[.int .i64 no, .int .i64 fr, .int .i64 te, .int .i64 bg, .int .i64 ln, .int .i64 z, .int .i64 ld] 45)) (.cells #[.int .i64 q, .int .i64 (q + z)] 38))
          simpa using this
        case b2 => simp [Value.oneCell']
        case b3 => unfold maxLen; omega
        case b4 => omega
        case b5 => first | omega | (simp; omega)
        intro v' w2 hown1 hgrow _
        have hb2 : Below w.heap.size w w2 := (((hbel.alloc hbel.size _).alloc (by simp; omega) _).grown hgrow (by simp; omega) (fun q hq => (hown.lt q hq).1))
        have hbR : w2.cell? ⟨wr.heap.size, 5, none⟩ = some (.int .i64 z) := by
          have hne : some wr.heap.size ≠ Value.ownBlock u6 := by
            intro h
            have := (hown.lt _ h.symm).2
            omega
          rw [World.cell?_of_block (a := ⟨wr.heap.size, 5, none⟩) (hgrow.block wr.heap.size (by simp; omega) hne), World.cell?_alloc_past _ _ _ (by simp), World.cell?_alloc_at _ _ _ _ (by simp)]
          rfl
        clear hgrow hown
        go_wp2_with fail
        go_roundw
        case rel =>
          refine ⟨k + 1, q + z, by omega, by go_num, rfl, by omega, z2, ?_, hb2, Lib.hid ⟨HSU.out, ?_⟩⟩
          · rw [HTO.out, pcells_snoc]
            exact hown1
          · rw [HE1.out, HSU.out]
        case measure => simp [intOf]; omega
    · have hkn : k = n := by omega
      have hlt' : decide (k < n) = false := by simp; omega
      have HE0 : Hid (E = 0) := Lib.hid (by rw [← HQ.out.2, List.drop_of_length_le (by rw [HZ.out]; omega)]; rfl)
      have HL2 : Hid (L = rngTo start ls k) := Lib.hid (by rw [← HL.out, if_pos HE0.out, rngL_eq, HZ.out, hkn])
      have hln : (rngTo start ls k).length = k := rngTo_len _ _ _
      have HLN := Lib.hid hln
      clear hln hkn hlt2
      go_wp2_with fail
      go_ret2
      refine ⟨⟨_, ret2_vi rfl HE0.out.symm, ?_⟩, hbel⟩
      rw [HL2.out]
      exact Pairs.ofOwn (ps := rngTo start ls k) (by rw [HLN.out]; exact hown)
theorem ranges_any (v : Value) (ls : List Seg) (start : Int) (w : World) (h : Segs w v ls) :
    Calls Try.prog 14 #[v, .int .i64 start] w fun e w' => (∃ u, e = .returned (.tuple #[u, .int .i64 (rngF ls start)]) ∧ Pairs w' u (rngR ls start)) ∧ Below w.heap.size w w' := by
  by_cases hst : inB start 0 1000000000000000 = true
  · by_cases h5 : ls.length ≤ 1000
    · have hF : rngF ls start = rngE start ls := by rw [rngF, if_pos hst, if_neg (by omega)]
      rw [rngR, hF]
      rcases h with ⟨a, cap, rfl, h0⟩ | ⟨b, off, cap, rfl, hne, hlt, hl, hm, hc⟩
      · have he : ls = [] := List.length_eq_zero_iff.1 h0
        subst he
        have HS := Lib.hid hst
        have HE : Hid (rngE start [] = 0) := Lib.hid rfl
        have HR : Hid ((if rngE start [] = 0 then rngL start [] else []) = []) := Lib.hid rfl
        rw [HE.out] at HR ⊢
        rw [HR.out]
        clear hst hF h5
        go_enter Try.func14, Try.ntmps14
        go_wp2_with fail
        refine (bwithin_any _ _ _ _).mono ?_; rintro e w' ⟨rfl, rfl⟩
        rw [HS.out]
        go_wp2_with fail
        refine wp_loop_rounds 1 ?_
        rw [rounds_succ]
        go_wp2_with fail
        go_ret2
        exact ⟨⟨_, rfl, .inl ⟨_, _, rfl, rfl⟩⟩, Below.refl _ _⟩
      · exact ranges_walk b off _ cap ls start w rfl hne h5 hlt (inB_iff.1 hst) (.inr ⟨b, off, cap, rfl, hne, hlt, hl, hm, hc⟩)
    · obtain ⟨a, cap, rfl⟩ := h.parts
      have hmx := h.max.2
      obtain ⟨n, hn⟩ : ∃ n, ls.length = n := ⟨_, rfl⟩
      have HE : Hid (rngF ls start = 2) := Lib.hid (by rw [rngF, if_pos hst, if_pos (by omega)])
      have HR : Hid (rngR ls start = []) := Lib.hid (by rw [rngR, HE.out]; rfl)
      have HS := Lib.hid hst
      rw [HR.out]
      rw [hn] at h5 hmx ⊢
      have z1 : (1000 : Int) < (n : Int) := by omega
      clear hn h hst
      go_enter Try.func14, Try.ntmps14
      go_wp2_with fail
      refine (bwithin_any _ _ _ _).mono ?_; rintro e w' ⟨rfl, rfl⟩
      rw [HS.out]
      go_wp2_with fail
      go_ret2
      exact ⟨⟨_, ret2_vi rfl HE.out.symm, .inl ⟨_, _, rfl, rfl⟩⟩, Below.refl _ _⟩
  · have hs' : inB start 0 1000000000000000 = false := by simpa using hst
    have HE : Hid (rngF ls start = 1) := Lib.hid (by rw [rngF, if_neg hst])
    have HR : Hid (rngR ls start = []) := Lib.hid (by rw [rngR, HE.out]; rfl)
    have HS := Lib.hid hs'
    rw [HR.out]
    clear hst hs' h
    go_enter Try.func14, Try.ntmps14
    go_wp2_with fail
    refine (bwithin_any _ _ _ _).mono ?_; rintro e w' ⟨rfl, rfl⟩
    rw [HS.out]
    go_wp2_with fail
    go_ret2
    exact ⟨⟨_, ret2_vi rfl HE.out.symm, .inl ⟨_, _, rfl, rfl⟩⟩, Below.refl _ _⟩

end Go.Proofs.Ytgbdmgmbdjajeaa
