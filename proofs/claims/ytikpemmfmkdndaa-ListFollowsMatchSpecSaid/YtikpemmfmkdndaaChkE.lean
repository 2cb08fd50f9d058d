/- checkEntry (program). -/
import Derived.Test.YtikpemmfmkdndaaEntBox
import Derived.Test.YtikpemmfmkdndaaWord
import Derived.Test.YtikpemmfmkdndaaTick
import Derived.Test.YtikpemmfmkdndaaName
namespace Go.Proofs.Ytikpemmfmkdndaa
set_option linter.unusedVariables false
set_option linter.unusedSimpArgs false
open Go.RowKit Go.Shelf Go.Deep

theorem cvt_secs (mi : Int) (h : 1 ≤ mi ∧ mi ≤ 3600000) : cvtV mi 1000 1 2 = secs mi := by
  have e : portQ mi 1 1000 2 = secs mi := by
    unfold portQ secs growsB
    have e1 : ((mi.natAbs : Nat) : Int) = mi := by omega
    simp only [e1, Int.mul_one]
    rw [if_neg (by omega), if_neg (by omega), if_neg (by omega : ¬ ((2 : Int) = 1)), if_neg (by omega : ¬ ((2 : Int) = 3))]
    split
    · rename_i h5
      have h6 : 1000 ≤ 2 * (mi % 1000) := by simpa using h5
      omega
    · rename_i h5
      have h6 : ¬ 1000 ≤ 2 * (mi % 1000) := by simpa using h5
      omega
  have hs : isTimeN (secs mi) := by unfold isTimeN secs; omega
  have f : cvtF mi 1000 1 2 = 0 := by
    unfold cvtF
    rw [if_neg (by simp only [Classical.not_not]; unfold isTimeN isScaleN; omega), if_neg (by omega), e, if_neg (by simpa using hs)]
  rw [cvtV, if_pos f, e]
theorem entH_at (uri : ByteArray) (mi : Int) (br : Bool) (da : Int) (key : ByteArray) (gap : Bool) (ex : List ByteArray) (t : Int) (U I1 I2 KB G : Bool) (h1 : uriB uri = U) (h2 : inB mi 1 3600000 = I1) (h3 : inB da (-1) 253402300799999 = I2) (h4 : (decide (0 < key.size) && !nameB key) = KB) (h5 : decide (20 < ex.length) = G) :
    fstF [fIf (!U) 3, fIf (!I1) 1, fIf (decide (t < cvtV mi 1000 1 2)) 2, fIf (!I2) 1, fIf KB 5, fIf G 2] = entH ⟨uri, mi, br, da, key, gap, ex⟩ t := by
  unfold entH
  simp only [h1, h2, h3, h4, h5]
  cases U
  · rfl
  · cases I1
    · rfl
    · rw [cvt_secs mi (by simpa [inB] using h2)]
theorem exE_at (s : ByteArray) (F P G : Bool) (h1 : furB s = F) (h2 : printB 32 s = P) (h3 : decide (300 < s.size) = G) : fstF [fIf (!F || !P) 3, fIf G 2] = exE s := by
  unfold exE
  rw [h1, h2, h3]
set_option maxRecDepth 100000 in
set_option maxHeartbeats 16000000 in
theorem chkE_walk (uri : ByteArray) (mi : Int) (br : Bool) (da : Int) (key : ByteArray) (gap : Bool) (ex : List ByteArray) (u : Value) (t : Int) (w : World) (hS : Strs w u ex) (hu : uri.size ≤ maxLen) (hk : key.size ≤ maxLen) (hx : ∀ y ∈ ex, y.size ≤ maxLen) :
    Calls Try.prog 76 #[.agg #[.string uri, .int .i64 mi, .bool br, .int .i64 da, .string key, .bool gap, u], .int .i64 t] w fun r w' => r = .returned (.int .i64 (entE ⟨uri, mi, br, da, key, gap, ex⟩ t)) ∧ Below w.heap.size w w' := by
  have HCV := Lib.hid (fun W => convert_any mi 1000 1 2 W)
  have HU := Lib.hid (fun W => isUri_any uri W hu)
  have HK := Lib.hid (fun W => isName_any key W hk)
  have HF := Lib.hid (fun s W => isFurther_any s W)
  have HP : Hid (∀ k, k < ex.length → ∀ W, Calls Try.prog 93 #[.string (ex.getD k str0)] W fun e w' => e = .returned (.bool (printB 32 (ex.getD k str0))) ∧ W = w') := Lib.hid (fun k hk W => isPlain_any _ W (by
    rw [List.getD_eq_getElem?_getD, List.getElem?_eq_getElem hk]
    exact hx _ (List.getElem_mem hk)))
  have HSZ : Hid (∀ k, k < ex.length → (ex.getD k str0).size ≤ maxLen) := Lib.hid (fun k hk => by
    rw [List.getD_eq_getElem?_getD, List.getElem?_eq_getElem hk]
    exact hx _ (List.getElem_mem hk))
  have FX := EBox.new w ⟨uri, mi, br, da, key, gap, ex⟩ u 32
  have b1 : Below w.heap.size w (w.alloc (.cells #[.string uri, .int .i64 mi, .bool br, .int .i64 da, .string key, .bool gap, u] 32)) := (Below.refl _ w).alloc (Nat.le_refl _) _
  obtain ⟨a, cap, rfl⟩ := hS.parts
  have hlen := hS.len
  have HS : Hid (∀ W, Below w.heap.size w W → Strs W (.slice a ex.length cap) ex) := Lib.hid (fun W hb => hS.below hb (Nat.le_refl _))
  obtain ⟨U, hU⟩ : ∃ U, uriB uri = U := ⟨_, rfl⟩
  obtain ⟨I1, hI1⟩ : ∃ I1, inB mi 1 3600000 = I1 := ⟨_, rfl⟩
  obtain ⟨I2, hI2⟩ : ∃ I2, inB da (-1) 253402300799999 = I2 := ⟨_, rfl⟩
  obtain ⟨NB, hNB⟩ : ∃ NB, nameB key = NB := ⟨_, rfl⟩
  obtain ⟨G, hG⟩ : ∃ G, decide (20 < ex.length) = G := ⟨_, rfl⟩
  obtain ⟨HD, hHD⟩ : ∃ HD, entH ⟨uri, mi, br, da, key, gap, ex⟩ t = HD := ⟨_, rfl⟩
  obtain ⟨XF, hXF⟩ : ∃ XF, exsF ex = XF := ⟨_, rfl⟩
  have hE : entE ⟨uri, mi, br, da, key, gap, ex⟩ t = if HD = 0 then XF else HD := by unfold entE; rw [hHD]; show (if HD = 0 then exsF ex else HD) = _; rw [hXF]
  obtain ⟨R, hR⟩ : ∃ R, entE ⟨uri, mi, br, da, key, gap, ex⟩ t = R := ⟨_, rfl⟩
  rw [hR] at hE ⊢
  have HE := Lib.hid hE
  have HSM : Hid (fstF [fIf (!U) 3, fIf (!I1) 1, fIf (decide (t < cvtV mi 1000 1 2)) 2, fIf (!I2) 1, fIf (decide (0 < key.size) && !NB) 5, fIf G 2] = HD) := Lib.hid (by rw [← hHD]; exact entH_at uri mi br da key gap ex t U I1 I2 _ G hU hI1 hI2 (by rw [hNB]) hG)
  have HI1 : Hid (∀ W, Calls Try.prog 51 #[.int .i64 mi, .int .i64 1, .int .i64 3600000] W fun e w' => e = .returned (.bool I1) ∧ W = w') := Lib.hid (fun W => by rw [← hI1]; exact bwithin_any _ _ _ W)
  have HI2 : Hid (∀ W, Calls Try.prog 51 #[.int .i64 da, .int .i64 (-1), .int .i64 253402300799999] W fun e w' => e = .returned (.bool I2) ∧ W = w') := Lib.hid (fun W => by rw [← hI2]; exact bwithin_any _ _ _ W)
  rw [hU] at HU
  rw [hNB] at HK
  obtain ⟨SV, hSV⟩ : ∃ SV, cvtV mi 1000 1 2 = SV := ⟨_, rfl⟩
  obtain ⟨SF, hSF⟩ : ∃ SF, cvtF mi 1000 1 2 = SF := ⟨_, rfl⟩
  rw [hSV, hSF] at HCV
  rw [hSV] at HSM
  have HXF := Lib.hid hXF
  obtain ⟨n, hn⟩ : ∃ n, ex.length = n := ⟨_, rfl⟩
  have HN := Lib.hid hn
  rw [hn] at HS HP HSZ hG hlen ⊢
  rw [hn] at FX b1
  have hG1 : decide ((20 : Int) < (n : Int)) = G := by rw [← hG]; exact decide_eq_decide.2 (by omega)
  unfold maxLen at hlen
  clear hS hU hI1 hI2 hNB hHD hXF hE hR hSV hSF hn hx hu hk
  go_enter Try.func76, Try.ntmps76
  go_upto_region 1 with fail
  generalize w.alloc (.cells #[.string uri, .int .i64 mi, .bool br, .int .i64 da, .string key, .bool gap, .slice a n cap] 32) = W at *
  have d1 := FX.c1; have dl := FX.lt
  go_wp2_with fail
  refine (HCV.out _).mono ?_; rintro e w3 ⟨rfl, q3, rfl⟩
  have b1 := below_drewN b1 q3
  have FX := FX.drewN q3
  generalize W.drewN q3 = W1 at *
  clear d1 dl HCV
  go_upto_region 2 with fail
  have d0 := FX.c0; have d1 := FX.c1; have d3 := FX.c3; have d4 := FX.c4; have d6 := FX.c6; have dl := FX.lt
  by_cases hk0 : 0 < key.size
  · have k1 := sNe hk0
    have k2 := sNe2 hk0
    rw [decide_eq_true hk0, Bool.true_and] at HSM
    clear hk0
    refine region_still_tail 34 (by kernel_rfl) (by kernel_rfl) ?_
    simp only [List.take_succ_cons, List.take_zero, List.drop_succ_cons, List.drop_zero]
    refine St.step (fun K hK => ?_); go_simp; refine hK.out _ ?_; clear hK K
    refine St.step (fun K hK => ?_); go_simp; refine hK.out _ ?_; clear hK K
    refine St.step (fun K hK => ?_); go_simp; refine ⟨_, (st_of (HU.out _)), ?_⟩; refine hK.out _ ?_; clear hK K
    refine St.step (fun K hK => ?_); go_simp; refine hK.out _ ?_; clear hK K
    refine St.step (fun K hK => ?_); go_simp; refine ⟨_, (st_of (bfaultIf_any _ _ _)), ?_⟩; refine hK.out _ ?_; clear hK K
    refine St.step (fun K hK => ?_); go_simp; refine hK.out _ ?_; clear hK K
    refine St.step (fun K hK => ?_); go_simp; refine hK.out _ ?_; clear hK K
    refine St.step (fun K hK => ?_); go_simp; refine ⟨_, (st_of (HI1.out _)), ?_⟩; refine hK.out _ ?_; clear hK K
    refine St.step (fun K hK => ?_); go_simp; refine hK.out _ ?_; clear hK K
    refine St.step (fun K hK => ?_); go_simp; refine ⟨_, (st_of (bfaultIf_any _ _ _)), ?_⟩; refine hK.out _ ?_; clear hK K
    refine St.step (fun K hK => ?_); go_simp; refine hK.out _ ?_; clear hK K
    refine St.step (fun K hK => ?_); go_simp; refine hK.out _ ?_; clear hK K
    refine St.step (fun K hK => ?_); go_simp; refine hK.out _ ?_; clear hK K
    refine St.step (fun K hK => ?_); go_simp; refine ⟨_, (st_of (bfaultIf_any _ _ _)), ?_⟩; refine hK.out _ ?_; clear hK K
    refine St.step (fun K hK => ?_); go_simp; refine hK.out _ ?_; clear hK K
    refine St.step (fun K hK => ?_); go_simp; refine hK.out _ ?_; clear hK K
    refine St.step (fun K hK => ?_); go_simp; refine ⟨_, (st_of (HI2.out _)), ?_⟩; refine hK.out _ ?_; clear hK K
    refine St.step (fun K hK => ?_); go_simp; refine hK.out _ ?_; clear hK K
    refine St.step (fun K hK => ?_); go_simp; refine ⟨_, (st_of (bfaultIf_any _ _ _)), ?_⟩; refine hK.out _ ?_; clear hK K
    refine St.step (fun K hK => ?_); go_simp; refine hK.out _ ?_; clear hK K
    refine St.step (fun K hK => ?_); go_simp; refine hK.out _ ?_; clear hK K
    refine St.step (fun K hK => ?_); go_simp; refine hK.out _ ?_; clear hK K
    refine St.step (fun K hK => ?_); go_simp; refine hK.out _ ?_; clear hK K
    refine St.step (fun K hK => ?_); go_simp; refine hK.out _ ?_; clear hK K
    refine St.step (fun K hK => ?_); go_simp; refine hK.out _ ?_; clear hK K
    refine St.step (fun K hK => ?_); go_simp; refine ⟨_, (st_of (HK.out _)), ?_⟩; refine hK.out _ ?_; clear hK K
    refine St.step (fun K hK => ?_); go_simp; refine hK.out _ ?_; clear hK K
    refine St.step (fun K hK => ?_); go_simp; refine hK.out _ ?_; clear hK K
    refine St.step (fun K hK => ?_); go_simp; refine ⟨_, (st_of (bfaultIf_any _ _ _)), ?_⟩; refine hK.out _ ?_; clear hK K
    refine St.step (fun K hK => ?_); go_simp; refine hK.out _ ?_; clear hK K
    refine St.step (fun K hK => ?_); go_simp; refine hK.out _ ?_; clear hK K
    refine St.step (fun K hK => ?_); go_simp; refine hK.out _ ?_; clear hK K
    refine St.step (fun K hK => ?_); go_simp; refine hK.out _ ?_; clear hK K
    refine St.step (fun K hK => ?_); go_simp; refine ⟨_, (st_of (bfaultIf_any _ _ _)), ?_⟩; refine hK.out _ ?_; clear hK K
    refine St.nil ?_
    have b1 := b1.drew
    have FX := FX.drew
    clear d0 d1 d3 d4 d6 dl k1 k2
    generalize W1.drew = W2 at *
    go_wp2_with fail
    refine (lfirst6 _ _ _ _ _ _ _).mono ?_; rintro e w' ⟨rfl, rfl⟩
    rw [HSM.out]
    clear HSM HU HK HI1 HI2
    have b1 := b1.alloc (o := .cells #[.int .i64 (fIf (!U) 3), .int .i64 (fIf (!I1) 1), .int .i64 (fIf (decide (t < SV)) 2), .int .i64 (fIf (!I2) 1), .int .i64 (fIf (!NB) 5), .int .i64 (fIf G 2)] 25) (Nat.le_of_lt FX.lt)
    have FX := FX.alloc (.cells #[.int .i64 (fIf (!U) 3), .int .i64 (fIf (!I1) 1), .int .i64 (fIf (decide (t < SV)) 2), .int .i64 (fIf (!I2) 1), .int .i64 (fIf (!NB) 5), .int .i64 (fIf G 2)] 25)
    generalize W2.alloc (.cells #[.int .i64 (fIf (!U) 3), .int .i64 (fIf (!I1) 1), .int .i64 (fIf (decide (t < SV)) 2), .int .i64 (fIf (!I2) 1), .int .i64 (fIf (!NB) 5), .int .i64 (fIf G 2)] 25) = W3 at *
    by_cases hh : HD = 0
    rotate_left
    · have hne : (HD == 0) = false := by simp; exact hh
      have hne2 : (HD != 0) = true := by simp; exact hh
      have e1 : R = HD := by rw [HE.out, if_neg hh]
      subst e1
      go_wp2_with fail
      go_ret
      exact ⟨rfl, b1⟩
    · have e1 : R = XF := by rw [HE.out, if_pos hh]
      subst hh e1
      have d6 := FX.c6; have dl := FX.lt
      go_wp2_with fail
      clear d6 dl
      go_loopw [59] (fun v wr => ∃ k : Nat, k ≤ n ∧ v = .int .i64 k ∧ Below w.heap.size w wr ∧ Hid (exsF (ex.drop k) = R)) (fun v _ => n - (intOf v).toNat)
      case atStart => exact ⟨0, Nat.zero_le _, rfl, b1, Lib.hid (by rw [List.drop_zero]; exact HXF.out)⟩
      case round =>
        obtain ⟨k, hk, rfl, hbr, HD2⟩ := hrel
        by_cases hk2 : k < n
        rotate_left
        · have e1 : R = 0 := by rw [← HD2.out, List.drop_of_length_le (by rw [HN.out]; omega)]; rfl
          have kD : decide ((k : Int) < (n : Int)) = false := by simp; omega
          have kD2 : decide (k < n) = false := by simp; omega
          subst e1
          go_wp2_with fail
          go_ret
          exact ⟨rfl, hbr⟩
        · have hSW := HS.out wr hbr
          obtain ⟨b, off, cap', hv, hlt, -, -⟩ := hSW.spot (by rw [HN.out]; omega)
          simp only [Value.slice.injEq] at hv
          obtain ⟨rfl, -, rfl⟩ := hv
          have c0 := hSW.cells k (by rw [HN.out]; exact hk2)
          have hst := exsF_drop ex k (by rw [HN.out]; exact hk2)
          rw [HD2.out] at hst
          have hpl := HP.out k hk2
          have hsz := HSZ.out k hk2
          obtain ⟨s, hs⟩ : ∃ s, ex.getD k str0 = s := ⟨_, rfl⟩
          rw [hs] at c0 hst hpl hsz
          unfold maxLen at hsz
          obtain ⟨x, hx⟩ : ∃ x, exE s = x := ⟨_, rfl⟩
          rw [hx] at hst
          have HST := Lib.hid hst
          have hfl := HF.out s
          obtain ⟨F, hF⟩ : ∃ F, furB s = F := ⟨_, rfl⟩
          obtain ⟨P, hP⟩ : ∃ P, printB 32 s = P := ⟨_, rfl⟩
          obtain ⟨G3, hG3⟩ : ∃ G3, decide (300 < s.size) = G3 := ⟨_, rfl⟩
          have g3 : decide ((300 : Int) < (s.size : Int)) = G3 := by rw [← hG3]; exact decide_eq_decide.2 (by omega)
          have HX : Hid (fstF [fIf (!F || !P) 3, fIf G3 2] = x) := Lib.hid ((exE_at s F P G3 hF hP hG3).trans hx)
          rw [hF] at hfl
          rw [hP] at hpl
          have HFL := Lib.hid hfl; have HPL := Lib.hid hpl
          have kI : (k : Int) < (n : Int) := by omega
          have hwI : IntKind.i64.wrap ((k : Int) + 1) = (k : Int) + 1 := IntWalk.i64_in _ ⟨by omega, by omega⟩
          have hsr := hbr.size
          clear hst hx hfl hpl hF hP hs
          have HFIN : Hid (∀ W (o : Obj), W = wr → Below w.heap.size w (W.alloc o)) := Lib.hid (fun W o e => by subst e; exact hbr.alloc hsr o)
          cases F
          · replace HX : Hid (fstF [fIf true 3, fIf G3 2] = x) := HX
            go_wp2_with fail
            refine (HFL.out _).mono ?_; rintro e w' ⟨rfl, rfl⟩
            go_wp2_with fail
            refine (bfaultIf_any _ _ _).mono ?_; rintro e w' ⟨rfl, rfl⟩
            go_wp2_with fail
            refine (bfaultIf_any _ _ _).mono ?_; rintro e w' ⟨rfl, rfl⟩
            go_wp2_with fail
            refine (lfirst2 _ _ _).mono ?_; rintro e w' ⟨rfl, rfl⟩
            rw [HX.out]
            have hbn := HFIN.out wr (.cells #[.int .i64 (fIf true 3), .int .i64 (fIf G3 2)] 25) rfl
            by_cases h0 : x = 0
            · have HN2 : Hid (exsF (ex.drop (k + 1)) = R) := Lib.hid (by have := HST.out; rw [if_pos h0] at this; exact this.symm)
              subst h0
              go_wp2_with fail
              go_roundw
              case rel => exact ⟨k + 1, by omega, by go_num, hbn, HN2⟩
              case measure => simp [intOf]; omega
            · have hne : (x == 0) = false := by simp; exact h0
              have hne2 : (x != 0) = true := by simp; exact h0
              have e1 : R = x := by have := HST.out; rw [if_neg h0] at this; exact this
              subst e1
              go_wp2_with fail
              go_ret
              exact ⟨rfl, hbn⟩
          · replace HX : Hid (fstF [fIf (!P) 3, fIf G3 2] = x) := Lib.hid (by have := HX.out; simpa using this)
            go_wp2_with fail
            refine (HFL.out _).mono ?_; rintro e w' ⟨rfl, rfl⟩
            go_wp2_with fail
            refine (HPL.out _).mono ?_; rintro e w' ⟨rfl, rfl⟩
            go_wp2_with fail
            refine (bfaultIf_any _ _ _).mono ?_; rintro e w' ⟨rfl, rfl⟩
            go_wp2_with fail
            refine (bfaultIf_any _ _ _).mono ?_; rintro e w' ⟨rfl, rfl⟩
            go_wp2_with fail
            refine (lfirst2 _ _ _).mono ?_; rintro e w' ⟨rfl, rfl⟩
            rw [HX.out]
            have hbn := HFIN.out wr (.cells #[.int .i64 (fIf (!P) 3), .int .i64 (fIf G3 2)] 25) rfl
            by_cases h0 : x = 0
            · have HN2 : Hid (exsF (ex.drop (k + 1)) = R) := Lib.hid (by have := HST.out; rw [if_pos h0] at this; exact this.symm)
              subst h0
              go_wp2_with fail
              go_roundw
              case rel => exact ⟨k + 1, by omega, by go_num, hbn, HN2⟩
              case measure => simp [intOf]; omega
            · have hne : (x == 0) = false := by simp; exact h0
              have hne2 : (x != 0) = true := by simp; exact h0
              have e1 : R = x := by have := HST.out; rw [if_neg h0] at this; exact this
              subst e1
              go_wp2_with fail
              go_ret
              exact ⟨rfl, hbn⟩
  · have k1 : (key.toList == []) = true := by rw [sEmpty (s := key) (by omega), ByteArray.toList_eq]; rfl
    have k2 : (key.toList != []) = false := by rw [bne, k1]; rfl
    rw [decide_eq_false hk0, Bool.false_and] at HSM
    clear hk0
    refine region_still_tail 34 (by kernel_rfl) (by kernel_rfl) ?_
    simp only [List.take_succ_cons, List.take_zero, List.drop_succ_cons, List.drop_zero]
    refine St.step (fun K hK => ?_); go_simp; refine hK.out _ ?_; clear hK K
    refine St.step (fun K hK => ?_); go_simp; refine hK.out _ ?_; clear hK K
    refine St.step (fun K hK => ?_); go_simp; refine ⟨_, (st_of (HU.out _)), ?_⟩; refine hK.out _ ?_; clear hK K
    refine St.step (fun K hK => ?_); go_simp; refine hK.out _ ?_; clear hK K
    refine St.step (fun K hK => ?_); go_simp; refine ⟨_, (st_of (bfaultIf_any _ _ _)), ?_⟩; refine hK.out _ ?_; clear hK K
    refine St.step (fun K hK => ?_); go_simp; refine hK.out _ ?_; clear hK K
    refine St.step (fun K hK => ?_); go_simp; refine hK.out _ ?_; clear hK K
    refine St.step (fun K hK => ?_); go_simp; refine ⟨_, (st_of (HI1.out _)), ?_⟩; refine hK.out _ ?_; clear hK K
    refine St.step (fun K hK => ?_); go_simp; refine hK.out _ ?_; clear hK K
    refine St.step (fun K hK => ?_); go_simp; refine ⟨_, (st_of (bfaultIf_any _ _ _)), ?_⟩; refine hK.out _ ?_; clear hK K
    refine St.step (fun K hK => ?_); go_simp; refine hK.out _ ?_; clear hK K
    refine St.step (fun K hK => ?_); go_simp; refine hK.out _ ?_; clear hK K
    refine St.step (fun K hK => ?_); go_simp; refine hK.out _ ?_; clear hK K
    refine St.step (fun K hK => ?_); go_simp; refine ⟨_, (st_of (bfaultIf_any _ _ _)), ?_⟩; refine hK.out _ ?_; clear hK K
    refine St.step (fun K hK => ?_); go_simp; refine hK.out _ ?_; clear hK K
    refine St.step (fun K hK => ?_); go_simp; refine hK.out _ ?_; clear hK K
    refine St.step (fun K hK => ?_); go_simp; refine ⟨_, (st_of (HI2.out _)), ?_⟩; refine hK.out _ ?_; clear hK K
    refine St.step (fun K hK => ?_); go_simp; refine hK.out _ ?_; clear hK K
    refine St.step (fun K hK => ?_); go_simp; refine ⟨_, (st_of (bfaultIf_any _ _ _)), ?_⟩; refine hK.out _ ?_; clear hK K
    refine St.step (fun K hK => ?_); go_simp; refine hK.out _ ?_; clear hK K
    refine St.step (fun K hK => ?_); go_simp; refine hK.out _ ?_; clear hK K
    refine St.step (fun K hK => ?_); go_simp; refine hK.out _ ?_; clear hK K
    refine St.step (fun K hK => ?_); go_simp; refine hK.out _ ?_; clear hK K
    refine St.skip (by kernel_rfl) ?_
    refine St.skip (by kernel_rfl) ?_
    refine St.skip (by kernel_rfl) ?_
    refine St.skip (by kernel_rfl) ?_
    refine St.step (fun K hK => ?_); go_simp; refine hK.out _ ?_; clear hK K
    refine St.step (fun K hK => ?_); go_simp; refine ⟨_, (st_of (bfaultIf_any _ _ _)), ?_⟩; refine hK.out _ ?_; clear hK K
    refine St.step (fun K hK => ?_); go_simp; refine hK.out _ ?_; clear hK K
    refine St.step (fun K hK => ?_); go_simp; refine hK.out _ ?_; clear hK K
    refine St.step (fun K hK => ?_); go_simp; refine hK.out _ ?_; clear hK K
    refine St.step (fun K hK => ?_); go_simp; refine hK.out _ ?_; clear hK K
    refine St.step (fun K hK => ?_); go_simp; refine ⟨_, (st_of (bfaultIf_any _ _ _)), ?_⟩; refine hK.out _ ?_; clear hK K
    refine St.nil ?_
    have b1 := b1.drew
    have FX := FX.drew
    clear d0 d1 d3 d4 d6 dl k1 k2
    generalize W1.drew = W2 at *
    go_wp2_with fail
    refine (lfirst6 _ _ _ _ _ _ _).mono ?_; rintro e w' ⟨rfl, rfl⟩
    rw [HSM.out]
    clear HSM HU HK HI1 HI2
    have b1 := b1.alloc (o := .cells #[.int .i64 (fIf (!U) 3), .int .i64 (fIf (!I1) 1), .int .i64 (fIf (decide (t < SV)) 2), .int .i64 (fIf (!I2) 1), .int .i64 (fIf false 5), .int .i64 (fIf G 2)] 25) (Nat.le_of_lt FX.lt)
    have FX := FX.alloc (.cells #[.int .i64 (fIf (!U) 3), .int .i64 (fIf (!I1) 1), .int .i64 (fIf (decide (t < SV)) 2), .int .i64 (fIf (!I2) 1), .int .i64 (fIf false 5), .int .i64 (fIf G 2)] 25)
    generalize W2.alloc (.cells #[.int .i64 (fIf (!U) 3), .int .i64 (fIf (!I1) 1), .int .i64 (fIf (decide (t < SV)) 2), .int .i64 (fIf (!I2) 1), .int .i64 (fIf false 5), .int .i64 (fIf G 2)] 25) = W3 at *
    by_cases hh : HD = 0
    rotate_left
    · have hne : (HD == 0) = false := by simp; exact hh
      have hne2 : (HD != 0) = true := by simp; exact hh
      have e1 : R = HD := by rw [HE.out, if_neg hh]
      subst e1
      go_wp2_with fail
      go_ret
      exact ⟨rfl, b1⟩
    · have e1 : R = XF := by rw [HE.out, if_pos hh]
      subst hh e1
      have d6 := FX.c6; have dl := FX.lt
      go_wp2_with fail
      clear d6 dl
      go_loopw [59] (fun v wr => ∃ k : Nat, k ≤ n ∧ v = .int .i64 k ∧ Below w.heap.size w wr ∧ Hid (exsF (ex.drop k) = R)) (fun v _ => n - (intOf v).toNat)
      case atStart => exact ⟨0, Nat.zero_le _, rfl, b1, Lib.hid (by rw [List.drop_zero]; exact HXF.out)⟩
      case round =>
        obtain ⟨k, hk, rfl, hbr, HD2⟩ := hrel
        by_cases hk2 : k < n
        rotate_left
        · have e1 : R = 0 := by rw [← HD2.out, List.drop_of_length_le (by rw [HN.out]; omega)]; rfl
          have kD : decide ((k : Int) < (n : Int)) = false := by simp; omega
          have kD2 : decide (k < n) = false := by simp; omega
          subst e1
          go_wp2_with fail
          go_ret
          exact ⟨rfl, hbr⟩
        · have hSW := HS.out wr hbr
          obtain ⟨b, off, cap', hv, hlt, -, -⟩ := hSW.spot (by rw [HN.out]; omega)
          simp only [Value.slice.injEq] at hv
          obtain ⟨rfl, -, rfl⟩ := hv
          have c0 := hSW.cells k (by rw [HN.out]; exact hk2)
          have hst := exsF_drop ex k (by rw [HN.out]; exact hk2)
          rw [HD2.out] at hst
          have hpl := HP.out k hk2
          have hsz := HSZ.out k hk2
          obtain ⟨s, hs⟩ : ∃ s, ex.getD k str0 = s := ⟨_, rfl⟩
          rw [hs] at c0 hst hpl hsz
          unfold maxLen at hsz
          obtain ⟨x, hx⟩ : ∃ x, exE s = x := ⟨_, rfl⟩
          rw [hx] at hst
          have HST := Lib.hid hst
          have hfl := HF.out s
          obtain ⟨F, hF⟩ : ∃ F, furB s = F := ⟨_, rfl⟩
          obtain ⟨P, hP⟩ : ∃ P, printB 32 s = P := ⟨_, rfl⟩
          obtain ⟨G3, hG3⟩ : ∃ G3, decide (300 < s.size) = G3 := ⟨_, rfl⟩
          have g3 : decide ((300 : Int) < (s.size : Int)) = G3 := by rw [← hG3]; exact decide_eq_decide.2 (by omega)
          have HX : Hid (fstF [fIf (!F || !P) 3, fIf G3 2] = x) := Lib.hid ((exE_at s F P G3 hF hP hG3).trans hx)
          rw [hF] at hfl
          rw [hP] at hpl
          have HFL := Lib.hid hfl; have HPL := Lib.hid hpl
          have kI : (k : Int) < (n : Int) := by omega
          have hwI : IntKind.i64.wrap ((k : Int) + 1) = (k : Int) + 1 := IntWalk.i64_in _ ⟨by omega, by omega⟩
          have hsr := hbr.size
          clear hst hx hfl hpl hF hP hs
          have HFIN : Hid (∀ W (o : Obj), W = wr → Below w.heap.size w (W.alloc o)) := Lib.hid (fun W o e => by subst e; exact hbr.alloc hsr o)
          cases F
          · replace HX : Hid (fstF [fIf true 3, fIf G3 2] = x) := HX
            go_wp2_with fail
            refine (HFL.out _).mono ?_; rintro e w' ⟨rfl, rfl⟩
            go_wp2_with fail
            refine (bfaultIf_any _ _ _).mono ?_; rintro e w' ⟨rfl, rfl⟩
            go_wp2_with fail
            refine (bfaultIf_any _ _ _).mono ?_; rintro e w' ⟨rfl, rfl⟩
            go_wp2_with fail
            refine (lfirst2 _ _ _).mono ?_; rintro e w' ⟨rfl, rfl⟩
            rw [HX.out]
            have hbn := HFIN.out wr (.cells #[.int .i64 (fIf true 3), .int .i64 (fIf G3 2)] 25) rfl
            by_cases h0 : x = 0
            · have HN2 : Hid (exsF (ex.drop (k + 1)) = R) := Lib.hid (by have := HST.out; rw [if_pos h0] at this; exact this.symm)
              subst h0
              go_wp2_with fail
              go_roundw
              case rel => exact ⟨k + 1, by omega, by go_num, hbn, HN2⟩
              case measure => simp [intOf]; omega
            · have hne : (x == 0) = false := by simp; exact h0
              have hne2 : (x != 0) = true := by simp; exact h0
              have e1 : R = x := by have := HST.out; rw [if_neg h0] at this; exact this
              subst e1
              go_wp2_with fail
              go_ret
              exact ⟨rfl, hbn⟩
          · replace HX : Hid (fstF [fIf (!P) 3, fIf G3 2] = x) := Lib.hid (by have := HX.out; simpa using this)
            go_wp2_with fail
            refine (HFL.out _).mono ?_; rintro e w' ⟨rfl, rfl⟩
            go_wp2_with fail
            refine (HPL.out _).mono ?_; rintro e w' ⟨rfl, rfl⟩
            go_wp2_with fail
            refine (bfaultIf_any _ _ _).mono ?_; rintro e w' ⟨rfl, rfl⟩
            go_wp2_with fail
            refine (bfaultIf_any _ _ _).mono ?_; rintro e w' ⟨rfl, rfl⟩
            go_wp2_with fail
            refine (lfirst2 _ _ _).mono ?_; rintro e w' ⟨rfl, rfl⟩
            rw [HX.out]
            have hbn := HFIN.out wr (.cells #[.int .i64 (fIf (!P) 3), .int .i64 (fIf G3 2)] 25) rfl
            by_cases h0 : x = 0
            · have HN2 : Hid (exsF (ex.drop (k + 1)) = R) := Lib.hid (by have := HST.out; rw [if_pos h0] at this; exact this.symm)
              subst h0
              go_wp2_with fail
              go_roundw
              case rel => exact ⟨k + 1, by omega, by go_num, hbn, HN2⟩
              case measure => simp [intOf]; omega
            · have hne : (x == 0) = false := by simp; exact h0
              have hne2 : (x != 0) = true := by simp; exact h0
              have e1 : R = x := by have := HST.out; rw [if_neg h0] at this; exact this
              subst e1
              go_wp2_with fail
              go_ret
              exact ⟨rfl, hbn⟩
theorem chkE_any (e : Ent) (u : Value) (t : Int) (w : World) (hS : Strs w u e.ex) (hwf : EntWf e) :
    Calls Try.prog 76 #[.agg #[.string e.uri, .int .i64 e.mi, .bool e.br, .int .i64 e.da, .string e.key, .bool e.gap, u], .int .i64 t] w fun r w' => r = .returned (.int .i64 (entE e t)) ∧ Below w.heap.size w w' :=
  chkE_walk e.uri e.mi e.br e.da e.key e.gap e.ex u t w hS hwf.uri hwf.key hwf.ex

end Go.Proofs.Ytikpemmfmkdndaa
