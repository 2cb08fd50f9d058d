/- checkEntry (reference). -/
import Derived.Test.YtikpemmfmkdndaaEntBox
import Derived.Test.YtikpemmfmkdndaaRWord
namespace Go.Proofs.Ytikpemmfmkdndaa
set_option linter.unusedVariables false
set_option linter.unusedSimpArgs false
open Go.RowKit Go.Shelf Go.Deep

structure EntWays (U I1 D I2 KB G : Bool) (XF R : Int) : Prop where
  a : U = false → R = 3
  b : U = true → I1 = false → R = 1
  c : U = true → I1 = true → D = true → R = 2
  d : U = true → I1 = true → D = false → I2 = false → R = 1
  e : U = true → I1 = true → D = false → I2 = true → KB = true → R = 5
  f : U = true → I1 = true → D = false → I2 = true → KB = false → G = true → R = 2
  g : U = true → I1 = true → D = false → I2 = true → KB = false → G = false → R = XF
theorem entE_ways (uri : ByteArray) (mi : Int) (br : Bool) (da : Int) (key : ByteArray) (gap : Bool) (ex : List ByteArray) (t : Int) (U I1 D I2 KB G : Bool) (XF R : Int) (h1 : uriB uri = U) (h2 : inB mi 1 3600000 = I1) (hd : decide (t < secs mi) = D) (h3 : inB da (-1) 253402300799999 = I2) (h4 : (decide (0 < key.size) && !nameB key) = KB) (h5 : decide (20 < ex.length) = G) (hx : exsF ex = XF) (hR : entE ⟨uri, mi, br, da, key, gap, ex⟩ t = R) : EntWays U I1 D I2 KB G XF R := by
  have e : entE ⟨uri, mi, br, da, key, gap, ex⟩ t = if fstF [fIf (!U) 3, fIf (!I1) 1, fIf D 2, fIf (!I2) 1, fIf KB 5, fIf G 2] = 0 then XF else fstF [fIf (!U) 3, fIf (!I1) 1, fIf D 2, fIf (!I2) 1, fIf KB 5, fIf G 2] := by
    unfold entE entH
    simp only [h1, h2, hd, h3, h4, h5, hx]
  rw [hR] at e
  clear h1 h2 hd h3 h4 h5 hx hR
  subst e
  constructor <;> (intros; subst_vars; rfl)
structure ExWays (F P G : Bool) (x : Int) : Prop where
  a : F = false → x = 3
  b : F = true → P = false → x = 3
  c : F = true → P = true → G = true → x = 2
  d : F = true → P = true → G = false → x = 0
structure LastWays (G : Bool) (XF R : Int) : Prop where
  a : G = true → R = 2
  b : G = false → R = XF
theorem exE_ways (s : ByteArray) (F P G : Bool) (x : Int) (h1 : furB s = F) (h2 : printB 32 s = P) (h3 : decide (300 < s.size) = G) (hx : exE s = x) : ExWays F P G x := by
  have e : exE s = fstF [fIf (!F || !P) 3, fIf G 2] := by unfold exE; rw [h1, h2, h3]
  rw [hx] at e
  clear h1 h2 h3 hx
  subst e
  constructor <;> (intros; subst_vars; rfl)
set_option maxRecDepth 100000 in
set_option maxHeartbeats 16000000 in
theorem rchkE_walk (uri : ByteArray) (mi : Int) (br : Bool) (da : Int) (key : ByteArray) (gap : Bool) (ex : List ByteArray) (u : Value) (t : Int) (w : World) (hS : Strs w u ex) (hu : uri.size ≤ maxLen) (hk : key.size ≤ maxLen) (hx : ∀ y ∈ ex, y.size ≤ maxLen) :
    Calls Try.prog 77 #[.agg #[.string uri, .int .i64 mi, .bool br, .int .i64 da, .string key, .bool gap, u], .int .i64 t] w fun r w' => r = .returned (.int .i64 (entE ⟨uri, mi, br, da, key, gap, ex⟩ t)) ∧ Below w.heap.size w w' := by
  have HU := Lib.hid (fun W => rUri_any uri W hu)
  have HK := Lib.hid (fun W => rName1_any key W hk)
  have HF : Hid (∀ s W, Calls Try.prog 96 #[.string s, .string ⟨#[35, 88]⟩] W fun e w' => e = .returned (.bool (furB s)) ∧ w' = W) := Lib.hid (fun s W => Try.strings_HasPrefix s ⟨#[35, 88]⟩ W)
  have HP : Hid (∀ k, k < ex.length → ∀ W, Calls Try.prog 97 #[.string (ex.getD k str0), .int .u8 32] W fun e w' => e = .returned (.bool (printB 32 (ex.getD k str0))) ∧ W = w') := Lib.hid (fun k hk W => rprint32_any _ W (by
    rw [List.getD_eq_getElem?_getD, List.getElem?_eq_getElem hk]
    exact hx _ (List.getElem_mem hk)))
  have HSZ : Hid (∀ k, k < ex.length → (ex.getD k str0).size ≤ maxLen) := Lib.hid (fun k hk => by
    rw [List.getD_eq_getElem?_getD, List.getElem?_eq_getElem hk]
    exact hx _ (List.getElem_mem hk))
  have FX := EBox.new w ⟨uri, mi, br, da, key, gap, ex⟩ u 32
  have b1 : Below w.heap.size w (w.alloc (.cells #[.string uri, .int .i64 mi, .bool br, .int .i64 da, .string key, .bool gap, u] 32)) := (Below.refl _ w).alloc (Nat.le_refl _) _
  obtain ⟨a, cap, rfl⟩ := hS.parts
  have hlen := hS.len
  have HS : Hid (∀ W, Below w.heap.size w W → Strs W (.slice a ex.length cap) ex) := Lib.hid (fun W hb => hS.below hb (Nat.le_refl _))
  obtain ⟨U, hU⟩ : ∃ U, uriB uri = U := ⟨_, rfl⟩
  obtain ⟨I1, hI1⟩ : ∃ I1, inB mi 1 3600000 = I1 := ⟨_, rfl⟩
  obtain ⟨I2, hI2⟩ : ∃ I2, inB da (-1) 253402300799999 = I2 := ⟨_, rfl⟩
  obtain ⟨D, hD⟩ : ∃ D, decide (t < secs mi) = D := ⟨_, rfl⟩
  obtain ⟨KB, hKB⟩ : ∃ KB, (decide (0 < key.size) && !nameB key) = KB := ⟨_, rfl⟩
  obtain ⟨G, hG⟩ : ∃ G, decide (20 < ex.length) = G := ⟨_, rfl⟩
  obtain ⟨XF, hXF⟩ : ∃ XF, exsF ex = XF := ⟨_, rfl⟩
  obtain ⟨R, hR⟩ : ∃ R, entE ⟨uri, mi, br, da, key, gap, ex⟩ t = R := ⟨_, rfl⟩
  have HW := Lib.hid (entE_ways uri mi br da key gap ex t U I1 D I2 KB G XF R hU hI1 hD hI2 hKB hG hXF hR)
  rw [hR]
  have HI1 : Hid (∀ W, Calls Try.prog 46 #[.int .i64 mi, .int .i64 1, .int .i64 3600000] W fun e w' => e = .returned (.bool I1) ∧ W = w') := Lib.hid (fun W => by rw [← hI1]; exact rwithin6_any _ _ _ W)
  have HI2 : Hid (∀ W, Calls Try.prog 46 #[.int .i64 da, .int .i64 (-1), .int .i64 253402300799999] W fun e w' => e = .returned (.bool I2) ∧ W = w') := Lib.hid (fun W => by rw [← hI2]; exact rwithin6_any _ _ _ W)
  rw [hU] at HU
  have HXF := Lib.hid hXF; have HKB := Lib.hid hKB
  have HMI : Hid (I1 = true → 1 ≤ mi ∧ mi ≤ 3600000) := Lib.hid (fun h => by rw [h] at hI1; exact inB_iff.1 hI1)
  obtain ⟨SV, hSV⟩ : ∃ SV, secs mi = SV := ⟨_, rfl⟩
  rw [hSV] at hD
  have HSV : Hid ((mi + 500) / 1000 = SV) := Lib.hid hSV
  obtain ⟨n, hn⟩ : ∃ n, ex.length = n := ⟨_, rfl⟩
  have HN := Lib.hid hn
  rw [hn] at HS HP HSZ hG hlen FX b1 ⊢
  have hG1 : decide ((20 : Int) < (n : Int)) = G := by rw [← hG]; exact decide_eq_decide.2 (by omega)
  unfold maxLen at hlen
  clear hS hU hI1 hI2 hKB hXF hR hSV hn hx hu hk
  go_enter Try.func77, Try.ntmps77
  go_upto_region 1 with fail
  generalize w.alloc (.cells #[.string uri, .int .i64 mi, .bool br, .int .i64 da, .string key, .bool gap, .slice a n cap] 32) = W at *
  have d0 := FX.c0; have d1 := FX.c1; have d3 := FX.c3; have d4 := FX.c4; have d6 := FX.c6; have dl := FX.lt
  go_wp2_with fail
  refine (HU.out _).mono ?_; rintro e w' ⟨rfl, rfl⟩
  cases U
  · have e1 := HW.out.a rfl
    subst e1
    go_wp2_with fail
    go_ret
    exact ⟨rfl, b1⟩
  · go_wp2_with fail
    refine (HI1.out _).mono ?_; rintro e w' ⟨rfl, rfl⟩
    cases I1
    · have e1 := HW.out.b rfl rfl
      subst e1
      go_wp2_with fail
      go_ret
      exact ⟨rfl, b1⟩
    · obtain ⟨m0, m1⟩ := HMI.out rfl
      have wm : IntKind.i64.wrap (mi + 500) = mi + 500 := IntWalk.i64_in _ ⟨by omega, by omega⟩
      have hq1 : (mi + 500) / 1000 = SV := HSV.out
      have hq2 : (mi + 500).tdiv 1000 = SV := by rw [Int.tdiv_eq_ediv_of_nonneg (by omega)]; exact HSV.out
      have hq3 : 0 ≤ mi + 500 := by omega
      have ws : IntKind.i64.wrap SV = SV := IntWalk.i64_in _ ⟨by omega, by omega⟩
      have ws2 : wrap64 SV = SV := IntWalk.wrap64_in _ ⟨by omega, by omega⟩
      cases D
      rotate_left
      · have e1 := HW.out.c rfl rfl rfl
        subst e1
        clear m0 m1 HMI
        go_wp2_with fail
        go_ret
        exact ⟨rfl, b1⟩
      · go_wp2_with fail
        refine (HI2.out _).mono ?_; rintro e w' ⟨rfl, rfl⟩
        clear hq1 hq2 hq3 wm ws ws2 m0 m1 HMI hD
        cases I2
        · have e1 := HW.out.d rfl rfl rfl rfl
          subst e1
          go_wp2_with fail
          go_ret
          exact ⟨rfl, b1⟩
        · by_cases hk0 : 0 < key.size
          · have k1 := sNe hk0
            have k2 := sNe2 hk0
            obtain ⟨NB, hNB⟩ : ∃ NB, nameB key = NB := ⟨_, rfl⟩
            have e2 : KB = !NB := by rw [← HKB.out, decide_eq_true hk0, hNB, Bool.true_and]
            rw [hNB] at HK
            subst e2
            clear hk0 hNB HKB
            go_wp2_with fail
            refine (HK.out _).mono ?_; rintro e w' ⟨rfl, rfl⟩
            cases NB
            · have e1 := HW.out.e rfl rfl rfl rfl rfl
              subst e1
              go_wp2_with fail
              go_ret
              exact ⟨rfl, b1⟩
            · replace HW : Hid (LastWays G XF R) := Lib.hid ⟨HW.out.f rfl rfl rfl rfl rfl, HW.out.g rfl rfl rfl rfl rfl⟩
              cases G
              rotate_left
              · have e1 := HW.out.a rfl
                subst e1
                go_wp2_with fail
                go_ret
                exact ⟨rfl, b1⟩
              · have e1 := HW.out.b rfl
                subst e1
                go_wp2_with fail
                clear d0 d1 d3 d4 d6 dl k1 k2
                go_loopw [5] (fun v wr => ∃ k : Nat, k ≤ n ∧ v = .int .i64 k ∧ wr = W ∧ Hid (exsF (ex.drop k) = R)) (fun v _ => n - (intOf v).toNat)
                case atStart => exact ⟨0, Nat.zero_le _, rfl, rfl, Lib.hid (by rw [List.drop_zero]; exact HXF.out)⟩
                case round =>
                  obtain ⟨k, hk, rfl, rfl, HD2⟩ := hrel
                  have d6 := FX.c6; have dl := FX.lt
                  by_cases hk2 : k < n
                  rotate_left
                  · have e1 : R = 0 := by rw [← HD2.out, List.drop_of_length_le (by rw [HN.out]; omega)]; rfl
                    have kD : decide ((k : Int) < (n : Int)) = false := by simp; omega
                    have kD2 : decide (k < n) = false := by simp; omega
                    subst e1
                    go_wp2_with fail
                    go_ret
                    exact ⟨rfl, b1⟩
                  · have hSW := HS.out _ b1
                    obtain ⟨b, off, cap', hv, hlt, -, -⟩ := hSW.spot (by rw [HN.out]; omega)
                    simp only [Value.slice.injEq] at hv
                    obtain ⟨rfl, -, rfl⟩ := hv
                    have c0 := hSW.cells k (by rw [HN.out]; exact hk2)
                    have hst := exsF_drop ex k (by rw [HN.out]; exact hk2)
                    rw [HD2.out] at hst
                    have hpl := HP.out k hk2
                    have hsz := HSZ.out k hk2
                    obtain ⟨s, hs⟩ : ∃ s, ex.getD k str0 = s := ⟨_, rfl⟩
                    rw [hs] at c0 hst hpl hsz
                    unfold maxLen at hsz
                    obtain ⟨x, hx⟩ : ∃ x, exE s = x := ⟨_, rfl⟩
                    rw [hx] at hst
                    have HST := Lib.hid hst
                    have hfl := HF.out s
                    obtain ⟨F, hF⟩ : ∃ F, furB s = F := ⟨_, rfl⟩
                    obtain ⟨P, hP⟩ : ∃ P, printB 32 s = P := ⟨_, rfl⟩
                    obtain ⟨G3, hG3⟩ : ∃ G3, decide (300 < s.size) = G3 := ⟨_, rfl⟩
                    have g3 : decide ((300 : Int) < (s.size : Int)) = G3 := by rw [← hG3]; exact decide_eq_decide.2 (by omega)
                    have HX := Lib.hid (exE_ways s F P G3 x hF hP hG3 hx)
                    rw [hF] at hfl
                    rw [hP] at hpl
                    have HFL := Lib.hid hfl; have HPL := Lib.hid hpl
                    have kI : (k : Int) < (n : Int) := by omega
                    have hwI : IntKind.i64.wrap ((k : Int) + 1) = (k : Int) + 1 := IntWalk.i64_in _ ⟨by omega, by omega⟩
                    clear hst hx hfl hpl hF hP hs
                    go_wp2_with fail
                    refine (HFL.out _).mono ?_; rintro e w' ⟨rfl, rfl⟩
                    cases F
                    · have h0 : x = 3 := HX.out.a rfl
                      have e1 : R = 3 := by have := HST.out; rw [h0] at this; exact this
                      subst e1
                      go_wp2_with fail
                      go_ret
                      exact ⟨rfl, b1⟩
                    · go_wp2_with fail
                      refine (HPL.out _).mono ?_; rintro e w' ⟨rfl, rfl⟩
                      cases P
                      · have h0 : x = 3 := HX.out.b rfl rfl
                        have e1 : R = 3 := by have := HST.out; rw [h0] at this; exact this
                        subst e1
                        go_wp2_with fail
                        go_ret
                        exact ⟨rfl, b1⟩
                      · cases G3
                        rotate_left
                        · have h0 : x = 2 := HX.out.c rfl rfl rfl
                          have e1 : R = 2 := by have := HST.out; rw [h0] at this; exact this
                          subst e1
                          go_wp2_with fail
                          go_ret
                          exact ⟨rfl, b1⟩
                        · have h0 : x = 0 := HX.out.d rfl rfl rfl
                          have HN2 : Hid (exsF (ex.drop (k + 1)) = R) := Lib.hid (by have := HST.out; rw [if_pos h0] at this; exact this.symm)
                          clear h0
                          go_wp2_with fail
                          go_roundw
                          case rel => exact ⟨k + 1, by omega, by go_num, trivial, HN2⟩
                          case measure => simp [intOf]; omega
          · have k1 : (key.toList == []) = true := by rw [sEmpty (s := key) (by omega), ByteArray.toList_eq]; rfl
            have k2 : (key.toList != []) = false := by rw [bne, k1]; rfl
            have e2 : KB = false := by rw [← HKB.out, decide_eq_false hk0, Bool.false_and]
            subst e2
            clear hk0 HKB
            replace HW : Hid (LastWays G XF R) := Lib.hid ⟨HW.out.f rfl rfl rfl rfl rfl, HW.out.g rfl rfl rfl rfl rfl⟩
            cases G
            rotate_left
            · have e1 := HW.out.a rfl
              subst e1
              go_wp2_with fail
              go_ret
              exact ⟨rfl, b1⟩
            · have e1 := HW.out.b rfl
              subst e1
              go_wp2_with fail
              clear d0 d1 d3 d4 d6 dl k1 k2
              go_loopw [5] (fun v wr => ∃ k : Nat, k ≤ n ∧ v = .int .i64 k ∧ wr = W ∧ Hid (exsF (ex.drop k) = R)) (fun v _ => n - (intOf v).toNat)
              case atStart => exact ⟨0, Nat.zero_le _, rfl, rfl, Lib.hid (by rw [List.drop_zero]; exact HXF.out)⟩
              case round =>
                obtain ⟨k, hk, rfl, rfl, HD2⟩ := hrel
                have d6 := FX.c6; have dl := FX.lt
                by_cases hk2 : k < n
                rotate_left
                · have e1 : R = 0 := by rw [← HD2.out, List.drop_of_length_le (by rw [HN.out]; omega)]; rfl
                  have kD : decide ((k : Int) < (n : Int)) = false := by simp; omega
                  have kD2 : decide (k < n) = false := by simp; omega
                  subst e1
                  go_wp2_with fail
                  go_ret
                  exact ⟨rfl, b1⟩
                · have hSW := HS.out _ b1
                  obtain ⟨b, off, cap', hv, hlt, -, -⟩ := hSW.spot (by rw [HN.out]; omega)
                  simp only [Value.slice.injEq] at hv
                  obtain ⟨rfl, -, rfl⟩ := hv
                  have c0 := hSW.cells k (by rw [HN.out]; exact hk2)
                  have hst := exsF_drop ex k (by rw [HN.out]; exact hk2)
                  rw [HD2.out] at hst
                  have hpl := HP.out k hk2
                  have hsz := HSZ.out k hk2
                  obtain ⟨s, hs⟩ : ∃ s, ex.getD k str0 = s := ⟨_, rfl⟩
                  rw [hs] at c0 hst hpl hsz
                  unfold maxLen at hsz
                  obtain ⟨x, hx⟩ : ∃ x, exE s = x := ⟨_, rfl⟩
                  rw [hx] at hst
                  have HST := Lib.hid hst
                  have hfl := HF.out s
                  obtain ⟨F, hF⟩ : ∃ F, furB s = F := ⟨_, rfl⟩
                  obtain ⟨P, hP⟩ : ∃ P, printB 32 s = P := ⟨_, rfl⟩
                  obtain ⟨G3, hG3⟩ : ∃ G3, decide (300 < s.size) = G3 := ⟨_, rfl⟩
                  have g3 : decide ((300 : Int) < (s.size : Int)) = G3 := by rw [← hG3]; exact decide_eq_decide.2 (by omega)
                  have HX := Lib.hid (exE_ways s F P G3 x hF hP hG3 hx)
                  rw [hF] at hfl
                  rw [hP] at hpl
                  have HFL := Lib.hid hfl; have HPL := Lib.hid hpl
                  have kI : (k : Int) < (n : Int) := by omega
                  have hwI : IntKind.i64.wrap ((k : Int) + 1) = (k : Int) + 1 := IntWalk.i64_in _ ⟨by omega, by omega⟩
                  clear hst hx hfl hpl hF hP hs
                  go_wp2_with fail
                  refine (HFL.out _).mono ?_; rintro e w' ⟨rfl, rfl⟩
                  cases F
                  · have h0 : x = 3 := HX.out.a rfl
                    have e1 : R = 3 := by have := HST.out; rw [h0] at this; exact this
                    subst e1
                    go_wp2_with fail
                    go_ret
                    exact ⟨rfl, b1⟩
                  · go_wp2_with fail
                    refine (HPL.out _).mono ?_; rintro e w' ⟨rfl, rfl⟩
                    cases P
                    · have h0 : x = 3 := HX.out.b rfl rfl
                      have e1 : R = 3 := by have := HST.out; rw [h0] at this; exact this
                      subst e1
                      go_wp2_with fail
                      go_ret
                      exact ⟨rfl, b1⟩
                    · cases G3
                      rotate_left
                      · have h0 : x = 2 := HX.out.c rfl rfl rfl
                        have e1 : R = 2 := by have := HST.out; rw [h0] at this; exact this
                        subst e1
                        go_wp2_with fail
                        go_ret
                        exact ⟨rfl, b1⟩
                      · have h0 : x = 0 := HX.out.d rfl rfl rfl
                        have HN2 : Hid (exsF (ex.drop (k + 1)) = R) := Lib.hid (by have := HST.out; rw [if_pos h0] at this; exact this.symm)
                        clear h0
                        go_wp2_with fail
                        go_roundw
                        case rel => exact ⟨k + 1, by omega, by go_num, trivial, HN2⟩
                        case measure => simp [intOf]; omega
theorem rchkE_any (e : Ent) (u : Value) (t : Int) (w : World) (hS : Strs w u e.ex) (hwf : EntWf e) :
    Calls Try.prog 77 #[.agg #[.string e.uri, .int .i64 e.mi, .bool e.br, .int .i64 e.da, .string e.key, .bool e.gap, u], .int .i64 t] w fun r w' => r = .returned (.int .i64 (entE e t)) ∧ Below w.heap.size w w' :=
  rchkE_walk e.uri e.mi e.br e.da e.key e.gap e.ex u t w hS hwf.uri hwf.key hwf.ex

end Go.Proofs.Ytikpemmfmkdndaa
