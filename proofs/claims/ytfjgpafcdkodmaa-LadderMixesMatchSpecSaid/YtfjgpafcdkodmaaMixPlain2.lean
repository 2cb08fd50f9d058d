/- Plain facts: the greatest mean quality of all pairs is what the hull has. -/
import Derived.Test.YtfjgpafcdkodmaaMixPlain
import Derived.Test.YtfjgpafcdkodmaaHullPlain3
import Derived.Test.YtfjgpafcdkodmaaLessPlain
namespace Go.Proofs.Ytfjgpafcdkodmaa
set_option linter.unusedVariables false
set_option linter.unusedSimpArgs false

def mxX (a b : Rung) (q : Int) : Int := mixN a b q / gcdI (mixN a b q) (b.ra - a.ra)
def mxY (a b : Rung) (q : Int) : Int := (b.ra - a.ra) / gcdI (mixN a b q) (b.ra - a.ra)
/-- What one gets at the mean rate q, in lowest terms. -/
def Cand (rs : List Rung) (q x y : Int) : Prop :=
  (∃ a, a < rs.length ∧ (rs.getD a rung0).ra ≤ q ∧ x = (rs.getD a rung0).qu ∧ y = 1) ∨
  ∃ a b, a < rs.length ∧ b < rs.length ∧ (rs.getD a rung0).ra ≤ q ∧ q < (rs.getD b rung0).ra ∧ x = mxX (rs.getD a rung0) (rs.getD b rung0) q ∧ y = mxY (rs.getD a rung0) (rs.getD b rung0) q
structure MixOk (a b : Rung) (q : Int) : Prop where
  g : 0 < gcdI (mixN a b q) (b.ra - a.ra)
  x : mxX a b q * gcdI (mixN a b q) (b.ra - a.ra) = mixN a b q
  y : mxY a b q * gcdI (mixN a b q) (b.ra - a.ra) = b.ra - a.ra
  n0 : 0 ≤ mixN a b q
  n1 : mixN a b q ≤ 2000000000000000
  x0 : 0 ≤ mxX a b q
  x1 : mxX a b q ≤ 2000000000000000
  y0 : 0 < mxY a b q
  y1 : mxY a b q ≤ 1000000000
  one : Int.gcd (mxX a b q) (mxY a b q) = 1
theorem mix_ok {a b : Rung} {q : Int} (ha : OkR a) (hb : OkR b) (h1 : a.ra ≤ q) (h2 : q < b.ra) : MixOk a b q := by
  obtain ⟨-, ⟨a0, a1⟩, -, ⟨aq0, aq1⟩⟩ := ha
  obtain ⟨-, ⟨b0, b1⟩, -, ⟨bq0, bq1⟩⟩ := hb
  have g := gcdI_pos (a := mixN a b q) (b := b.ra - a.ra) (by omega)
  have hx := gcdI_left (mixN a b q) (b.ra - a.ra)
  have hy := gcdI_right (mixN a b q) (b.ra - a.ra)
  have p1 := mul_range (x := a.qu) (y := b.ra - q) (a := 1000000) (b := 1000000000) aq0 aq1 (by omega) (by omega)
  have p2 := mul_range (x := b.qu) (y := q - a.ra) (a := 1000000) (b := 1000000000) bq0 bq1 (by omega) (by omega)
  have n0 : 0 ≤ mixN a b q := by unfold mixN; omega
  have n1 : mixN a b q ≤ 2000000000000000 := by unfold mixN; omega
  have dx := div_nn g n0
  have dy := div_nn (a := b.ra - a.ra) g (by omega)
  refine ⟨g, hx, hy, n0, n1, dx.1, Int.le_trans dx.2 n1, div_pos g (by omega) hy, Int.le_trans dy.2 (by omega), ?_⟩
  unfold mxX mxY gcdI
  exact Int.gcd_ediv_gcd_ediv_gcd (by unfold gcdI at g; omega)
structure CandOk (x y : Int) : Prop where
  x0 : 0 ≤ x
  x1 : x ≤ 2000000000000000
  y0 : 0 < y
  y1 : y ≤ 1000000000
  one : Int.gcd x y = 1
theorem cand_ok {rs : List Rung} {q x y : Int} (hok : ∀ i, i < rs.length → OkR (rs.getD i rung0)) (h : Cand rs q x y) : CandOk x y := by
  rcases h with ⟨a, ha, h1, rfl, rfl⟩ | ⟨a, b, ha, hb, h1, h2, rfl, rfl⟩
  · obtain ⟨-, -, -, ⟨q0, q1⟩⟩ := hok a ha
    exact ⟨q0, by omega, by decide, by decide, by simp⟩
  · have g := mix_ok (hok a ha) (hok b hb) h1 h2
    exact ⟨g.x0, g.x1, g.y0, g.y1, g.one⟩
/-- Two ratios in lowest terms that are equal are the same. -/
theorem ratio_same {p d X Y : Int} (p0 : 0 ≤ p) (d0 : 0 < d) (x0 : 0 ≤ X) (y0 : 0 < Y) (h1 : Int.gcd p d = 1) (h2 : Int.gcd X Y = 1) (h : p * Y = X * d) : p = X ∧ d = Y := by
  have hn : p.natAbs * Y.natAbs = X.natAbs * d.natAbs := by rw [← Int.natAbs_mul, ← Int.natAbs_mul, h]
  have c1 : Nat.Coprime p.natAbs d.natAbs := h1
  have c2 : Nat.Coprime X.natAbs Y.natAbs := h2
  have e1 : d.natAbs ∣ Y.natAbs := Nat.Coprime.dvd_of_dvd_mul_left c1.symm ⟨X.natAbs, by rw [hn, Nat.mul_comm]⟩
  have e2 : Y.natAbs ∣ d.natAbs := Nat.Coprime.dvd_of_dvd_mul_left c2.symm ⟨p.natAbs, by rw [← hn, Nat.mul_comm]⟩
  have e3 : d.natAbs = Y.natAbs := Nat.dvd_antisymm e1 e2
  have e4 : d = Y := by omega
  subst e4
  exact ⟨Int.eq_of_mul_eq_mul_right (by omega) h, rfl⟩
theorem line_at {lo hi j : Rung} (h : undr lo hi j) : j.qu * (hi.ra - lo.ra) ≤ mixN lo hi j.ra := by
  have e := mixN_eq lo hi j.ra
  unfold undr at h
  rw [Int.sub_mul] at h
  omega
theorem line_grows {lo hi : Rung} {r q : Int} (h : r ≤ q) (hq : lo.qu ≤ hi.qu) : mixN lo hi r ≤ mixN lo hi q := by
  have e : mixN lo hi q - mixN lo hi r = (hi.qu - lo.qu) * (q - r) := by
    unfold mixN
    simp only [Int.mul_sub, Int.sub_mul]
    omega
  have := Int.mul_nonneg (show 0 ≤ hi.qu - lo.qu by omega) (show 0 ≤ q - r by omega)
  omega
theorem line_mix {lo hi a b : Rung} {q : Int} (ha : undr lo hi a) (hb : undr lo hi b) (h1 : a.ra ≤ q) (h2 : q < b.ra) : mixN a b q * (hi.ra - lo.ra) ≤ mixN lo hi q * (b.ra - a.ra) := by
  have l1 := Int.mul_le_mul_of_nonneg_right (line_at ha) (show 0 ≤ b.ra - q by omega)
  have l2 := Int.mul_le_mul_of_nonneg_right (line_at hb) (show 0 ≤ q - a.ra by omega)
  have e1 : mixN a b q * (hi.ra - lo.ra) = a.qu * (hi.ra - lo.ra) * (b.ra - q) + b.qu * (hi.ra - lo.ra) * (q - a.ra) := by
    unfold mixN
    rw [Int.add_mul]
    congr 1 <;> ac_rfl
  have e2 : mixN lo hi q * (b.ra - a.ra) = mixN lo hi a.ra * (b.ra - q) + mixN lo hi b.ra * (q - a.ra) := by
    have s : ∀ r, mixN lo hi r = (lo.qu * hi.ra - hi.qu * lo.ra) + (hi.qu - lo.qu) * r := fun r => by
      unfold mixN
      simp only [Int.mul_sub, Int.sub_mul]
      omega
    rw [s q, s a.ra, s b.ra]
    obtain ⟨A, hA⟩ : ∃ A, lo.qu * hi.ra - hi.qu * lo.ra = A := ⟨_, rfl⟩
    obtain ⟨B, hB⟩ : ∃ B, hi.qu - lo.qu = B := ⟨_, rfl⟩
    rw [hA, hB]
    simp only [Int.add_mul, Int.mul_sub]
    have f1 : B * a.ra * q = B * q * a.ra := by ac_rfl
    have f2 : B * b.ra * q = B * q * b.ra := by ac_rfl
    have f3 : B * b.ra * a.ra = B * a.ra * b.ra := by ac_rfl
    omega
  omega
/-- The hull is nowhere lower than what is got. -/
structure Over (rs : List Rung) (q X Y : Int) : Prop where
  one : ∀ a, a < rs.length → (rs.getD a rung0).ra ≤ q → (rs.getD a rung0).qu * Y ≤ X
  two : ∀ a b, a < rs.length → b < rs.length → (rs.getD a rung0).ra ≤ q → q < (rs.getD b rung0).ra → mixN (rs.getD a rung0) (rs.getD b rung0) q * Y ≤ X * ((rs.getD b rung0).ra - (rs.getD a rung0).ra)
theorem over_cand {rs : List Rung} {q X Y x y : Int} (hok : ∀ i, i < rs.length → OkR (rs.getD i rung0)) (ho : Over rs q X Y) (h : Cand rs q x y) : x * Y ≤ X * y := by
  rcases h with ⟨a, ha, h1, rfl, rfl⟩ | ⟨a, b, ha, hb, h1, h2, rfl, rfl⟩
  · have := ho.one a ha h1; omega
  · have g := mix_ok (hok a ha) (hok b hb) h1 h2
    have h3 := ho.two a b ha hb h1 h2
    rw [← g.x] at h3
    conv at h3 => rhs; rw [← g.y]
    obtain ⟨G, hG⟩ : ∃ G, gcdI (mixN (rs.getD a rung0) (rs.getD b rung0) q) ((rs.getD b rung0).ra - (rs.getD a rung0).ra) = G := ⟨_, rfl⟩
    have hg := g.g
    rw [hG] at h3 hg
    refine cancel_le hg ?_
    have e1 : mxX (rs.getD a rung0) (rs.getD b rung0) q * Y * G = mxX (rs.getD a rung0) (rs.getD b rung0) q * G * Y := by ac_rfl
    have e2 : X * mxY (rs.getD a rung0) (rs.getD b rung0) q * G = X * (mxY (rs.getD a rung0) (rs.getD b rung0) q * G) := by ac_rfl
    omega
theorem edge_at {rs : List Rung} {n : Nat} : ∀ {st : List Nat}, Edges rs n st → ∀ j, j + 1 < st.length → ∀ i, i < n → undr (rs.getD (st.getD (j + 1) 0) rung0) (rs.getD (st.getD j 0) rung0) (rs.getD i rung0)
  | [], _, j, hj => by simp at hj
  | [_], _, j, hj => by simp at hj
  | a :: b :: t, h, 0, hj => h.1
  | a :: b :: t, h, j + 1, hj => edge_at h.2 j (by simp at hj ⊢; omega)
theorem edge_last {rs : List Rung} {n : Nat} : ∀ {st : List Nat}, Edges rs n st → st ≠ [] → ∀ i, i < n → (rs.getD (st.getD (st.length - 1) 0) rung0).ra ≤ (rs.getD i rung0).ra
  | [], _, h => absurd rfl h
  | [a], he, _ => he
  | a :: b :: t, he, _ => fun i hi => by
    have := edge_last he.2 (by simp) i hi
    rw [show (a :: b :: t).length - 1 = (b :: t).length - 1 + 1 by simp, List.getD_cons_succ]
    exact this
theorem hull_over {rs : List Rung} {q X Y : Int} {B : Bool} (g : OkRs rs) (hon : OnOk rs (hullTo rs rs.length).length q (ntH rs (hullTo rs rs.length).length q) X Y B) (hc : 0 < ntH rs (hullTo rs rs.length).length q) :
    Over rs q X Y ∧ Cand rs q X Y ∧ B = true := by
  have hrate := fun i j hij hj => g.rate i j hij hj
  have hat := hull_at g
  have hcut := hull_cut hat q
  have hed := edges_ok hrate rs.length (Nat.le_refl _)
  have hho := hull_ok hrate rs.length (Nat.le_refl _)
  obtain ⟨m, hm⟩ : ∃ m, (hullTo rs rs.length).length = m := ⟨_, rfl⟩
  obtain ⟨c, hcc⟩ : ∃ c, ntH rs m q = c := ⟨_, rfl⟩
  rw [hm] at hon hcut hc hat
  rw [hcc] at hon hcut hc
  have hcm := hcut.le
  have hlo := hat.lt (c - 1) (by omega)
  have hlow := hcut.low (c - 1) (by omega)
  obtain ⟨lo, hl⟩ : ∃ lo, rs.getD (hI rs (c - 1)) rung0 = lo := ⟨_, rfl⟩
  by_cases hcm2 : c = m
  · obtain ⟨rfl, rfl, rfl⟩ := hon.last hc hcm2
    have htop : ∀ j, j < rs.length → (rs.getD j rung0).qu ≤ lo.qu := fun j hj => by
      obtain ⟨a, ha, h2⟩ := hho.top j hj
      have e : a = hI rs (c - 1) := by
        unfold hI
        rw [rev_at _ _ (by omega), show (hullTo rs rs.length).length - 1 - (c - 1) = 0 by omega]
        cases e2 : hullTo rs rs.length with
        | nil => rw [e2] at ha; simp at ha
        | cons x t => rw [e2] at ha; simp at ha; simp [ha]
      rw [e, hl] at h2
      exact h2
    rw [hl]
    refine ⟨⟨fun a ha h1 => by have := htop a ha; omega, fun a b ha hb h1 h2 => ?_⟩, .inl ⟨_, hlo, hlow, by rw [hl], rfl⟩, rfl⟩
    have t1 := Int.mul_le_mul_of_nonneg_right (htop a ha) (show 0 ≤ (rs.getD b rung0).ra - q by omega)
    have t2 := Int.mul_le_mul_of_nonneg_right (htop b hb) (show 0 ≤ q - (rs.getD a rung0).ra by omega)
    unfold mixN
    have e : lo.qu * ((rs.getD b rung0).ra - (rs.getD a rung0).ra) = lo.qu * ((rs.getD b rung0).ra - q) + lo.qu * (q - (rs.getD a rung0).ra) := by
      rw [← Int.mul_add]; congr 1; omega
    omega
  · have hcm3 : c < m := by omega
    obtain ⟨eX, eY, rfl⟩ := hon.mid hc hcm3
    have hhi := hat.lt c hcm3
    have hhigh := hcut.high c (Nat.le_refl _) hcm3
    obtain ⟨u1, u2⟩ := hat.up c (by omega) hcm3
    obtain ⟨hi, hh⟩ : ∃ hi, rs.getD (hI rs c) rung0 = hi := ⟨_, rfl⟩
    rw [hl, hh] at u1 u2
    have hed2 : ∀ i, i < rs.length → undr lo hi (rs.getD i rung0) := fun i hi2 => by
      have h5 := edge_at hed (m - 1 - c) (by omega) i hi2
      rw [← hl, ← hh]
      unfold hI
      rw [rev_at _ _ (by omega), rev_at _ _ (by omega)]
      rw [show (hullTo rs rs.length).length - 1 - (c - 1) = m - 1 - c + 1 by omega, show (hullTo rs rs.length).length - 1 - c = m - 1 - c by omega]
      exact h5
    have hX : X = mxX lo hi q := by rw [eX, hl, hh]; rfl
    have hY : Y = mxY lo hi q := by rw [eY, hl, hh]; rfl
    have hql : lo.ra ≤ q := by rw [← hl]; exact hlow
    have hqh : q < hi.ra := by rw [← hh]; exact hhigh
    have okl : OkR lo := by rw [← hl]; exact g.ok _ hlo
    have okh : OkR hi := by rw [← hh]; exact g.ok _ hhi
    have gm := mix_ok okl okh hql hqh
    refine ⟨?_, .inr ⟨hI rs (c - 1), hI rs c, hlo, hhi, hlow, hhigh, by rw [hX, hl, hh], by rw [hY, hl, hh]⟩, rfl⟩
    have hg := gm.g
    have gx := gm.x
    have gy := gm.y
    rw [← hX] at gx
    rw [← hY] at gy
    obtain ⟨G, hG⟩ : ∃ G, gcdI (mixN lo hi q) (hi.ra - lo.ra) = G := ⟨_, rfl⟩
    rw [hG] at hg gx gy
    refine ⟨fun a ha h1 => ?_, fun a b ha hb h1 h2 => ?_⟩
    · have l1 := line_at (hed2 a ha)
      have l2 := line_grows (lo := lo) (hi := hi) h1 (by omega)
      refine cancel_le hg ?_
      rw [gx]
      have e1 : (rs.getD a rung0).qu * Y * G = (rs.getD a rung0).qu * (Y * G) := by ac_rfl
      rw [e1, gy]
      omega
    · have l1 := line_mix (hed2 a ha) (hed2 b hb) h1 h2
      refine cancel_le hg ?_
      have e1 : mixN (rs.getD a rung0) (rs.getD b rung0) q * Y * G = mixN (rs.getD a rung0) (rs.getD b rung0) q * (Y * G) := by ac_rfl
      have e2 : X * ((rs.getD b rung0).ra - (rs.getD a rung0).ra) * G = X * G * ((rs.getD b rung0).ra - (rs.getD a rung0).ra) := by ac_rfl
      rw [e1, e2, gx, gy]
      exact l1
/-- The best one of all that were seen: of the first k with all, and of number k with the first m. -/
def Seen (rs : List Rung) (q p d : Int) (a b : Nat) : Prop := (rs.getD a rung0).ra ≤ q → (rs.getD a rung0).qu * d ≤ p ∧ ∀ b', b' < b → q < (rs.getD b' rung0).ra → mxX (rs.getD a rung0) (rs.getD b' rung0) q * d ≤ p * mxY (rs.getD a rung0) (rs.getD b' rung0) q
theorem mix_final {rs : List Rung} {q X Y p d : Int} {B : Bool} (g : OkRs rs) (hon : OnOk rs (hullTo rs rs.length).length q (ntH rs (hullTo rs rs.length).length q) X Y B) (hp : (p = -1 ∧ d = 1) ∨ Cand rs q p d) (hs : ∀ a, a < rs.length → Seen rs q p d a rs.length) :
    (p < 0 → X = 0 ∧ Y = 0 ∧ B = false) ∧ (0 ≤ p → p = X ∧ d = Y ∧ B = true) := by
  have hat := hull_at g
  have hcut := hull_cut hat q
  by_cases hc : ntH rs (hullTo rs rs.length).length q = 0
  · obtain ⟨rfl, rfl, rfl⟩ := hon.none hc
    refine ⟨fun _ => ⟨rfl, rfl, rfl⟩, fun h0 => ?_⟩
    exfalso
    have hex : ∃ a, a < rs.length ∧ (rs.getD a rung0).ra ≤ q := by
      rcases hp with ⟨h1, -⟩ | ⟨a, ha, h1, -, -⟩ | ⟨a, b, ha, hb, h1, -⟩
      · omega
      · exact ⟨a, ha, h1⟩
      · exact ⟨a, ha, h1⟩
    obtain ⟨a, ha, h1⟩ := hex
    have hm := hat.some (by omega)
    have hed := edges_ok (fun i j hij hj => g.rate i j hij hj) rs.length (Nat.le_refl _)
    have h2 := edge_last hed (fun e => by rw [e] at hm; simp at hm) a ha
    have h3 := hcut.high 0 (by omega) hm
    unfold hI at h3
    rw [rev_at _ _ hm] at h3
    rw [Nat.sub_zero] at h3
    omega
  · have hc2 : 0 < ntH rs (hullTo rs rs.length).length q := by omega
    obtain ⟨ho, hcd, rfl⟩ := hull_over g hon hc2
    have hco := cand_ok g.ok hcd
    have hlo := hat.lt (ntH rs (hullTo rs rs.length).length q - 1) (by have := hcut.le; omega)
    have hlow := hcut.low (ntH rs (hullTo rs rs.length).length q - 1) (by omega)
    have hd0 : 0 < d := by
      rcases hp with ⟨-, h⟩ | h
      · omega
      · exact (cand_ok g.ok h).y0
    have hp0 : 0 ≤ p := by
      have h1 := (hs _ hlo hlow).1
      have h2 := (g.ok _ hlo).qu.1
      have := Int.mul_nonneg h2 (Int.le_of_lt hd0)
      omega
    refine ⟨fun h => by omega, fun _ => ?_⟩
    have hpc : Cand rs q p d := by
      rcases hp with ⟨h, -⟩ | h
      · omega
      · exact h
    have hpo := cand_ok g.ok hpc
    have h1 := over_cand g.ok ho hpc
    have h2 : X * d ≤ p * Y := by
      rcases hcd with ⟨a, ha, h3, rfl, rfl⟩ | ⟨a, b, ha, hb, h3, h4, rfl, rfl⟩
      · have := (hs a ha h3).1; omega
      · exact (hs a ha h3).2 b hb h4
    obtain ⟨e1, e2⟩ := ratio_same hpo.x0 hpo.y0 hco.x0 hco.y0 hpo.one hco.one (by omega)
    exact ⟨e1, e2, rfl⟩

end Go.Proofs.Ytfjgpafcdkodmaa
