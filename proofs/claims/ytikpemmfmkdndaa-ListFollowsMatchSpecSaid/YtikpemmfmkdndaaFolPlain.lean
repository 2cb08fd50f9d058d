/- Plain facts of playlists: whether one follows another one. -/
import Derived.Test.YtikpemmfmkdndaaBrkPlain
import Derived.Test.YtikpemmfmkdndaaSamePlain
import Derived.IntWalk
namespace Go.Proofs.Ytikpemmfmkdndaa
set_option linter.unusedVariables false
set_option linter.unusedSimpArgs false

/-- What is wrong with entry i of a list, number g + i of the old one. -/
def clE (old now : Lst) (g i : Nat) : Int := fstF [fIf (!sameE (now.es.getD i ent0) (old.es.getD (g + i) ent0)) 12, fIf (bkTo now.bk now.es (i + 1) != bkTo old.bk old.es (g + i + 1)) 3]
def clL (old now : Lst) (g k : Nat) : List Int := (List.range k).map (clE old now g)
def gn (old now : Lst) : Nat := (now.fi - old.fi).toNat
def beh (l : Lst) : Int := l.fi + (l.es.length : Int)
def folT (old now : Lst) : Int := if old.es.length ≤ gn old now then (if now.bk < bkTo old.bk old.es old.es.length then 8 else 0) else fstF (clL old now (gn old now) (old.es.length - gn old now))
/-- What Follows answers. -/
def folF (old now : Lst) : Int := if lstF old ≠ 0 then lstF old else if lstF now ≠ 0 then lstF now else if now.tg ≠ old.tg then 6 else if old.en = true ∧ sameL old now = false then 11 else if now.fi < old.fi ∨ beh now < beh old then 8 else folT old now
structure FolOk (old now : Lst) : Prop where
  oko : OkL old
  okn : OkL now
  le : old.fi ≤ now.fi
  bh : beh old ≤ beh now
  fol : folF old now = folT old now
theorem clL_drop (old now : Lst) (g k i : Nat) (h : i < k) : fstF ((clL old now g k).drop i) = if clE old now g i = 0 then fstF ((clL old now g k).drop (i + 1)) else clE old now g i := by
  rw [fstF_drop _ _ (by simpa [clL] using h)]
  have e : (clL old now g k).getD i 0 = clE old now g i := by unfold clL; rw [List.getD_eq_getElem?_getD, List.getElem?_map, List.getElem?_range h]; rfl
  rw [e]
theorem okL_wrap {l : Lst} (g : OkL l) : IntKind.i64.wrap (l.fi + (l.es.length : Int)) = beh l := by
  have := g.fi; have := g.len
  exact IntWalk.i64_in _ ⟨by omega, by omega⟩
def folZ (old now : Lst) : Int := fstF [lstF old, lstF now, fIf (now.tg != old.tg) 6, fIf (old.en && !sameL old now) 11, fIf (decide (now.fi < old.fi) || decide (IntKind.i64.wrap (now.fi + (now.es.length : Int)) < IntKind.i64.wrap (old.fi + (old.es.length : Int)))) 8]
theorem fol_first (old now : Lst) : (folZ old now ≠ 0 → folF old now = folZ old now) ∧ (folZ old now = 0 → FolOk old now) := by
  by_cases h1 : lstF old = 0
  · by_cases h2 : lstF now = 0
    · have g1 := (lstF_zero old).1 h1
      have g2 := (lstF_zero now).1 h2
      have e : folF old now = if now.tg ≠ old.tg then 6 else if old.en = true ∧ sameL old now = false then 11 else if now.fi < old.fi ∨ beh now < beh old then 8 else folT old now := by
        unfold folF; rw [if_neg (by rw [h1]; decide), if_neg (by rw [h2]; decide)]
      have z : folZ old now = fstF [fIf (now.tg != old.tg) 6, fIf (old.en && !sameL old now) 11, fIf (decide (now.fi < old.fi) || decide (beh now < beh old)) 8] := by
        unfold folZ; rw [okL_wrap g1, okL_wrap g2, h1, h2]; rfl
      by_cases a : now.tg = old.tg
      · have a' : (now.tg != old.tg) = false := by simp [a]
        rw [if_neg (by simpa using a)] at e
        by_cases b : old.en = true ∧ sameL old now = false
        · rw [if_pos b] at e
          rw [a', b.1, b.2] at z
          have z' : folZ old now = 11 := z
          exact ⟨fun _ => by rw [e, z'], fun h => by rw [z'] at h; exact absurd h (by decide)⟩
        · rw [if_neg b] at e
          have b' : (old.en && !sameL old now) = false := by
            cases hh : old.en
            · rfl
            · cases hs : sameL old now
              · exact absurd ⟨hh, hs⟩ b
              · rfl
          by_cases c : now.fi < old.fi ∨ beh now < beh old
          · rw [if_pos c] at e
            have c' : (decide (now.fi < old.fi) || decide (beh now < beh old)) = true := by simpa using c
            rw [a', b', c'] at z
            have z' : folZ old now = 8 := z
            exact ⟨fun _ => by rw [e, z'], fun h => by rw [z'] at h; exact absurd h (by decide)⟩
          · rw [if_neg c] at e
            have c' : (decide (now.fi < old.fi) || decide (beh now < beh old)) = false := by
              cases hh : (decide (now.fi < old.fi) || decide (beh now < beh old))
              · rfl
              · exact absurd (by simpa using hh) c
            rw [a', b', c'] at z
            have z' : folZ old now = 0 := z
            exact ⟨fun h => absurd z' h, fun _ => ⟨g1, g2, by omega, by omega, e⟩⟩
      · have a' : (now.tg != old.tg) = true := by simp [a]
        rw [if_pos a] at e
        rw [a'] at z
        have z' : folZ old now = 6 := z
        exact ⟨fun _ => by rw [e, z'], fun h => by rw [z'] at h; exact absurd h (by decide)⟩
    · have e : folF old now = lstF now := by unfold folF; rw [if_neg (by rw [h1]; decide), if_pos h2]
      have z : folZ old now = lstF now := by unfold folZ; rw [h1]; simp [fstF, h2]
      exact ⟨fun _ => by rw [e, z], fun h => by rw [z] at h; exact absurd h h2⟩
  · have e : folF old now = lstF old := by unfold folF; rw [if_pos h1]
    have z : folZ old now = lstF old := by unfold folZ; simp [fstF, h1]
    exact ⟨fun _ => by rw [e, z], fun h => by rw [z] at h; exact absurd h h1⟩

end Go.Proofs.Ytikpemmfmkdndaa
