/-
  No cell of these rows narrows 'for every input' (looked for: loops, veiled, ifaces, maps, wideKeys, modest, calm, conditions, laid).
  DERIVED. THE GIVEN ROWS OF THIS SEAT. 9 by the template 'for every input the law returns true; each argument reads behind the call as it read before'; 0 by the template 'total and deterministic' (their statements: YtiphipgheadakaaTotals.lean).
  GIVEN WITH THE SEED: the statements are not yours to turn. If you find one false, say at which input.
  Laid BY PROGRAM, IN A SANDBOX (cutbox-rows.mjs): the forced cells as the released guide's own fill.sh prints them over the translation cb3f4ba17fc9cb5a… (all of the seat's roots in one cut). By AI agents, Wed Nov 11 2026. No macro, syntax, notation, axiom, sorry.
-/
import Derived.Test.YtiphipgheadakaaChecked
import GoSem.Claim
import GoSem.ClaimJoined
import GoSem.ClaimMapViews
import Derived.JoinedTies
import Derived.KernelRfl
namespace Go.Proofs.Ytiphipgheadakaa
/- THE CELL 'sum', in the pinned program and in every row, IS THE sha256 OF THE DUMP (.gsa) THAT YtiphipgheadakaaProg.lean LOADS. Nothing in Lean hashes anything: it is a label: what it is worth is what the hold of that sum in a sandbox is worth. -/
noncomputable def Try.pinned : Pinned := { name := "ytiphipgheadakaa", sum := "cb3f4ba17fc9cb5a726e3af61ee1891a577c7d2fd792bf0da8ec5c99fad0227a", checked := Try.checked }
namespace Rows
def none {H : Type} : Left H := { results := [], args := [] }

/-- 'headendlaw7.MarkSumsAreZero': WHATEVER THE INPUT: true; the input reads as it did. -/
def markSumsAreZeroSpec : ChangeSpec := { name := "markSumsAreZero", fn := fun _ => fun
  | [d] => { results := [.lit (.bool true)], args := [d] }
  | _ => none }
def markSumsAreZeroRow : OpenClaim := { program := "ytiphipgheadakaa", sum := "cb3f4ba17fc9cb5a726e3af61ee1891a577c7d2fd792bf0da8ec5c99fad0227a", func := "headend/headendlaw7.MarkSumsAreZero", spec := "markSumsAreZero", apart := false }
def MarkSumsAreZeroSaid : Prop := markSumsAreZeroRow.holds Try.pinned (OpenSpec.ofChange markSumsAreZeroSpec)

/-- ITS FALSE NEIGHBOUR: 'it returns false'. Refute it at one input. -/
def markSumsAreZeroWrong : ChangeSpec := { name := "markSumsAreZero", fn := fun _ => fun
  | [d] => { results := [.lit (.bool false)], args := [d] }
  | _ => none }
def MarkSumsAreZeroWrongFalsely : Prop := markSumsAreZeroRow.holds Try.pinned (OpenSpec.ofChange markSumsAreZeroWrong)

/-- 'headendlaw7.MarkShortsMatchSpec': WHATEVER THE INPUT: true; the input reads as it did. -/
def markShortsMatchSpecSpec : ChangeSpec := { name := "markShortsMatchSpec", fn := fun _ => fun
  | [d1, d2] => { results := [.lit (.bool true)], args := [d1, d2] }
  | _ => none }
def markShortsMatchSpecRow : OpenClaim := { program := "ytiphipgheadakaa", sum := "cb3f4ba17fc9cb5a726e3af61ee1891a577c7d2fd792bf0da8ec5c99fad0227a", func := "headend/headendlaw7.MarkShortsMatchSpec", spec := "markShortsMatchSpec", unfollowed := true, recurses := true, apart := false }
def MarkShortsMatchSpecSaid : Prop := markShortsMatchSpecRow.holds Try.pinned (OpenSpec.ofChange markShortsMatchSpecSpec)

/-- ITS FALSE NEIGHBOUR: 'it returns false'. Refute it at one input. -/
def markShortsMatchSpecWrong : ChangeSpec := { name := "markShortsMatchSpec", fn := fun _ => fun
  | [d1, d2] => { results := [.lit (.bool false)], args := [d1, d2] }
  | _ => none }
def MarkShortsMatchSpecWrongFalsely : Prop := markShortsMatchSpecRow.holds Try.pinned (OpenSpec.ofChange markShortsMatchSpecWrong)

/-- 'headendlaw7.MarkTimesAgree': WHATEVER THE INPUT: true; the input reads as it did. -/
def markTimesAgreeSpec : ChangeSpec := { name := "markTimesAgree", fn := fun _ => fun
  | [d1, d2] => { results := [.lit (.bool true)], args := [d1, d2] }
  | _ => none }
def markTimesAgreeRow : OpenClaim := { program := "ytiphipgheadakaa", sum := "cb3f4ba17fc9cb5a726e3af61ee1891a577c7d2fd792bf0da8ec5c99fad0227a", func := "headend/headendlaw7.MarkTimesAgree", spec := "markTimesAgree", unfollowed := true, recurses := true, apart := false }
def MarkTimesAgreeSaid : Prop := markTimesAgreeRow.holds Try.pinned (OpenSpec.ofChange markTimesAgreeSpec)

/-- ITS FALSE NEIGHBOUR: 'it returns false'. Refute it at one input. -/
def markTimesAgreeWrong : ChangeSpec := { name := "markTimesAgree", fn := fun _ => fun
  | [d1, d2] => { results := [.lit (.bool false)], args := [d1, d2] }
  | _ => none }
def MarkTimesAgreeWrongFalsely : Prop := markTimesAgreeRow.holds Try.pinned (OpenSpec.ofChange markTimesAgreeWrong)

/-- 'headendlaw7.MarkPartsMatchSpec': WHATEVER THE INPUT: true; the input reads as it did. -/
def markPartsMatchSpecSpec : ChangeSpec := { name := "markPartsMatchSpec", fn := fun _ => fun
  | [d1, d2, d3] => { results := [.lit (.bool true)], args := [d1, d2, d3] }
  | _ => none }
def markPartsMatchSpecRow : OpenClaim := { program := "ytiphipgheadakaa", sum := "cb3f4ba17fc9cb5a726e3af61ee1891a577c7d2fd792bf0da8ec5c99fad0227a", func := "headend/headendlaw7.MarkPartsMatchSpec", spec := "markPartsMatchSpec", unfollowed := true, recurses := true, apart := false }
def MarkPartsMatchSpecSaid : Prop := markPartsMatchSpecRow.holds Try.pinned (OpenSpec.ofChange markPartsMatchSpecSpec)

/-- ITS FALSE NEIGHBOUR: 'it returns false'. Refute it at one input. -/
def markPartsMatchSpecWrong : ChangeSpec := { name := "markPartsMatchSpec", fn := fun _ => fun
  | [d1, d2, d3] => { results := [.lit (.bool false)], args := [d1, d2, d3] }
  | _ => none }
def MarkPartsMatchSpecWrongFalsely : Prop := markPartsMatchSpecRow.holds Try.pinned (OpenSpec.ofChange markPartsMatchSpecWrong)

/-- 'headendlaw7.MarkDuesMatchSpec': WHATEVER THE INPUT: true; the input reads as it did. -/
def markDuesMatchSpecSpec : ChangeSpec := { name := "markDuesMatchSpec", fn := fun _ => fun
  | [d1, d2, d3] => { results := [.lit (.bool true)], args := [d1, d2, d3] }
  | _ => none }
def markDuesMatchSpecRow : OpenClaim := { program := "ytiphipgheadakaa", sum := "cb3f4ba17fc9cb5a726e3af61ee1891a577c7d2fd792bf0da8ec5c99fad0227a", func := "headend/headendlaw7.MarkDuesMatchSpec", spec := "markDuesMatchSpec", unfollowed := true, recurses := true, apart := false }
def MarkDuesMatchSpecSaid : Prop := markDuesMatchSpecRow.holds Try.pinned (OpenSpec.ofChange markDuesMatchSpecSpec)

/-- ITS FALSE NEIGHBOUR: 'it returns false'. Refute it at one input. -/
def markDuesMatchSpecWrong : ChangeSpec := { name := "markDuesMatchSpec", fn := fun _ => fun
  | [d1, d2, d3] => { results := [.lit (.bool false)], args := [d1, d2, d3] }
  | _ => none }
def MarkDuesMatchSpecWrongFalsely : Prop := markDuesMatchSpecRow.holds Try.pinned (OpenSpec.ofChange markDuesMatchSpecWrong)

/-- 'headendlaw7.MarkDuesAddUp': WHATEVER THE INPUT: true; the input reads as it did. -/
def markDuesAddUpSpec : ChangeSpec := { name := "markDuesAddUp", fn := fun _ => fun
  | [d1, d2, d3, d4] => { results := [.lit (.bool true)], args := [d1, d2, d3, d4] }
  | _ => none }
def markDuesAddUpRow : OpenClaim := { program := "ytiphipgheadakaa", sum := "cb3f4ba17fc9cb5a726e3af61ee1891a577c7d2fd792bf0da8ec5c99fad0227a", func := "headend/headendlaw7.MarkDuesAddUp", spec := "markDuesAddUp", unfollowed := true, recurses := true, apart := false }
def MarkDuesAddUpSaid : Prop := markDuesAddUpRow.holds Try.pinned (OpenSpec.ofChange markDuesAddUpSpec)

/-- ITS FALSE NEIGHBOUR: 'it returns false'. Refute it at one input. -/
def markDuesAddUpWrong : ChangeSpec := { name := "markDuesAddUp", fn := fun _ => fun
  | [d1, d2, d3, d4] => { results := [.lit (.bool false)], args := [d1, d2, d3, d4] }
  | _ => none }
def MarkDuesAddUpWrongFalsely : Prop := markDuesAddUpRow.holds Try.pinned (OpenSpec.ofChange markDuesAddUpWrong)

/-- 'headendlaw7.MarkInsertsKeepAll': WHATEVER THE INPUT: true; the input reads as it did. -/
def markInsertsKeepAllSpec : ChangeSpec := { name := "markInsertsKeepAll", fn := fun _ => fun
  | [d1, d2, d3, d4] => { results := [.lit (.bool true)], args := [d1, d2, d3, d4] }
  | _ => none }
def markInsertsKeepAllRow : OpenClaim := { program := "ytiphipgheadakaa", sum := "cb3f4ba17fc9cb5a726e3af61ee1891a577c7d2fd792bf0da8ec5c99fad0227a", func := "headend/headendlaw7.MarkInsertsKeepAll", spec := "markInsertsKeepAll", unfollowed := true, recurses := true, apart := false }
def MarkInsertsKeepAllSaid : Prop := markInsertsKeepAllRow.holds Try.pinned (OpenSpec.ofChange markInsertsKeepAllSpec)

/-- ITS FALSE NEIGHBOUR: 'it returns false'. Refute it at one input. -/
def markInsertsKeepAllWrong : ChangeSpec := { name := "markInsertsKeepAll", fn := fun _ => fun
  | [d1, d2, d3, d4] => { results := [.lit (.bool false)], args := [d1, d2, d3, d4] }
  | _ => none }
def MarkInsertsKeepAllWrongFalsely : Prop := markInsertsKeepAllRow.holds Try.pinned (OpenSpec.ofChange markInsertsKeepAllWrong)

/-- 'headendlaw7.MarkReplacesGoOn': WHATEVER THE INPUT: true; the input reads as it did. -/
def markReplacesGoOnSpec : ChangeSpec := { name := "markReplacesGoOn", fn := fun _ => fun
  | [d1, d2, d3, d4] => { results := [.lit (.bool true)], args := [d1, d2, d3, d4] }
  | _ => none }
def markReplacesGoOnRow : OpenClaim := { program := "ytiphipgheadakaa", sum := "cb3f4ba17fc9cb5a726e3af61ee1891a577c7d2fd792bf0da8ec5c99fad0227a", func := "headend/headendlaw7.MarkReplacesGoOn", spec := "markReplacesGoOn", unfollowed := true, recurses := true, apart := false }
def MarkReplacesGoOnSaid : Prop := markReplacesGoOnRow.holds Try.pinned (OpenSpec.ofChange markReplacesGoOnSpec)

/-- ITS FALSE NEIGHBOUR: 'it returns false'. Refute it at one input. -/
def markReplacesGoOnWrong : ChangeSpec := { name := "markReplacesGoOn", fn := fun _ => fun
  | [d1, d2, d3, d4] => { results := [.lit (.bool false)], args := [d1, d2, d3, d4] }
  | _ => none }
def MarkReplacesGoOnWrongFalsely : Prop := markReplacesGoOnRow.holds Try.pinned (OpenSpec.ofChange markReplacesGoOnWrong)

/-- 'headendlaw7.MarkInsertsMatchSpec': WHATEVER THE INPUT: true; the input reads as it did. -/
def markInsertsMatchSpecSpec : ChangeSpec := { name := "markInsertsMatchSpec", fn := fun _ => fun
  | [d1, d2, d3, d4] => { results := [.lit (.bool true)], args := [d1, d2, d3, d4] }
  | _ => none }
def markInsertsMatchSpecRow : OpenClaim := { program := "ytiphipgheadakaa", sum := "cb3f4ba17fc9cb5a726e3af61ee1891a577c7d2fd792bf0da8ec5c99fad0227a", func := "headend/headendlaw7.MarkInsertsMatchSpec", spec := "markInsertsMatchSpec", unfollowed := true, recurses := true, apart := false }
def MarkInsertsMatchSpecSaid : Prop := markInsertsMatchSpecRow.holds Try.pinned (OpenSpec.ofChange markInsertsMatchSpecSpec)

/-- ITS FALSE NEIGHBOUR: 'it returns false'. Refute it at one input. -/
def markInsertsMatchSpecWrong : ChangeSpec := { name := "markInsertsMatchSpec", fn := fun _ => fun
  | [d1, d2, d3, d4] => { results := [.lit (.bool false)], args := [d1, d2, d3, d4] }
  | _ => none }
def MarkInsertsMatchSpecWrongFalsely : Prop := markInsertsMatchSpecRow.holds Try.pinned (OpenSpec.ofChange markInsertsMatchSpecWrong)

/- THE SECOND FORM. 'bulk': how many values and letters a reading holds, each counted each time it is reached (what is shared counts as often as it is met; a slice's spare places count too). A statement '..UptoSaid' is the law's where the arguments, and the package variables that the reading takes, are together of bulk at most 1048576: NARROWER than '..Said'. Prove '..Said' where nothing that the law and all that it calls make is longer than what came in: it says more and counts as full. Else prove '..UptoSaid'. A law counts once. -/
mutual
def uptoBulk {H : Type} : DataW H → Nat
  | .lit (.string bytes) => bytes.length + 1
  | .lit _ => 1
  | .nil => 1
  | .ptr d => uptoBulk d + 1
  | .slice elems spare => uptoBulkAll elems + uptoBulkAll spare + 1
  | .agg parts => uptoBulkAll parts + 1
  | .iface _ d => uptoBulk d + 1
  | .map entries => uptoBulkEntries entries + 1
  | .held _ => 1
def uptoBulkAll {H : Type} : List (DataW H) → Nat
  | [] => 0
  | d :: r => uptoBulk d + uptoBulkAll r
def uptoBulkEntries {H : Type} : List (Lit × DataW H) → Nat
  | [] => 0
  | x :: r => uptoBulkEntry x + uptoBulkEntries r
def uptoBulkEntry {H : Type} : Lit × DataW H → Nat
  | (.string bytes, d) => bytes.length + uptoBulk d + 1
  | (_, d) => uptoBulk d + 1
 end
def uptoSmall : (H : Type) → List (DataW H) → Bool := fun _ ds => decide (uptoBulkAll ds ≤ 1048576)
def OpenSpec.upto (s : _root_.Go.ChangeSpec) : _root_.Go.OpenSpec := { _root_.Go.OpenSpec.ofChange s with cond := some uptoSmall }

/-- 'headendlaw7.MarkSumsAreZero', WHERE WHAT IT READS IS OF BULK AT MOST 1048576: true; the input reads as it did. -/
def markSumsAreZeroUptoRow : OpenClaim := { program := "ytiphipgheadakaa", sum := "cb3f4ba17fc9cb5a726e3af61ee1891a577c7d2fd792bf0da8ec5c99fad0227a", func := "headend/headendlaw7.MarkSumsAreZero", spec := "markSumsAreZero", apart := false, narrowed := true }
def MarkSumsAreZeroUptoSaid : Prop := markSumsAreZeroUptoRow.holds Try.pinned (OpenSpec.upto markSumsAreZeroSpec)

/-- 'headendlaw7.MarkShortsMatchSpec', WHERE WHAT IT READS IS OF BULK AT MOST 1048576: true; the input reads as it did. -/
def markShortsMatchSpecUptoRow : OpenClaim := { program := "ytiphipgheadakaa", sum := "cb3f4ba17fc9cb5a726e3af61ee1891a577c7d2fd792bf0da8ec5c99fad0227a", func := "headend/headendlaw7.MarkShortsMatchSpec", spec := "markShortsMatchSpec", unfollowed := true, recurses := true, apart := false, narrowed := true }
def MarkShortsMatchSpecUptoSaid : Prop := markShortsMatchSpecUptoRow.holds Try.pinned (OpenSpec.upto markShortsMatchSpecSpec)

/-- 'headendlaw7.MarkTimesAgree', WHERE WHAT IT READS IS OF BULK AT MOST 1048576: true; the input reads as it did. -/
def markTimesAgreeUptoRow : OpenClaim := { program := "ytiphipgheadakaa", sum := "cb3f4ba17fc9cb5a726e3af61ee1891a577c7d2fd792bf0da8ec5c99fad0227a", func := "headend/headendlaw7.MarkTimesAgree", spec := "markTimesAgree", unfollowed := true, recurses := true, apart := false, narrowed := true }
def MarkTimesAgreeUptoSaid : Prop := markTimesAgreeUptoRow.holds Try.pinned (OpenSpec.upto markTimesAgreeSpec)

/-- 'headendlaw7.MarkPartsMatchSpec', WHERE WHAT IT READS IS OF BULK AT MOST 1048576: true; the input reads as it did. -/
def markPartsMatchSpecUptoRow : OpenClaim := { program := "ytiphipgheadakaa", sum := "cb3f4ba17fc9cb5a726e3af61ee1891a577c7d2fd792bf0da8ec5c99fad0227a", func := "headend/headendlaw7.MarkPartsMatchSpec", spec := "markPartsMatchSpec", unfollowed := true, recurses := true, apart := false, narrowed := true }
def MarkPartsMatchSpecUptoSaid : Prop := markPartsMatchSpecUptoRow.holds Try.pinned (OpenSpec.upto markPartsMatchSpecSpec)

/-- 'headendlaw7.MarkDuesMatchSpec', WHERE WHAT IT READS IS OF BULK AT MOST 1048576: true; the input reads as it did. -/
def markDuesMatchSpecUptoRow : OpenClaim := { program := "ytiphipgheadakaa", sum := "cb3f4ba17fc9cb5a726e3af61ee1891a577c7d2fd792bf0da8ec5c99fad0227a", func := "headend/headendlaw7.MarkDuesMatchSpec", spec := "markDuesMatchSpec", unfollowed := true, recurses := true, apart := false, narrowed := true }
def MarkDuesMatchSpecUptoSaid : Prop := markDuesMatchSpecUptoRow.holds Try.pinned (OpenSpec.upto markDuesMatchSpecSpec)

/-- 'headendlaw7.MarkDuesAddUp', WHERE WHAT IT READS IS OF BULK AT MOST 1048576: true; the input reads as it did. -/
def markDuesAddUpUptoRow : OpenClaim := { program := "ytiphipgheadakaa", sum := "cb3f4ba17fc9cb5a726e3af61ee1891a577c7d2fd792bf0da8ec5c99fad0227a", func := "headend/headendlaw7.MarkDuesAddUp", spec := "markDuesAddUp", unfollowed := true, recurses := true, apart := false, narrowed := true }
def MarkDuesAddUpUptoSaid : Prop := markDuesAddUpUptoRow.holds Try.pinned (OpenSpec.upto markDuesAddUpSpec)

/-- 'headendlaw7.MarkInsertsKeepAll', WHERE WHAT IT READS IS OF BULK AT MOST 1048576: true; the input reads as it did. -/
def markInsertsKeepAllUptoRow : OpenClaim := { program := "ytiphipgheadakaa", sum := "cb3f4ba17fc9cb5a726e3af61ee1891a577c7d2fd792bf0da8ec5c99fad0227a", func := "headend/headendlaw7.MarkInsertsKeepAll", spec := "markInsertsKeepAll", unfollowed := true, recurses := true, apart := false, narrowed := true }
def MarkInsertsKeepAllUptoSaid : Prop := markInsertsKeepAllUptoRow.holds Try.pinned (OpenSpec.upto markInsertsKeepAllSpec)

/-- 'headendlaw7.MarkReplacesGoOn', WHERE WHAT IT READS IS OF BULK AT MOST 1048576: true; the input reads as it did. -/
def markReplacesGoOnUptoRow : OpenClaim := { program := "ytiphipgheadakaa", sum := "cb3f4ba17fc9cb5a726e3af61ee1891a577c7d2fd792bf0da8ec5c99fad0227a", func := "headend/headendlaw7.MarkReplacesGoOn", spec := "markReplacesGoOn", unfollowed := true, recurses := true, apart := false, narrowed := true }
def MarkReplacesGoOnUptoSaid : Prop := markReplacesGoOnUptoRow.holds Try.pinned (OpenSpec.upto markReplacesGoOnSpec)

/-- 'headendlaw7.MarkInsertsMatchSpec', WHERE WHAT IT READS IS OF BULK AT MOST 1048576: true; the input reads as it did. -/
def markInsertsMatchSpecUptoRow : OpenClaim := { program := "ytiphipgheadakaa", sum := "cb3f4ba17fc9cb5a726e3af61ee1891a577c7d2fd792bf0da8ec5c99fad0227a", func := "headend/headendlaw7.MarkInsertsMatchSpec", spec := "markInsertsMatchSpec", unfollowed := true, recurses := true, apart := false, narrowed := true }
def MarkInsertsMatchSpecUptoSaid : Prop := markInsertsMatchSpecUptoRow.holds Try.pinned (OpenSpec.upto markInsertsMatchSpecSpec)

end Rows
end Go.Proofs.Ytiphipgheadakaa
