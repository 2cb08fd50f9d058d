/-
  No cell of these rows narrows 'for every input' (looked for: loops, veiled, ifaces, maps, wideKeys, modest, calm, conditions, laid).
  DERIVED. THE GIVEN ROWS OF THIS SEAT. 10 by the template 'for every input the law returns true; each argument reads behind the call as it read before'; 0 by the template 'total and deterministic' (their statements: YtfjgpafcdkodmaaTotals.lean).
  GIVEN WITH THE SEED: the statements are not yours to turn. If you find one false, say at which input.
  Laid BY PROGRAM, IN A SANDBOX (cutbox-rows.mjs): the forced cells as the released guide's own fill.sh prints them over the translation 81c90beeb51a14bb… (all of the seat's roots in one cut). By AI agents, Wed Nov 11 2026. No macro, syntax, notation, axiom, sorry.
-/
import Derived.Test.YtfjgpafcdkodmaaChecked
import GoSem.Claim
import GoSem.ClaimJoined
import GoSem.ClaimMapViews
import Derived.JoinedTies
import Derived.KernelRfl
namespace Go.Proofs.Ytfjgpafcdkodmaa
/- THE CELL 'sum', in the pinned program and in every row, IS THE sha256 OF THE DUMP (.gsa) THAT YtfjgpafcdkodmaaProg.lean LOADS. Nothing in Lean hashes anything: it is a label: what it is worth is what the hold of that sum in a sandbox is worth. -/
noncomputable def Try.pinned : Pinned := { name := "ytfjgpafcdkodmaa", sum := "81c90beeb51a14bb2a9566292ea26e401ca8c6a23a4a0e02032dba7a45d2f067", checked := Try.checked }
namespace Rows
def none {H : Type} : Left H := { results := [], args := [] }

/-- 'headendlaw5.LadderViewersMatchSpec': WHATEVER THE INPUT: true; the input reads as it did. -/
def ladderViewersMatchSpecSpec : ChangeSpec := { name := "ladderViewersMatchSpec", fn := fun _ => fun
  | [d1, d2, d3] => { results := [.lit (.bool true)], args := [d1, d2, d3] }
  | _ => none }
def ladderViewersMatchSpecRow : OpenClaim := { program := "ytfjgpafcdkodmaa", sum := "81c90beeb51a14bb2a9566292ea26e401ca8c6a23a4a0e02032dba7a45d2f067", func := "headend/headendlaw5.LadderViewersMatchSpec", spec := "ladderViewersMatchSpec", unfollowed := true, recurses := true, apart := false }
def LadderViewersMatchSpecSaid : Prop := ladderViewersMatchSpecRow.holds Try.pinned (OpenSpec.ofChange ladderViewersMatchSpecSpec)

/-- ITS FALSE NEIGHBOUR: 'it returns false'. Refute it at one input. -/
def ladderViewersMatchSpecWrong : ChangeSpec := { name := "ladderViewersMatchSpec", fn := fun _ => fun
  | [d1, d2, d3] => { results := [.lit (.bool false)], args := [d1, d2, d3] }
  | _ => none }
def LadderViewersMatchSpecWrongFalsely : Prop := ladderViewersMatchSpecRow.holds Try.pinned (OpenSpec.ofChange ladderViewersMatchSpecWrong)

/-- 'headendlaw5.LadderMoreIsWorthMore': WHATEVER THE INPUT: true; the input reads as it did. -/
def ladderMoreIsWorthMoreSpec : ChangeSpec := { name := "ladderMoreIsWorthMore", fn := fun _ => fun
  | [d1, d2, d3] => { results := [.lit (.bool true)], args := [d1, d2, d3] }
  | _ => none }
def ladderMoreIsWorthMoreRow : OpenClaim := { program := "ytfjgpafcdkodmaa", sum := "81c90beeb51a14bb2a9566292ea26e401ca8c6a23a4a0e02032dba7a45d2f067", func := "headend/headendlaw5.LadderMoreIsWorthMore", spec := "ladderMoreIsWorthMore", unfollowed := true, recurses := true, apart := false }
def LadderMoreIsWorthMoreSaid : Prop := ladderMoreIsWorthMoreRow.holds Try.pinned (OpenSpec.ofChange ladderMoreIsWorthMoreSpec)

/-- ITS FALSE NEIGHBOUR: 'it returns false'. Refute it at one input. -/
def ladderMoreIsWorthMoreWrong : ChangeSpec := { name := "ladderMoreIsWorthMore", fn := fun _ => fun
  | [d1, d2, d3] => { results := [.lit (.bool false)], args := [d1, d2, d3] }
  | _ => none }
def LadderMoreIsWorthMoreWrongFalsely : Prop := ladderMoreIsWorthMoreRow.holds Try.pinned (OpenSpec.ofChange ladderMoreIsWorthMoreWrong)

/-- 'headendlaw5.LadderHullsMatchSpec': WHATEVER THE INPUT: true; the input reads as it did. -/
def ladderHullsMatchSpecSpec : ChangeSpec := { name := "ladderHullsMatchSpec", fn := fun _ => fun
  | [d] => { results := [.lit (.bool true)], args := [d] }
  | _ => none }
def ladderHullsMatchSpecRow : OpenClaim := { program := "ytfjgpafcdkodmaa", sum := "81c90beeb51a14bb2a9566292ea26e401ca8c6a23a4a0e02032dba7a45d2f067", func := "headend/headendlaw5.LadderHullsMatchSpec", spec := "ladderHullsMatchSpec", unfollowed := true, recurses := true, apart := false }
def LadderHullsMatchSpecSaid : Prop := ladderHullsMatchSpecRow.holds Try.pinned (OpenSpec.ofChange ladderHullsMatchSpecSpec)

/-- ITS FALSE NEIGHBOUR: 'it returns false'. Refute it at one input. -/
def ladderHullsMatchSpecWrong : ChangeSpec := { name := "ladderHullsMatchSpec", fn := fun _ => fun
  | [d] => { results := [.lit (.bool false)], args := [d] }
  | _ => none }
def LadderHullsMatchSpecWrongFalsely : Prop := ladderHullsMatchSpecRow.holds Try.pinned (OpenSpec.ofChange ladderHullsMatchSpecWrong)

/-- 'headendlaw5.LadderHullsAreSensible': WHATEVER THE INPUT: true; the input reads as it did. -/
def ladderHullsAreSensibleSpec : ChangeSpec := { name := "ladderHullsAreSensible", fn := fun _ => fun
  | [d] => { results := [.lit (.bool true)], args := [d] }
  | _ => none }
def ladderHullsAreSensibleRow : OpenClaim := { program := "ytfjgpafcdkodmaa", sum := "81c90beeb51a14bb2a9566292ea26e401ca8c6a23a4a0e02032dba7a45d2f067", func := "headend/headendlaw5.LadderHullsAreSensible", spec := "ladderHullsAreSensible", unfollowed := true, recurses := true, apart := false }
def LadderHullsAreSensibleSaid : Prop := ladderHullsAreSensibleRow.holds Try.pinned (OpenSpec.ofChange ladderHullsAreSensibleSpec)

/-- ITS FALSE NEIGHBOUR: 'it returns false'. Refute it at one input. -/
def ladderHullsAreSensibleWrong : ChangeSpec := { name := "ladderHullsAreSensible", fn := fun _ => fun
  | [d] => { results := [.lit (.bool false)], args := [d] }
  | _ => none }
def LadderHullsAreSensibleWrongFalsely : Prop := ladderHullsAreSensibleRow.holds Try.pinned (OpenSpec.ofChange ladderHullsAreSensibleWrong)

/-- 'headendlaw5.LadderMixesLieOnHulls': WHATEVER THE INPUT: true; the input reads as it did. -/
def ladderMixesLieOnHullsSpec : ChangeSpec := { name := "ladderMixesLieOnHulls", fn := fun _ => fun
  | [d1, d2] => { results := [.lit (.bool true)], args := [d1, d2] }
  | _ => none }
def ladderMixesLieOnHullsRow : OpenClaim := { program := "ytfjgpafcdkodmaa", sum := "81c90beeb51a14bb2a9566292ea26e401ca8c6a23a4a0e02032dba7a45d2f067", func := "headend/headendlaw5.LadderMixesLieOnHulls", spec := "ladderMixesLieOnHulls", unfollowed := true, recurses := true, apart := false }
def LadderMixesLieOnHullsSaid : Prop := ladderMixesLieOnHullsRow.holds Try.pinned (OpenSpec.ofChange ladderMixesLieOnHullsSpec)

/-- ITS FALSE NEIGHBOUR: 'it returns false'. Refute it at one input. -/
def ladderMixesLieOnHullsWrong : ChangeSpec := { name := "ladderMixesLieOnHulls", fn := fun _ => fun
  | [d1, d2] => { results := [.lit (.bool false)], args := [d1, d2] }
  | _ => none }
def LadderMixesLieOnHullsWrongFalsely : Prop := ladderMixesLieOnHullsRow.holds Try.pinned (OpenSpec.ofChange ladderMixesLieOnHullsWrong)

/-- 'headendlaw5.LadderMixesMatchSpec': WHATEVER THE INPUT: true; the input reads as it did. -/
def ladderMixesMatchSpecSpec : ChangeSpec := { name := "ladderMixesMatchSpec", fn := fun _ => fun
  | [d1, d2] => { results := [.lit (.bool true)], args := [d1, d2] }
  | _ => none }
def ladderMixesMatchSpecRow : OpenClaim := { program := "ytfjgpafcdkodmaa", sum := "81c90beeb51a14bb2a9566292ea26e401ca8c6a23a4a0e02032dba7a45d2f067", func := "headend/headendlaw5.LadderMixesMatchSpec", spec := "ladderMixesMatchSpec", unfollowed := true, recurses := true, apart := false }
def LadderMixesMatchSpecSaid : Prop := ladderMixesMatchSpecRow.holds Try.pinned (OpenSpec.ofChange ladderMixesMatchSpecSpec)

/-- ITS FALSE NEIGHBOUR: 'it returns false'. Refute it at one input. -/
def ladderMixesMatchSpecWrong : ChangeSpec := { name := "ladderMixesMatchSpec", fn := fun _ => fun
  | [d1, d2] => { results := [.lit (.bool false)], args := [d1, d2] }
  | _ => none }
def LadderMixesMatchSpecWrongFalsely : Prop := ladderMixesMatchSpecRow.holds Try.pinned (OpenSpec.ofChange ladderMixesMatchSpecWrong)

/-- 'headendlaw5.LadderStepsMatchSpec': WHATEVER THE INPUT: true; the input reads as it did. -/
def ladderStepsMatchSpecSpec : ChangeSpec := { name := "ladderStepsMatchSpec", fn := fun _ => fun
  | [d1, d2, d3, d4] => { results := [.lit (.bool true)], args := [d1, d2, d3, d4] }
  | _ => none }
def ladderStepsMatchSpecRow : OpenClaim := { program := "ytfjgpafcdkodmaa", sum := "81c90beeb51a14bb2a9566292ea26e401ca8c6a23a4a0e02032dba7a45d2f067", func := "headend/headendlaw5.LadderStepsMatchSpec", spec := "ladderStepsMatchSpec", unfollowed := true, recurses := true, apart := false }
def LadderStepsMatchSpecSaid : Prop := ladderStepsMatchSpecRow.holds Try.pinned (OpenSpec.ofChange ladderStepsMatchSpecSpec)

/-- ITS FALSE NEIGHBOUR: 'it returns false'. Refute it at one input. -/
def ladderStepsMatchSpecWrong : ChangeSpec := { name := "ladderStepsMatchSpec", fn := fun _ => fun
  | [d1, d2, d3, d4] => { results := [.lit (.bool false)], args := [d1, d2, d3, d4] }
  | _ => none }
def LadderStepsMatchSpecWrongFalsely : Prop := ladderStepsMatchSpecRow.holds Try.pinned (OpenSpec.ofChange ladderStepsMatchSpecWrong)

/-- 'headendlaw5.LadderStepsHaveNoGaps': WHATEVER THE INPUT: true; the input reads as it did. -/
def ladderStepsHaveNoGapsSpec : ChangeSpec := { name := "ladderStepsHaveNoGaps", fn := fun _ => fun
  | [d1, d2] => { results := [.lit (.bool true)], args := [d1, d2] }
  | _ => none }
def ladderStepsHaveNoGapsRow : OpenClaim := { program := "ytfjgpafcdkodmaa", sum := "81c90beeb51a14bb2a9566292ea26e401ca8c6a23a4a0e02032dba7a45d2f067", func := "headend/headendlaw5.LadderStepsHaveNoGaps", spec := "ladderStepsHaveNoGaps", unfollowed := true, recurses := true, apart := false }
def LadderStepsHaveNoGapsSaid : Prop := ladderStepsHaveNoGapsRow.holds Try.pinned (OpenSpec.ofChange ladderStepsHaveNoGapsSpec)

/-- ITS FALSE NEIGHBOUR: 'it returns false'. Refute it at one input. -/
def ladderStepsHaveNoGapsWrong : ChangeSpec := { name := "ladderStepsHaveNoGaps", fn := fun _ => fun
  | [d1, d2] => { results := [.lit (.bool false)], args := [d1, d2] }
  | _ => none }
def LadderStepsHaveNoGapsWrongFalsely : Prop := ladderStepsHaveNoGapsRow.holds Try.pinned (OpenSpec.ofChange ladderStepsHaveNoGapsWrong)

/-- 'headendlaw5.LadderBestMatchesSpec': WHATEVER THE INPUT: true; the input reads as it did. -/
def ladderBestMatchesSpecSpec : ChangeSpec := { name := "ladderBestMatchesSpec", fn := fun _ => fun
  | [d1, d2, d3] => { results := [.lit (.bool true)], args := [d1, d2, d3] }
  | _ => none }
def ladderBestMatchesSpecRow : OpenClaim := { program := "ytfjgpafcdkodmaa", sum := "81c90beeb51a14bb2a9566292ea26e401ca8c6a23a4a0e02032dba7a45d2f067", func := "headend/headendlaw5.LadderBestMatchesSpec", spec := "ladderBestMatchesSpec", unfollowed := true, recurses := true, apart := false }
def LadderBestMatchesSpecSaid : Prop := ladderBestMatchesSpecRow.holds Try.pinned (OpenSpec.ofChange ladderBestMatchesSpecSpec)

/-- ITS FALSE NEIGHBOUR: 'it returns false'. Refute it at one input. -/
def ladderBestMatchesSpecWrong : ChangeSpec := { name := "ladderBestMatchesSpec", fn := fun _ => fun
  | [d1, d2, d3] => { results := [.lit (.bool false)], args := [d1, d2, d3] }
  | _ => none }
def LadderBestMatchesSpecWrongFalsely : Prop := ladderBestMatchesSpecRow.holds Try.pinned (OpenSpec.ofChange ladderBestMatchesSpecWrong)

/-- 'headendlaw5.LadderBestIsWorthMost': WHATEVER THE INPUT: true; the input reads as it did. -/
def ladderBestIsWorthMostSpec : ChangeSpec := { name := "ladderBestIsWorthMost", fn := fun _ => fun
  | [d1, d2, d3, d4] => { results := [.lit (.bool true)], args := [d1, d2, d3, d4] }
  | _ => none }
def ladderBestIsWorthMostRow : OpenClaim := { program := "ytfjgpafcdkodmaa", sum := "81c90beeb51a14bb2a9566292ea26e401ca8c6a23a4a0e02032dba7a45d2f067", func := "headend/headendlaw5.LadderBestIsWorthMost", spec := "ladderBestIsWorthMost", unfollowed := true, recurses := true, apart := false }
def LadderBestIsWorthMostSaid : Prop := ladderBestIsWorthMostRow.holds Try.pinned (OpenSpec.ofChange ladderBestIsWorthMostSpec)

/-- ITS FALSE NEIGHBOUR: 'it returns false'. Refute it at one input. -/
def ladderBestIsWorthMostWrong : ChangeSpec := { name := "ladderBestIsWorthMost", fn := fun _ => fun
  | [d1, d2, d3, d4] => { results := [.lit (.bool false)], args := [d1, d2, d3, d4] }
  | _ => none }
def LadderBestIsWorthMostWrongFalsely : Prop := ladderBestIsWorthMostRow.holds Try.pinned (OpenSpec.ofChange ladderBestIsWorthMostWrong)

/- THE SECOND FORM. 'bulk': how many values and letters a reading holds, each counted each time it is reached (what is shared counts as often as it is met; a slice's spare places count too). A statement '..UptoSaid' is the law's where the arguments, and the package variables that the reading takes, are together of bulk at most 1048576: NARROWER than '..Said'. Prove '..Said' where nothing that the law and all that it calls make is longer than what came in: it says more and counts as full. Else prove '..UptoSaid'. A law counts once. -/
mutual
def uptoBulk {H : Type} : DataW H → Nat
  | .lit (.string bytes) => bytes.length + 1
  | .lit _ => 1
  | .nil => 1
  | .ptr d => uptoBulk d + 1
  | .slice elems spare => uptoBulkAll elems + uptoBulkAll spare + 1
  | .agg parts => uptoBulkAll parts + 1
  | .iface _ d => uptoBulk d + 1
  | .map entries => uptoBulkEntries entries + 1
  | .held _ => 1
def uptoBulkAll {H : Type} : List (DataW H) → Nat
  | [] => 0
  | d :: r => uptoBulk d + uptoBulkAll r
def uptoBulkEntries {H : Type} : List (Lit × DataW H) → Nat
  | [] => 0
  | x :: r => uptoBulkEntry x + uptoBulkEntries r
def uptoBulkEntry {H : Type} : Lit × DataW H → Nat
  | (.string bytes, d) => bytes.length + uptoBulk d + 1
  | (_, d) => uptoBulk d + 1
 end
def uptoSmall : (H : Type) → List (DataW H) → Bool := fun _ ds => decide (uptoBulkAll ds ≤ 1048576)
def OpenSpec.upto (s : _root_.Go.ChangeSpec) : _root_.Go.OpenSpec := { _root_.Go.OpenSpec.ofChange s with cond := some uptoSmall }

/-- 'headendlaw5.LadderViewersMatchSpec', WHERE WHAT IT READS IS OF BULK AT MOST 1048576: true; the input reads as it did. -/
def ladderViewersMatchSpecUptoRow : OpenClaim := { program := "ytfjgpafcdkodmaa", sum := "81c90beeb51a14bb2a9566292ea26e401ca8c6a23a4a0e02032dba7a45d2f067", func := "headend/headendlaw5.LadderViewersMatchSpec", spec := "ladderViewersMatchSpec", unfollowed := true, recurses := true, apart := false, narrowed := true }
def LadderViewersMatchSpecUptoSaid : Prop := ladderViewersMatchSpecUptoRow.holds Try.pinned (OpenSpec.upto ladderViewersMatchSpecSpec)

/-- 'headendlaw5.LadderMoreIsWorthMore', WHERE WHAT IT READS IS OF BULK AT MOST 1048576: true; the input reads as it did. -/
def ladderMoreIsWorthMoreUptoRow : OpenClaim := { program := "ytfjgpafcdkodmaa", sum := "81c90beeb51a14bb2a9566292ea26e401ca8c6a23a4a0e02032dba7a45d2f067", func := "headend/headendlaw5.LadderMoreIsWorthMore", spec := "ladderMoreIsWorthMore", unfollowed := true, recurses := true, apart := false, narrowed := true }
def LadderMoreIsWorthMoreUptoSaid : Prop := ladderMoreIsWorthMoreUptoRow.holds Try.pinned (OpenSpec.upto ladderMoreIsWorthMoreSpec)

/-- 'headendlaw5.LadderHullsMatchSpec', WHERE WHAT IT READS IS OF BULK AT MOST 1048576: true; the input reads as it did. -/
def ladderHullsMatchSpecUptoRow : OpenClaim := { program := "ytfjgpafcdkodmaa", sum := "81c90beeb51a14bb2a9566292ea26e401ca8c6a23a4a0e02032dba7a45d2f067", func := "headend/headendlaw5.LadderHullsMatchSpec", spec := "ladderHullsMatchSpec", unfollowed := true, recurses := true, apart := false, narrowed := true }
def LadderHullsMatchSpecUptoSaid : Prop := ladderHullsMatchSpecUptoRow.holds Try.pinned (OpenSpec.upto ladderHullsMatchSpecSpec)

/-- 'headendlaw5.LadderHullsAreSensible', WHERE WHAT IT READS IS OF BULK AT MOST 1048576: true; the input reads as it did. -/
def ladderHullsAreSensibleUptoRow : OpenClaim := { program := "ytfjgpafcdkodmaa", sum := "81c90beeb51a14bb2a9566292ea26e401ca8c6a23a4a0e02032dba7a45d2f067", func := "headend/headendlaw5.LadderHullsAreSensible", spec := "ladderHullsAreSensible", unfollowed := true, recurses := true, apart := false, narrowed := true }
def LadderHullsAreSensibleUptoSaid : Prop := ladderHullsAreSensibleUptoRow.holds Try.pinned (OpenSpec.upto ladderHullsAreSensibleSpec)

/-- 'headendlaw5.LadderMixesLieOnHulls', WHERE WHAT IT READS IS OF BULK AT MOST 1048576: true; the input reads as it did. -/
def ladderMixesLieOnHullsUptoRow : OpenClaim := { program := "ytfjgpafcdkodmaa", sum := "81c90beeb51a14bb2a9566292ea26e401ca8c6a23a4a0e02032dba7a45d2f067", func := "headend/headendlaw5.LadderMixesLieOnHulls", spec := "ladderMixesLieOnHulls", unfollowed := true, recurses := true, apart := false, narrowed := true }
def LadderMixesLieOnHullsUptoSaid : Prop := ladderMixesLieOnHullsUptoRow.holds Try.pinned (OpenSpec.upto ladderMixesLieOnHullsSpec)

/-- 'headendlaw5.LadderMixesMatchSpec', WHERE WHAT IT READS IS OF BULK AT MOST 1048576: true; the input reads as it did. -/
def ladderMixesMatchSpecUptoRow : OpenClaim := { program := "ytfjgpafcdkodmaa", sum := "81c90beeb51a14bb2a9566292ea26e401ca8c6a23a4a0e02032dba7a45d2f067", func := "headend/headendlaw5.LadderMixesMatchSpec", spec := "ladderMixesMatchSpec", unfollowed := true, recurses := true, apart := false, narrowed := true }
def LadderMixesMatchSpecUptoSaid : Prop := ladderMixesMatchSpecUptoRow.holds Try.pinned (OpenSpec.upto ladderMixesMatchSpecSpec)

/-- 'headendlaw5.LadderStepsMatchSpec', WHERE WHAT IT READS IS OF BULK AT MOST 1048576: true; the input reads as it did. -/
def ladderStepsMatchSpecUptoRow : OpenClaim := { program := "ytfjgpafcdkodmaa", sum := "81c90beeb51a14bb2a9566292ea26e401ca8c6a23a4a0e02032dba7a45d2f067", func := "headend/headendlaw5.LadderStepsMatchSpec", spec := "ladderStepsMatchSpec", unfollowed := true, recurses := true, apart := false, narrowed := true }
def LadderStepsMatchSpecUptoSaid : Prop := ladderStepsMatchSpecUptoRow.holds Try.pinned (OpenSpec.upto ladderStepsMatchSpecSpec)

/-- 'headendlaw5.LadderStepsHaveNoGaps', WHERE WHAT IT READS IS OF BULK AT MOST 1048576: true; the input reads as it did. -/
def ladderStepsHaveNoGapsUptoRow : OpenClaim := { program := "ytfjgpafcdkodmaa", sum := "81c90beeb51a14bb2a9566292ea26e401ca8c6a23a4a0e02032dba7a45d2f067", func := "headend/headendlaw5.LadderStepsHaveNoGaps", spec := "ladderStepsHaveNoGaps", unfollowed := true, recurses := true, apart := false, narrowed := true }
def LadderStepsHaveNoGapsUptoSaid : Prop := ladderStepsHaveNoGapsUptoRow.holds Try.pinned (OpenSpec.upto ladderStepsHaveNoGapsSpec)

/-- 'headendlaw5.LadderBestMatchesSpec', WHERE WHAT IT READS IS OF BULK AT MOST 1048576: true; the input reads as it did. -/
def ladderBestMatchesSpecUptoRow : OpenClaim := { program := "ytfjgpafcdkodmaa", sum := "81c90beeb51a14bb2a9566292ea26e401ca8c6a23a4a0e02032dba7a45d2f067", func := "headend/headendlaw5.LadderBestMatchesSpec", spec := "ladderBestMatchesSpec", unfollowed := true, recurses := true, apart := false, narrowed := true }
def LadderBestMatchesSpecUptoSaid : Prop := ladderBestMatchesSpecUptoRow.holds Try.pinned (OpenSpec.upto ladderBestMatchesSpecSpec)

/-- 'headendlaw5.LadderBestIsWorthMost', WHERE WHAT IT READS IS OF BULK AT MOST 1048576: true; the input reads as it did. -/
def ladderBestIsWorthMostUptoRow : OpenClaim := { program := "ytfjgpafcdkodmaa", sum := "81c90beeb51a14bb2a9566292ea26e401ca8c6a23a4a0e02032dba7a45d2f067", func := "headend/headendlaw5.LadderBestIsWorthMost", spec := "ladderBestIsWorthMost", unfollowed := true, recurses := true, apart := false, narrowed := true }
def LadderBestIsWorthMostUptoSaid : Prop := ladderBestIsWorthMostUptoRow.holds Try.pinned (OpenSpec.upto ladderBestIsWorthMostSpec)

end Rows
end Go.Proofs.Ytfjgpafcdkodmaa
