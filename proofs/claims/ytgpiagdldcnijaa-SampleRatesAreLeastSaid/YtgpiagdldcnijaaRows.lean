/-
  No cell of these rows narrows 'for every input' (looked for: loops, veiled, ifaces, maps, wideKeys, modest, calm, conditions, laid).
  DERIVED. THE GIVEN ROWS OF THIS SEAT. 12 by the template 'for every input the law returns true; each argument reads behind the call as it read before'; 0 by the template 'total and deterministic' (their statements: YtgpiagdldcnijaaTotals.lean).
  GIVEN WITH THE SEED: the statements are not yours to turn. If you find one false, say at which input.
  Laid BY PROGRAM, IN A SANDBOX (cutbox-rows.mjs): the forced cells as the released guide's own fill.sh prints them over the translation 53cd0016d7d19301… (all of the seat's roots in one cut). By AI agents, Wed Nov 11 2026. No macro, syntax, notation, axiom, sorry.
-/
import Derived.Test.YtgpiagdldcnijaaChecked
import GoSem.Claim
import GoSem.ClaimJoined
import GoSem.ClaimMapViews
import Derived.JoinedTies
import Derived.KernelRfl
namespace Go.Proofs.Ytgpiagdldcnijaa
/- THE CELL 'sum', in the pinned program and in every row, IS THE sha256 OF THE DUMP (.gsa) THAT YtgpiagdldcnijaaProg.lean LOADS. Nothing in Lean hashes anything: it is a label: what it is worth is what the hold of that sum in a sandbox is worth. -/
noncomputable def Try.pinned : Pinned := { name := "ytgpiagdldcnijaa", sum := "53cd0016d7d1930141626ed88a1da6a21e3553b463daa3a4268c45811da92e98", checked := Try.checked }
namespace Rows
def none {H : Type} : Left H := { results := [], args := [] }

/-- 'headendlaw2.BoxFragmentsJoin': WHATEVER THE INPUT: true; the input reads as it did. -/
def boxFragmentsJoinSpec : ChangeSpec := { name := "boxFragmentsJoin", fn := fun _ => fun
  | [d1, d2] => { results := [.lit (.bool true)], args := [d1, d2] }
  | _ => none }
def boxFragmentsJoinRow : OpenClaim := { program := "ytgpiagdldcnijaa", sum := "53cd0016d7d1930141626ed88a1da6a21e3553b463daa3a4268c45811da92e98", func := "headend/headendlaw2.BoxFragmentsJoin", spec := "boxFragmentsJoin", recurses := true, apart := false }
def BoxFragmentsJoinSaid : Prop := boxFragmentsJoinRow.holds Try.pinned (OpenSpec.ofChange boxFragmentsJoinSpec)

/-- ITS FALSE NEIGHBOUR: 'it returns false'. Refute it at one input. -/
def boxFragmentsJoinWrong : ChangeSpec := { name := "boxFragmentsJoin", fn := fun _ => fun
  | [d1, d2] => { results := [.lit (.bool false)], args := [d1, d2] }
  | _ => none }
def BoxFragmentsJoinWrongFalsely : Prop := boxFragmentsJoinRow.holds Try.pinned (OpenSpec.ofChange boxFragmentsJoinWrong)

/-- 'headendlaw2.BoxCompactsMatchSpec': WHATEVER THE INPUT: true; the input reads as it did. -/
def boxCompactsMatchSpecSpec : ChangeSpec := { name := "boxCompactsMatchSpec", fn := fun _ => fun
  | [d1, d2, d3] => { results := [.lit (.bool true)], args := [d1, d2, d3] }
  | _ => none }
def boxCompactsMatchSpecRow : OpenClaim := { program := "ytgpiagdldcnijaa", sum := "53cd0016d7d1930141626ed88a1da6a21e3553b463daa3a4268c45811da92e98", func := "headend/headendlaw2.BoxCompactsMatchSpec", spec := "boxCompactsMatchSpec", recurses := true, apart := false }
def BoxCompactsMatchSpecSaid : Prop := boxCompactsMatchSpecRow.holds Try.pinned (OpenSpec.ofChange boxCompactsMatchSpecSpec)

/-- ITS FALSE NEIGHBOUR: 'it returns false'. Refute it at one input. -/
def boxCompactsMatchSpecWrong : ChangeSpec := { name := "boxCompactsMatchSpec", fn := fun _ => fun
  | [d1, d2, d3] => { results := [.lit (.bool false)], args := [d1, d2, d3] }
  | _ => none }
def BoxCompactsMatchSpecWrongFalsely : Prop := boxCompactsMatchSpecRow.holds Try.pinned (OpenSpec.ofChange boxCompactsMatchSpecWrong)

/-- 'headendlaw2.BoxCompactsComeBack': WHATEVER THE INPUT: true; the input reads as it did. -/
def boxCompactsComeBackSpec : ChangeSpec := { name := "boxCompactsComeBack", fn := fun _ => fun
  | [d1, d2, d3, d4] => { results := [.lit (.bool true)], args := [d1, d2, d3, d4] }
  | _ => none }
def boxCompactsComeBackRow : OpenClaim := { program := "ytgpiagdldcnijaa", sum := "53cd0016d7d1930141626ed88a1da6a21e3553b463daa3a4268c45811da92e98", func := "headend/headendlaw2.BoxCompactsComeBack", spec := "boxCompactsComeBack", unfollowed := true, recurses := true, apart := false }
def BoxCompactsComeBackSaid : Prop := boxCompactsComeBackRow.holds Try.pinned (OpenSpec.ofChange boxCompactsComeBackSpec)

/-- ITS FALSE NEIGHBOUR: 'it returns false'. Refute it at one input. -/
def boxCompactsComeBackWrong : ChangeSpec := { name := "boxCompactsComeBack", fn := fun _ => fun
  | [d1, d2, d3, d4] => { results := [.lit (.bool false)], args := [d1, d2, d3, d4] }
  | _ => none }
def BoxCompactsComeBackWrongFalsely : Prop := boxCompactsComeBackRow.holds Try.pinned (OpenSpec.ofChange boxCompactsComeBackWrong)

/-- 'headendlaw3.SampleOrdersAreAll': WHATEVER THE INPUT: true; the input reads as it did. -/
def sampleOrdersAreAllSpec : ChangeSpec := { name := "sampleOrdersAreAll", fn := fun _ => fun
  | [d] => { results := [.lit (.bool true)], args := [d] }
  | _ => none }
def sampleOrdersAreAllRow : OpenClaim := { program := "ytgpiagdldcnijaa", sum := "53cd0016d7d1930141626ed88a1da6a21e3553b463daa3a4268c45811da92e98", func := "headend/headendlaw3.SampleOrdersAreAll", spec := "sampleOrdersAreAll", unfollowed := true, recurses := true, apart := false }
def SampleOrdersAreAllSaid : Prop := sampleOrdersAreAllRow.holds Try.pinned (OpenSpec.ofChange sampleOrdersAreAllSpec)

/-- ITS FALSE NEIGHBOUR: 'it returns false'. Refute it at one input. -/
def sampleOrdersAreAllWrong : ChangeSpec := { name := "sampleOrdersAreAll", fn := fun _ => fun
  | [d] => { results := [.lit (.bool false)], args := [d] }
  | _ => none }
def SampleOrdersAreAllWrongFalsely : Prop := sampleOrdersAreAllRow.holds Try.pinned (OpenSpec.ofChange sampleOrdersAreAllWrong)

/-- 'headendlaw3.SampleGroupsAreAll': WHATEVER THE INPUT: true; the input reads as it did. -/
def sampleGroupsAreAllSpec : ChangeSpec := { name := "sampleGroupsAreAll", fn := fun _ => fun
  | [d] => { results := [.lit (.bool true)], args := [d] }
  | _ => none }
def sampleGroupsAreAllRow : OpenClaim := { program := "ytgpiagdldcnijaa", sum := "53cd0016d7d1930141626ed88a1da6a21e3553b463daa3a4268c45811da92e98", func := "headend/headendlaw3.SampleGroupsAreAll", spec := "sampleGroupsAreAll", unfollowed := true, recurses := true, apart := false }
def SampleGroupsAreAllSaid : Prop := sampleGroupsAreAllRow.holds Try.pinned (OpenSpec.ofChange sampleGroupsAreAllSpec)

/-- ITS FALSE NEIGHBOUR: 'it returns false'. Refute it at one input. -/
def sampleGroupsAreAllWrong : ChangeSpec := { name := "sampleGroupsAreAll", fn := fun _ => fun
  | [d] => { results := [.lit (.bool false)], args := [d] }
  | _ => none }
def SampleGroupsAreAllWrongFalsely : Prop := sampleGroupsAreAllRow.holds Try.pinned (OpenSpec.ofChange sampleGroupsAreAllWrong)

/-- 'headendlaw3.SampleNeededIsEnough': WHATEVER THE INPUT: true; the input reads as it did. -/
def sampleNeededIsEnoughSpec : ChangeSpec := { name := "sampleNeededIsEnough", fn := fun _ => fun
  | [d1, d2] => { results := [.lit (.bool true)], args := [d1, d2] }
  | _ => none }
def sampleNeededIsEnoughRow : OpenClaim := { program := "ytgpiagdldcnijaa", sum := "53cd0016d7d1930141626ed88a1da6a21e3553b463daa3a4268c45811da92e98", func := "headend/headendlaw3.SampleNeededIsEnough", spec := "sampleNeededIsEnough", unfollowed := true, recurses := true, apart := false }
def SampleNeededIsEnoughSaid : Prop := sampleNeededIsEnoughRow.holds Try.pinned (OpenSpec.ofChange sampleNeededIsEnoughSpec)

/-- ITS FALSE NEIGHBOUR: 'it returns false'. Refute it at one input. -/
def sampleNeededIsEnoughWrong : ChangeSpec := { name := "sampleNeededIsEnough", fn := fun _ => fun
  | [d1, d2] => { results := [.lit (.bool false)], args := [d1, d2] }
  | _ => none }
def SampleNeededIsEnoughWrongFalsely : Prop := sampleNeededIsEnoughRow.holds Try.pinned (OpenSpec.ofChange sampleNeededIsEnoughWrong)

/-- 'headendlaw3.SampleNeededMatchesSpec': WHATEVER THE INPUT: true; the input reads as it did. -/
def sampleNeededMatchesSpecSpec : ChangeSpec := { name := "sampleNeededMatchesSpec", fn := fun _ => fun
  | [d1, d2, d3] => { results := [.lit (.bool true)], args := [d1, d2, d3] }
  | _ => none }
def sampleNeededMatchesSpecRow : OpenClaim := { program := "ytgpiagdldcnijaa", sum := "53cd0016d7d1930141626ed88a1da6a21e3553b463daa3a4268c45811da92e98", func := "headend/headendlaw3.SampleNeededMatchesSpec", spec := "sampleNeededMatchesSpec", unfollowed := true, recurses := true, apart := false }
def SampleNeededMatchesSpecSaid : Prop := sampleNeededMatchesSpecRow.holds Try.pinned (OpenSpec.ofChange sampleNeededMatchesSpecSpec)

/-- ITS FALSE NEIGHBOUR: 'it returns false'. Refute it at one input. -/
def sampleNeededMatchesSpecWrong : ChangeSpec := { name := "sampleNeededMatchesSpec", fn := fun _ => fun
  | [d1, d2, d3] => { results := [.lit (.bool false)], args := [d1, d2, d3] }
  | _ => none }
def SampleNeededMatchesSpecWrongFalsely : Prop := sampleNeededMatchesSpecRow.holds Try.pinned (OpenSpec.ofChange sampleNeededMatchesSpecWrong)

/-- 'headendlaw3.SampleMovesMatchSpec': WHATEVER THE INPUT: true; the input reads as it did. -/
def sampleMovesMatchSpecSpec : ChangeSpec := { name := "sampleMovesMatchSpec", fn := fun _ => fun
  | [d1, d2, d3] => { results := [.lit (.bool true)], args := [d1, d2, d3] }
  | _ => none }
def sampleMovesMatchSpecRow : OpenClaim := { program := "ytgpiagdldcnijaa", sum := "53cd0016d7d1930141626ed88a1da6a21e3553b463daa3a4268c45811da92e98", func := "headend/headendlaw3.SampleMovesMatchSpec", spec := "sampleMovesMatchSpec", unfollowed := true, recurses := true, apart := false }
def SampleMovesMatchSpecSaid : Prop := sampleMovesMatchSpecRow.holds Try.pinned (OpenSpec.ofChange sampleMovesMatchSpecSpec)

/-- ITS FALSE NEIGHBOUR: 'it returns false'. Refute it at one input. -/
def sampleMovesMatchSpecWrong : ChangeSpec := { name := "sampleMovesMatchSpec", fn := fun _ => fun
  | [d1, d2, d3] => { results := [.lit (.bool false)], args := [d1, d2, d3] }
  | _ => none }
def SampleMovesMatchSpecWrongFalsely : Prop := sampleMovesMatchSpecRow.holds Try.pinned (OpenSpec.ofChange sampleMovesMatchSpecWrong)

/-- 'headendlaw3.SampleJoinsFollow': WHATEVER THE INPUT: true; the input reads as it did. -/
def sampleJoinsFollowSpec : ChangeSpec := { name := "sampleJoinsFollow", fn := fun _ => fun
  | [d1, d2] => { results := [.lit (.bool true)], args := [d1, d2] }
  | _ => none }
def sampleJoinsFollowRow : OpenClaim := { program := "ytgpiagdldcnijaa", sum := "53cd0016d7d1930141626ed88a1da6a21e3553b463daa3a4268c45811da92e98", func := "headend/headendlaw3.SampleJoinsFollow", spec := "sampleJoinsFollow", unfollowed := true, recurses := true, apart := false }
def SampleJoinsFollowSaid : Prop := sampleJoinsFollowRow.holds Try.pinned (OpenSpec.ofChange sampleJoinsFollowSpec)

/-- ITS FALSE NEIGHBOUR: 'it returns false'. Refute it at one input. -/
def sampleJoinsFollowWrong : ChangeSpec := { name := "sampleJoinsFollow", fn := fun _ => fun
  | [d1, d2] => { results := [.lit (.bool false)], args := [d1, d2] }
  | _ => none }
def SampleJoinsFollowWrongFalsely : Prop := sampleJoinsFollowRow.holds Try.pinned (OpenSpec.ofChange sampleJoinsFollowWrong)

/-- 'headendlaw3.SampleTightsPresent': WHATEVER THE INPUT: true; the input reads as it did. -/
def sampleTightsPresentSpec : ChangeSpec := { name := "sampleTightsPresent", fn := fun _ => fun
  | [d1, d2, d3] => { results := [.lit (.bool true)], args := [d1, d2, d3] }
  | _ => none }
def sampleTightsPresentRow : OpenClaim := { program := "ytgpiagdldcnijaa", sum := "53cd0016d7d1930141626ed88a1da6a21e3553b463daa3a4268c45811da92e98", func := "headend/headendlaw3.SampleTightsPresent", spec := "sampleTightsPresent", unfollowed := true, recurses := true, apart := false }
def SampleTightsPresentSaid : Prop := sampleTightsPresentRow.holds Try.pinned (OpenSpec.ofChange sampleTightsPresentSpec)

/-- ITS FALSE NEIGHBOUR: 'it returns false'. Refute it at one input. -/
def sampleTightsPresentWrong : ChangeSpec := { name := "sampleTightsPresent", fn := fun _ => fun
  | [d1, d2, d3] => { results := [.lit (.bool false)], args := [d1, d2, d3] }
  | _ => none }
def SampleTightsPresentWrongFalsely : Prop := sampleTightsPresentRow.holds Try.pinned (OpenSpec.ofChange sampleTightsPresentWrong)

/-- 'headendlaw3.SampleRatesAreLeast': WHATEVER THE INPUT: true; the input reads as it did. -/
def sampleRatesAreLeastSpec : ChangeSpec := { name := "sampleRatesAreLeast", fn := fun _ => fun
  | [d1, d2] => { results := [.lit (.bool true)], args := [d1, d2] }
  | _ => none }
def sampleRatesAreLeastRow : OpenClaim := { program := "ytgpiagdldcnijaa", sum := "53cd0016d7d1930141626ed88a1da6a21e3553b463daa3a4268c45811da92e98", func := "headend/headendlaw3.SampleRatesAreLeast", spec := "sampleRatesAreLeast", unfollowed := true, recurses := true, apart := false }
def SampleRatesAreLeastSaid : Prop := sampleRatesAreLeastRow.holds Try.pinned (OpenSpec.ofChange sampleRatesAreLeastSpec)

/-- ITS FALSE NEIGHBOUR: 'it returns false'. Refute it at one input. -/
def sampleRatesAreLeastWrong : ChangeSpec := { name := "sampleRatesAreLeast", fn := fun _ => fun
  | [d1, d2] => { results := [.lit (.bool false)], args := [d1, d2] }
  | _ => none }
def SampleRatesAreLeastWrongFalsely : Prop := sampleRatesAreLeastRow.holds Try.pinned (OpenSpec.ofChange sampleRatesAreLeastWrong)

/-- 'headendlaw3.SampleInterleavesAll': WHATEVER THE INPUT: true; the input reads as it did. -/
def sampleInterleavesAllSpec : ChangeSpec := { name := "sampleInterleavesAll", fn := fun _ => fun
  | [d1, d2] => { results := [.lit (.bool true)], args := [d1, d2] }
  | _ => none }
def sampleInterleavesAllRow : OpenClaim := { program := "ytgpiagdldcnijaa", sum := "53cd0016d7d1930141626ed88a1da6a21e3553b463daa3a4268c45811da92e98", func := "headend/headendlaw3.SampleInterleavesAll", spec := "sampleInterleavesAll", unfollowed := true, recurses := true, apart := false }
def SampleInterleavesAllSaid : Prop := sampleInterleavesAllRow.holds Try.pinned (OpenSpec.ofChange sampleInterleavesAllSpec)

/-- ITS FALSE NEIGHBOUR: 'it returns false'. Refute it at one input. -/
def sampleInterleavesAllWrong : ChangeSpec := { name := "sampleInterleavesAll", fn := fun _ => fun
  | [d1, d2] => { results := [.lit (.bool false)], args := [d1, d2] }
  | _ => none }
def SampleInterleavesAllWrongFalsely : Prop := sampleInterleavesAllRow.holds Try.pinned (OpenSpec.ofChange sampleInterleavesAllWrong)

/- THE SECOND FORM. 'bulk': how many values and letters a reading holds, each counted each time it is reached (what is shared counts as often as it is met; a slice's spare places count too). A statement '..UptoSaid' is the law's where the arguments, and the package variables that the reading takes, are together of bulk at most 1048576: NARROWER than '..Said'. Prove '..Said' where nothing that the law and all that it calls make is longer than what came in: it says more and counts as full. Else prove '..UptoSaid'. A law counts once. -/
mutual
def uptoBulk {H : Type} : DataW H → Nat
  | .lit (.string bytes) => bytes.length + 1
  | .lit _ => 1
  | .nil => 1
  | .ptr d => uptoBulk d + 1
  | .slice elems spare => uptoBulkAll elems + uptoBulkAll spare + 1
  | .agg parts => uptoBulkAll parts + 1
  | .iface _ d => uptoBulk d + 1
  | .map entries => uptoBulkEntries entries + 1
  | .held _ => 1
def uptoBulkAll {H : Type} : List (DataW H) → Nat
  | [] => 0
  | d :: r => uptoBulk d + uptoBulkAll r
def uptoBulkEntries {H : Type} : List (Lit × DataW H) → Nat
  | [] => 0
  | x :: r => uptoBulkEntry x + uptoBulkEntries r
def uptoBulkEntry {H : Type} : Lit × DataW H → Nat
  | (.string bytes, d) => bytes.length + uptoBulk d + 1
  | (_, d) => uptoBulk d + 1
 end
def uptoSmall : (H : Type) → List (DataW H) → Bool := fun _ ds => decide (uptoBulkAll ds ≤ 1048576)
def OpenSpec.upto (s : _root_.Go.ChangeSpec) : _root_.Go.OpenSpec := { _root_.Go.OpenSpec.ofChange s with cond := some uptoSmall }

/-- 'headendlaw2.BoxFragmentsJoin', WHERE WHAT IT READS IS OF BULK AT MOST 1048576: true; the input reads as it did. -/
def boxFragmentsJoinUptoRow : OpenClaim := { program := "ytgpiagdldcnijaa", sum := "53cd0016d7d1930141626ed88a1da6a21e3553b463daa3a4268c45811da92e98", func := "headend/headendlaw2.BoxFragmentsJoin", spec := "boxFragmentsJoin", recurses := true, apart := false, narrowed := true }
def BoxFragmentsJoinUptoSaid : Prop := boxFragmentsJoinUptoRow.holds Try.pinned (OpenSpec.upto boxFragmentsJoinSpec)

/-- 'headendlaw2.BoxCompactsMatchSpec', WHERE WHAT IT READS IS OF BULK AT MOST 1048576: true; the input reads as it did. -/
def boxCompactsMatchSpecUptoRow : OpenClaim := { program := "ytgpiagdldcnijaa", sum := "53cd0016d7d1930141626ed88a1da6a21e3553b463daa3a4268c45811da92e98", func := "headend/headendlaw2.BoxCompactsMatchSpec", spec := "boxCompactsMatchSpec", recurses := true, apart := false, narrowed := true }
def BoxCompactsMatchSpecUptoSaid : Prop := boxCompactsMatchSpecUptoRow.holds Try.pinned (OpenSpec.upto boxCompactsMatchSpecSpec)

/-- 'headendlaw2.BoxCompactsComeBack', WHERE WHAT IT READS IS OF BULK AT MOST 1048576: true; the input reads as it did. -/
def boxCompactsComeBackUptoRow : OpenClaim := { program := "ytgpiagdldcnijaa", sum := "53cd0016d7d1930141626ed88a1da6a21e3553b463daa3a4268c45811da92e98", func := "headend/headendlaw2.BoxCompactsComeBack", spec := "boxCompactsComeBack", unfollowed := true, recurses := true, apart := false, narrowed := true }
def BoxCompactsComeBackUptoSaid : Prop := boxCompactsComeBackUptoRow.holds Try.pinned (OpenSpec.upto boxCompactsComeBackSpec)

/-- 'headendlaw3.SampleOrdersAreAll', WHERE WHAT IT READS IS OF BULK AT MOST 1048576: true; the input reads as it did. -/
def sampleOrdersAreAllUptoRow : OpenClaim := { program := "ytgpiagdldcnijaa", sum := "53cd0016d7d1930141626ed88a1da6a21e3553b463daa3a4268c45811da92e98", func := "headend/headendlaw3.SampleOrdersAreAll", spec := "sampleOrdersAreAll", unfollowed := true, recurses := true, apart := false, narrowed := true }
def SampleOrdersAreAllUptoSaid : Prop := sampleOrdersAreAllUptoRow.holds Try.pinned (OpenSpec.upto sampleOrdersAreAllSpec)

/-- 'headendlaw3.SampleGroupsAreAll', WHERE WHAT IT READS IS OF BULK AT MOST 1048576: true; the input reads as it did. -/
def sampleGroupsAreAllUptoRow : OpenClaim := { program := "ytgpiagdldcnijaa", sum := "53cd0016d7d1930141626ed88a1da6a21e3553b463daa3a4268c45811da92e98", func := "headend/headendlaw3.SampleGroupsAreAll", spec := "sampleGroupsAreAll", unfollowed := true, recurses := true, apart := false, narrowed := true }
def SampleGroupsAreAllUptoSaid : Prop := sampleGroupsAreAllUptoRow.holds Try.pinned (OpenSpec.upto sampleGroupsAreAllSpec)

/-- 'headendlaw3.SampleNeededIsEnough', WHERE WHAT IT READS IS OF BULK AT MOST 1048576: true; the input reads as it did. -/
def sampleNeededIsEnoughUptoRow : OpenClaim := { program := "ytgpiagdldcnijaa", sum := "53cd0016d7d1930141626ed88a1da6a21e3553b463daa3a4268c45811da92e98", func := "headend/headendlaw3.SampleNeededIsEnough", spec := "sampleNeededIsEnough", unfollowed := true, recurses := true, apart := false, narrowed := true }
def SampleNeededIsEnoughUptoSaid : Prop := sampleNeededIsEnoughUptoRow.holds Try.pinned (OpenSpec.upto sampleNeededIsEnoughSpec)

/-- 'headendlaw3.SampleNeededMatchesSpec', WHERE WHAT IT READS IS OF BULK AT MOST 1048576: true; the input reads as it did. -/
def sampleNeededMatchesSpecUptoRow : OpenClaim := { program := "ytgpiagdldcnijaa", sum := "53cd0016d7d1930141626ed88a1da6a21e3553b463daa3a4268c45811da92e98", func := "headend/headendlaw3.SampleNeededMatchesSpec", spec := "sampleNeededMatchesSpec", unfollowed := true, recurses := true, apart := false, narrowed := true }
def SampleNeededMatchesSpecUptoSaid : Prop := sampleNeededMatchesSpecUptoRow.holds Try.pinned (OpenSpec.upto sampleNeededMatchesSpecSpec)

/-- 'headendlaw3.SampleMovesMatchSpec', WHERE WHAT IT READS IS OF BULK AT MOST 1048576: true; the input reads as it did. -/
def sampleMovesMatchSpecUptoRow : OpenClaim := { program := "ytgpiagdldcnijaa", sum := "53cd0016d7d1930141626ed88a1da6a21e3553b463daa3a4268c45811da92e98", func := "headend/headendlaw3.SampleMovesMatchSpec", spec := "sampleMovesMatchSpec", unfollowed := true, recurses := true, apart := false, narrowed := true }
def SampleMovesMatchSpecUptoSaid : Prop := sampleMovesMatchSpecUptoRow.holds Try.pinned (OpenSpec.upto sampleMovesMatchSpecSpec)

/-- 'headendlaw3.SampleJoinsFollow', WHERE WHAT IT READS IS OF BULK AT MOST 1048576: true; the input reads as it did. -/
def sampleJoinsFollowUptoRow : OpenClaim := { program := "ytgpiagdldcnijaa", sum := "53cd0016d7d1930141626ed88a1da6a21e3553b463daa3a4268c45811da92e98", func := "headend/headendlaw3.SampleJoinsFollow", spec := "sampleJoinsFollow", unfollowed := true, recurses := true, apart := false, narrowed := true }
def SampleJoinsFollowUptoSaid : Prop := sampleJoinsFollowUptoRow.holds Try.pinned (OpenSpec.upto sampleJoinsFollowSpec)

/-- 'headendlaw3.SampleTightsPresent', WHERE WHAT IT READS IS OF BULK AT MOST 1048576: true; the input reads as it did. -/
def sampleTightsPresentUptoRow : OpenClaim := { program := "ytgpiagdldcnijaa", sum := "53cd0016d7d1930141626ed88a1da6a21e3553b463daa3a4268c45811da92e98", func := "headend/headendlaw3.SampleTightsPresent", spec := "sampleTightsPresent", unfollowed := true, recurses := true, apart := false, narrowed := true }
def SampleTightsPresentUptoSaid : Prop := sampleTightsPresentUptoRow.holds Try.pinned (OpenSpec.upto sampleTightsPresentSpec)

/-- 'headendlaw3.SampleRatesAreLeast', WHERE WHAT IT READS IS OF BULK AT MOST 1048576: true; the input reads as it did. -/
def sampleRatesAreLeastUptoRow : OpenClaim := { program := "ytgpiagdldcnijaa", sum := "53cd0016d7d1930141626ed88a1da6a21e3553b463daa3a4268c45811da92e98", func := "headend/headendlaw3.SampleRatesAreLeast", spec := "sampleRatesAreLeast", unfollowed := true, recurses := true, apart := false, narrowed := true }
def SampleRatesAreLeastUptoSaid : Prop := sampleRatesAreLeastUptoRow.holds Try.pinned (OpenSpec.upto sampleRatesAreLeastSpec)

/-- 'headendlaw3.SampleInterleavesAll', WHERE WHAT IT READS IS OF BULK AT MOST 1048576: true; the input reads as it did. -/
def sampleInterleavesAllUptoRow : OpenClaim := { program := "ytgpiagdldcnijaa", sum := "53cd0016d7d1930141626ed88a1da6a21e3553b463daa3a4268c45811da92e98", func := "headend/headendlaw3.SampleInterleavesAll", spec := "sampleInterleavesAll", unfollowed := true, recurses := true, apart := false, narrowed := true }
def SampleInterleavesAllUptoSaid : Prop := sampleInterleavesAllUptoRow.holds Try.pinned (OpenSpec.upto sampleInterleavesAllSpec)

end Rows
end Go.Proofs.Ytgpiagdldcnijaa
